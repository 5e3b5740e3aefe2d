/-
  Frames in memory; which may be; the first frame with a page; whether a ring may be.
-/
import Derived.Test.YtcloinonhpaojaaRows
import Derived.Test.YtcloinonhpaojaaMa
import Derived.WalkSpells
import Derived.WalkLawsBesides
import Derived.Below
import Derived.Lib.Walk
import Derived.Lib.Hide
import Derived.Laws.MakeOwn
import Derived.Laws.ResultCell
namespace Go.Proofs.Ytcloinonhpaojaa.Ck
open Go.RowKit

theorem toHid {p : Prop} (h : p) : Hid p := h
theorem below_on {w W W' : World} (h : Below w.heap.size w W) (h' : Below W.heap.size W W') : Below w.heap.size w W' := h.trans (h'.mono h.size)

/-- A frame's cells, a ring's value. -/
def frV (f : Fr) : Array Value := #[.int .i64 f.page, .bool f.used, .int .i64 f.pins]
abbrev rgC (a : Option Addr) (c : Nat) (r : Rg) : Array Value := #[.slice a r.fr.length c, .int .i64 r.hand]
abbrev rgV (a : Option Addr) (c : Nat) (r : Rg) : Value := .agg (rgC a c r)

/-- A slice of frames. -/
structure SlF (w : World) (a : Option Addr) (l : List Fr) : Prop where
  nonil : a = none → l = []
  cells : ∀ x, a = some x → ∀ i t, l[i]? = some t → x.spot = none ∧ w.cell? ⟨x.block, x.off + i * 3, none⟩ = some (.int .i64 t.page) ∧ w.cell? ⟨x.block, x.off + i * 3 + 1, none⟩ = some (.bool t.used) ∧ w.cell? ⟨x.block, x.off + i * 3 + 2, none⟩ = some (.int .i64 t.pins)

theorem SlF.below {w w' : World} {a : Option Addr} {l : List Fr} (h : SlF w a l) (hb : Below w.heap.size w w') : SlF w' a l :=
  ⟨h.nonil, fun x hx i t ht => by
    obtain ⟨h0, h1, h2, h3⟩ := h.cells x hx i t ht
    have hlt := World.block_lt_of_cell? _ _ h1
    exact ⟨h0, by rw [hb.cell (by exact hlt)]; exact h1, by rw [hb.cell (by exact hlt)]; exact h2, by rw [hb.cell (by exact hlt)]; exact h3⟩⟩
theorem SlF.nil (w : World) : SlF w none [] := ⟨fun _ => rfl, fun _ h => by simp at h⟩

theorem SlF.at {w : World} {a : Option Addr} {l : List Fr} (h : SlF w a l) (i : Nat) (hi : i < l.length) : ∃ b o, a = some ⟨b, o, none⟩ ∧ b < w.heap.size ∧
    w.cell? ⟨b, o + i * 3, none⟩ = some (.int .i64 l[i].page) ∧ w.cell? ⟨b, o + i * 3 + 1, none⟩ = some (.bool l[i].used) ∧ w.cell? ⟨b, o + i * 3 + 2, none⟩ = some (.int .i64 l[i].pins) := by
  cases a with
  | none => have := h.nonil rfl; subst this; simp at hi
  | some x =>
    obtain ⟨b, o, sp⟩ := x
    obtain ⟨h0, h1, h2, h3⟩ := h.cells _ rfl i _ (List.getElem?_eq_getElem hi)
    simp only at h0 h1 h2 h3
    subst h0
    exact ⟨b, o, rfl, World.block_lt_of_cell? _ _ h1, h1, h2, h3⟩

theorem known_any (p : Int) (w : World) : Calls Try.prog 59 #[.int .i64 p] w fun e w' => e = .returned (.bool (knownB p)) ∧ w' = w := by
  by_cases h : 0 ≤ p
  · go_enter Try.func59, Try.ntmps59
    go_wp2
    go_ret
    simp [h, knownB]
  · go_enter Try.func59, Try.ntmps59
    go_wp2
    go_ret
    simp [knownB]
    omega

theorem may_any (f : Fr) (w : World) : Calls Try.prog 84 #[.agg (frV f)] w fun e w' => e = .returned (.bool (mayF f)) ∧ Below w.heap.size w w' := by
  obtain ⟨pg, u, pn⟩ := f
  have hB := (Below.refl w.heap.size w).alloc (Nat.le_refl _) (.cells (frV ⟨pg, u, pn⟩) 123)
  simp only [frV] at hB ⊢
  by_cases hp : pg = -1
  · subst hp
    cases u
    · go_enter Try.func84, Try.ntmps84
      go_wp2
      go_ret
      exact ⟨by simp [mayF]; rfl, hB⟩
    · go_enter Try.func84, Try.ntmps84
      go_wp2
      go_ret
      exact ⟨by simp [mayF], hB⟩
  · cases hk : knownB pg
    · go_enter Try.func84, Try.ntmps84
      go_wp2_with fail
      refine (known_any pg _).mono ?_
      rintro e w' ⟨rfl, hw⟩
      obtain rfl := hw.symm
      rw [hk]
      go_wp2
      go_ret
      exact ⟨by simp [mayF, hp, hk], hB⟩
    · by_cases h0 : 0 ≤ pn
      · go_enter Try.func84, Try.ntmps84
        go_wp2_with fail
        refine (known_any pg _).mono ?_
        rintro e w' ⟨rfl, hw⟩
        obtain rfl := hw.symm
        rw [hk]
        go_wp2
        go_ret
        exact ⟨by simp [mayF, hp, hk, h0], hB⟩
      · go_enter Try.func84, Try.ntmps84
        go_wp2_with fail
        refine (known_any pg _).mono ?_
        rintro e w' ⟨rfl, hw⟩
        obtain rfl := hw.symm
        rw [hk]
        go_wp2
        go_ret
        exact ⟨by simp [mayF, hp, hk]; omega, hB⟩

set_option maxHeartbeats 1000000 in
theorem first_any (a : Option Addr) (c : Nat) (l : List Fr) (p : Int) (w : World) (h : SlF w a l) (hl : l.length ≤ 1000000) :
    Calls Try.prog 60 #[.slice a l.length c, .int .i64 p] w fun e w' => e = .returned (.int .i64 (firI l p)) ∧ Below w.heap.size w w' := by
  go_enter Try.func60, Try.ntmps60
  go_wp2_with fail
  go_loopw [9] (fun i wr => ∃ k : Nat, k ≤ l.length ∧ i = .int .i64 k ∧ (∀ j (hj : j < l.length), j < k → l[j].page ≠ p) ∧ Below w.heap.size w wr) (fun i _ => l.length - (intOf i).toNat)
  case atStart => exact ⟨0, Nat.zero_le _, rfl, fun j _ hj => absurd hj (by omega), Below.refl _ _⟩
  case round =>
    obtain ⟨k, hk, rfl, hup, hB⟩ := hrel
    have HU := toHid hup
    clear hup
    have hsl := h.below hB
    by_cases hlt : k < l.length
    · obtain ⟨b, o, rfl, hbl, c0, c1, c2⟩ := hsl.at k hlt
      have hB' := hB.alloc hB.size (.cells #[.int .i64 l[k].page, .bool l[k].used, .int .i64 l[k].pins] 123)
      have HB := toHid hB'
      clear hB hB'
      by_cases hp : l[k].page = p
      · have HP := toHid hp
        rw [hp] at c0 HB
        clear hp
        go_wp2
        go_ret
        exact ⟨by rw [firI_some hlt HP.out HU.out]; rfl, HB.out⟩
      · go_wp2_with fail
        go_roundw
        case rel =>
          refine ⟨k + 1, by omega, by simp, fun j hj hjk => ?_, HB.out⟩
          by_cases e : j = k
          · subst e; exact hp
          · exact HU.out j hj (by omega)
        case measure => first | omega | (simp only [intOf]; omega)
    · obtain rfl : k = l.length := by omega
      go_wp2
      go_ret
      exact ⟨by rw [firI_none fun j hj => HU.out j hj hj]; rfl, hB⟩
end Go.Proofs.Ytcloinonhpaojaa.Ck
