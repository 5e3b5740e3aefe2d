/-
  A page's slots, its number and LSN, a key's value; a new page; its stamp.
-/
import Derived.Test.YtebchgoaelamcaaDoorPd
namespace Go.Proofs.YtebchgoaelamcaaDoor
open Go.RowKit
set_option maxRecDepth 100000

theorem Tryd.info55 : (Tryd.prog.info? 55).map (fun i => (i.zero, i.size, i.bytes)) = some (some (.agg #[.bool false, .string ⟨#[]⟩, .string ⟨#[]⟩]), 3, 40) := by kernel_rfl

theorem cellsV_one (l : List Cl) : ∀ u ∈ cellsV l, u.oneCell' = true := by
  intro u hu
  simp [cellsV] at hu
  obtain ⟨c, _, h | h | h⟩ := hu <;> (subst h; rfl)

theorem own_nilcap {w : World} {B : Nat} {a : Option Addr} {n c : Nat} {e : TypeId} {size : Nat} {xs : List Value} {m : Nat} (h : w.ownsRow B e size (.slice a n c) m xs) : a = none → c = 0 := by
  rintro rfl
  rcases h.2 with ⟨h, _⟩ | ⟨_, _, _, h, _⟩ <;> simp at h
  exact h.2

/-- The cells of a slice of slots, one behind the other. -/
theorem SlC.flat {w : World} {x : Addr} {l : List Cl} (h : SlC w (some x) l) : ∀ j u, (cellsV l)[j]? = some u → w.cell? (x.add j) = some u := by
  intro j u hu
  have hj : j < l.length * 3 := by
    have := (List.getElem?_eq_some_iff.mp hu).1
    rw [cellsV_length] at this
    exact this
  have hi : j / 3 < l.length := by omega
  obtain ⟨h0, h1, h2, h3⟩ := h.cells x rfl (j / 3) l[j / 3] (List.getElem?_eq_getElem hi)
  obtain ⟨e0, e1, e2⟩ := cellsV_at l (j / 3) l[j / 3] (List.getElem?_eq_getElem hi)
  obtain ⟨b, o, sp⟩ := x
  simp only at h0
  subst h0
  have ea : (⟨b, o, none⟩ : Addr).add j = ⟨b, o + j, none⟩ := by unfold Addr.add; split <;> simp_all
  rw [ea]
  have hr : j % 3 = 0 ∨ j % 3 = 1 ∨ j % 3 = 2 := by omega
  rcases hr with hr | hr | hr
  · have : j = j / 3 * 3 := by omega
    rw [← this] at e0 h1
    rw [e0] at hu
    simp at hu
    rw [← hu]; exact h1
  · have : j = j / 3 * 3 + 1 := by omega
    rw [← this] at e1
    rw [e1] at hu
    simp at hu
    rw [← hu]
    have e : o + j = o + j / 3 * 3 + 1 := by omega
    rw [e]
    exact h2
  · have : j = j / 3 * 3 + 2 := by omega
    rw [← this] at e2
    rw [e2] at hu
    simp at hu
    rw [← hu]
    have e : o + j = o + j / 3 * 3 + 2 := by omega
    rw [e]
    exact h3

set_option maxHeartbeats 1000000 in
theorem cells_any (B p : Nat) (id : Int) (lsn : Nat) (v : Value) (l : List Cl) (w : World) (h : PgOk w B p id lsn v l) (hl : l.length ≤ 1000000) :
    Calls Tryd.prog 105 #[.pointer (some ⟨p, 0, none⟩)] w fun e w' => ∃ r, e = .returned r ∧ w'.ownsRow w.heap.size 55 3 r l.length (cellsV l) ∧ Below w.heap.size w w' := by
  obtain ⟨i0, hi, hz0, hz1, hz2⟩ := info_parts Tryd.info55
  obtain ⟨a, c, rfl⟩ := ownsRow_shape h.own
  obtain ⟨hsl, _, hlc, _⟩ := slC_of_own h.own
  have hnil := own_nilcap h.own
  obtain ⟨p0, p1, p2, f0, f1, f2, hz⟩ := h.cells
  clear h
  cases a with
  | none =>
    have := hsl.nonil rfl
    subst this
    obtain rfl := hnil rfl
    go_enter Tryd.func105, Tryd.ntmps105
    go_wp2_with (at_builtin; refine wpList_append_own_none rfl _ _ 37 rfl w.heap.size 55 i0 3 Tryd.underlying37 hi (.slice none 0 0) 0 [] rfl (World.ownsRow_nil _ _ _ _) rfl ?_)
    go_ret
    exact ⟨_, rfl, World.ownsRow_nil _ _ _ _, Below.refl _ _⟩
  | some x =>
    have hcs := hsl.flat
    go_enter Tryd.func105, Tryd.ntmps105
    go_wp2_with (at_builtin; refine wpList_append_own _ rfl _ _ 37 rfl w.heap.size 55 i0 _ 3 40 Tryd.underlying37 hi hz0 hz1 hz2 rfl (by decide) (.slice none 0 0) 0 [] rfl (World.ownsRow_nil _ _ _ _) x l.length c (cellsV l) rfl (cellsV_length l) hcs (cellsV_one l) (by unfold maxLen; omega) (by omega) (Nat.le_refl _) ?_; intro v' w1 hown hgrow _)
    go_ret
    exact ⟨_, rfl, by simpa using hown, (Below.refl _ _).grown hgrow (Nat.le_refl _) (fun k hk => by simp [Value.ownBlock] at hk)⟩

/-- What Get tells. -/
def getL (l : List Cl) (k : List UInt8) : Option (List UInt8) := (l.findIdx? (isKey k)).map fun i => (l[i]?.getD Cl.none).val

theorem get_any (B p : Nat) (id : Int) (lsn : Nat) (v : Value) (l : List Cl) (k : List UInt8) (w : World) (h : PgOk w B p id lsn v l) (hl : l.length ≤ 1000000) :
    Calls Tryd.prog 44 #[.pointer (some ⟨p, 0, none⟩), .string (txt k)] w fun e w' => e = .returned (.tuple #[.string (txt ((getL l k).getD [])), .bool (getL l k).isSome]) ∧ Below w.heap.size w w' := by
  obtain ⟨a, c, rfl⟩ := ownsRow_shape h.own
  obtain ⟨hsl, _, hlc, _⟩ := slC_of_own h.own
  obtain ⟨p0, p1, p2, f0, f1, f2, hz⟩ := h.cells
  go_enter Tryd.func44, Tryd.ntmps44
  go_wp2_with fail
  refine (find_any k a c l _ hsl hl).mono ?_
  rintro e w1 ⟨rfl, hb1⟩
  obtain ⟨q0, q1, q2, g0, g1, g2, hz1⟩ := (h.below hb1 (Nat.le_refl _)).cells
  have hsl1 := hsl.below hb1
  clear h p0 p1 p2 f0 f1 f2 hz hsl
  cases hf : l.findIdx? (isKey k) with
  | none =>
    simp only [ixI]
    go_wp2
    refine bodyPost_ret (v := .tuple #[.string ⟨#[]⟩, .bool false]) (by simp [results, Tryd.results44, go_sem]) rfl ⟨?_, hb1⟩
    simp [getL, hf, txt]
  | some i =>
    obtain ⟨hi, _⟩ := find_some hf
    simp only [ixI]
    obtain ⟨b, o, rfl, hbl, c0, c1, c2⟩ := hsl1.at i hi
    go_wp2
    refine bodyPost_ret (v := .tuple #[.string (txt l[i].val), .bool true]) (by simp [results, Tryd.results44, go_sem]) rfl ⟨?_, hb1⟩
    simp [getL, hf, List.getElem?_eq_getElem hi]

theorem new_no (id : Int) (w : World) (h : ¬ (0 ≤ id ∧ id < 16)) :
    Calls Tryd.prog 30 #[.int .i64 id] w fun e w' => e = .returned (.tuple #[.pointer none, .int .i64 1]) ∧ w' = w := by
  have hk := known_any id w
  rw [show (decide (0 ≤ id) && decide (id < 16)) = false by simp; omega] at hk
  go_enter Tryd.func30, Tryd.ntmps30
  go_wp2_with fail
  refine Calls.mono hk ?_
  rintro e w1 ⟨rfl, hw1⟩
  obtain rfl := hw1.symm
  go_wp2
  exact bodyPost_ret (v := .tuple #[.pointer none, .int .i64 1]) (by simp [results, Tryd.results30, go_sem]) rfl ⟨rfl, rfl⟩

theorem new_yes (id : Int) (w : World) (h : 0 ≤ id ∧ id < 16) :
    Calls Tryd.prog 30 #[.int .i64 id] w fun e w' => e = .returned (.tuple #[.pointer (some ⟨w.heap.size, 0, none⟩), .int .i64 0]) ∧ w' = w.alloc (.cells #[.int .i64 id, .int .u64 0, .slice none 0 0] 88) := by
  have hk := known_any id w
  rw [show (decide (0 ≤ id) && decide (id < 16)) = true by simp; omega] at hk
  go_enter Tryd.func30, Tryd.ntmps30
  go_wp2_with fail
  refine Calls.mono hk ?_
  rintro e w1 ⟨rfl, hw1⟩
  obtain rfl := hw1.symm
  go_wp2
  exact bodyPost_ret (v := .tuple #[.pointer (some ⟨w.heap.size, 0, none⟩), .int .i64 0]) (by simp [results, Tryd.results30, go_sem]) rfl ⟨rfl, rfl⟩

theorem PgOk.new (id : Int) (w : World) : PgOk (w.alloc (.cells #[.int .i64 id, .int .u64 0, .slice none 0 0] 88)) w.heap.size w.heap.size id 0 (.slice none 0 0) [] :=
  ⟨heap_alloc_new _ _, World.ownsRow_nil _ _ _ _, by simp [Value.ownBlock], Nat.le_refl _⟩

end Go.Proofs.YtebchgoaelamcaaDoor
