/-
  A new pool over a new store; the chapter's example.
-/
import Derived.Test.YtcloinonhpaojaaQk
import Derived.Test.YtcloinonhpaojaaQj
namespace Go.Proofs.Ytcloinonhpaojaa
open Go.RowKit

/-- A new store's cells. -/
def dkC : Array Value := #[.string ⟨#[]⟩, .string ⟨#[]⟩, .string ⟨#[]⟩, .string ⟨#[]⟩, .string ⟨#[]⟩, .string ⟨#[]⟩, .string ⟨#[]⟩, .string ⟨#[]⟩, .string ⟨#[]⟩, .string ⟨#[]⟩, .string ⟨#[]⟩, .string ⟨#[]⟩, .string ⟨#[]⟩, .string ⟨#[]⟩, .string ⟨#[]⟩, .string ⟨#[]⟩, .bool false, .bool false, .bool false, .bool false, .bool false, .bool false, .bool false, .bool false, .bool false, .bool false, .bool false, .bool false, .bool false, .bool false, .bool false, .bool false, .int .u64 0, .int .u64 0]
def dk0 : Dk := ⟨fun _ => false, fun _ => 0, fun _ => [], 0, 0⟩
theorem dkC_ok : DkM dkC dk0 := by
  refine ⟨rfl, fun i hi => ?_, fun i hi => ?_, rfl, rfl⟩
  · match i, hi with
    | 0, _ | 1, _ | 2, _ | 3, _ | 4, _ | 5, _ | 6, _ | 7, _ | 8, _ | 9, _ | 10, _ | 11, _ | 12, _ | 13, _ | 14, _ | 15, _ => rfl
    | n + 16, h => exact absurd h (by omega)
  · match i, hi with
    | 0, _ | 1, _ | 2, _ | 3, _ | 4, _ | 5, _ | 6, _ | 7, _ | 8, _ | 9, _ | 10, _ | 11, _ | 12, _ | 13, _ | 14, _ | 15, _ => rfl
    | n + 16, h => exact absurd h (by omega)
theorem dk_new {w : World} {d : Nat} (h : w.heap[d]? = some (.cells dkC 59)) : DkIn w d dk0 := ⟨⟨dkC, h, dkC_ok⟩, fun _ => goodL_nil, fun _ => by simp [dk0], fun _ _ => ⟨rfl, rfl⟩⟩
theorem bare (m : Nat) (i : Int) (hi : 0 ≤ i) : ¬ here ⟨List.replicate m ⟨-1, false, 0⟩, 0⟩ i := fun ⟨j, hj, e⟩ => by
  simp at e
  omega
/-- A new pool and its store. -/
theorem mem_new {w : World} {B p d m : Nat} {a : Option Addr} {c : Nat} (hd : DkIn w d dk0) (hp : PoIn w p (stV d) ⟨⟨List.replicate m ⟨-1, false, 0⟩, 0⟩, a, c, fun _ => none, fun _ => false, fun _ => 0⟩) (h1 : B ≤ p) (h2 : B ≤ d) (hr : ∀ x, a = some x → x.block ≠ p ∧ x.block ≠ d) :
    Mem w B p d ⟨⟨List.replicate m ⟨-1, false, 0⟩, 0⟩, a, c, fun _ => none, fun _ => false, fun _ => 0⟩ dk0 (fun _ => ⟨0, 0, .bool true, []⟩) :=
  ⟨hp, hd, h1, h2, fun i _ hx => absurd hx (bare m _ (by omega)), fun i _ _ _ _ hx => absurd hx (bare m _ (by omega)), fun x hx => ⟨(hr x hx).1, (hr x hx).2, fun i _ hx => absurd hx (bare m _ (by omega))⟩⟩

theorem one_frame {i : Int} (hi : 0 ≤ i) : ¬ here ⟨List.replicate 1 ⟨-1, false, 0⟩, 0⟩ i := bare 1 i hi
theorem one_free : here ⟨List.replicate 1 ⟨-1, false, 0⟩, 0⟩ (-1) := ⟨0, by simp, rfl⟩
/-- Where one frame has a page none is free. -/
theorem one_full {r : Ck.Rg} {i : Int} (h1 : r.fr.length = 1) (hi : 0 ≤ i) (h : here r i) : ¬ here r (-1) := fun ⟨j, hj, e⟩ => by
  obtain ⟨x, hx, e2⟩ := h
  obtain rfl : j = 0 := by omega
  obtain rfl : x = 0 := by omega
  omega

set_option maxRecDepth 20000 in
set_option maxHeartbeats 2000000 in
theorem lives_any (w : World) : Calls Try.prog 8 #[] w fun e w' => e = .returned (.bool true) ∧ Below w.heap.size w w' := by
  have HN := toHid (newp_yes 1 w.heap.size (w.alloc (.cells dkC 59)) (by omega) (by omega))
  have HD := toHid (dk_new (heap_alloc_new w (.cells dkC 59)))
  have HB := toHid ((Below.refl w.heap.size w).alloc (Nat.le_refl _) (.cells dkC 59))
  go_enter Try.func8, Try.ntmps8
  go_wp2_with fail
  refine Calls.mono HN.out ?_
  rintro e w1 ⟨p, a, c, rfl, hp, hpo, hr, hb⟩
  have hsz : (w.alloc (.cells dkC 59)).heap.size = w.heap.size + 1 := by simp
  rw [hsz] at hp
  have HM1 := toHid (mem_new (B := w.heap.size) (HD.out.below hb) hpo (by omega) (Nat.le_refl _) (fun x hx => ⟨(hr x hx).1, by have := (hr x hx).2; rw [hsz] at this; omega⟩))
  have HB1 := toHid (HB.out.trans (hb.mono HB.out.size))
  clear HN HD HB hpo hr hb hsz
  go_wp2_with fail
  refine Calls.mono (load_ok w.heap.size p w.heap.size 3 _ _ _ w1 HM1.out (by decide) (put_is HM1.out.po.may (by decide) (by decide) (one_frame (by decide)) one_free)) ?_
  rintro e w2 ⟨rfl, r2, a2, c2, b2, v2, hm2, hst2, hl2, hh2, -⟩
  have hf2 : ¬ here r2 (-1) := one_full (by rw [hl2]; rfl) (by decide) ((hh2 3 (by decide)).2 (.inl rfl))
  have HP2 : Hid ((Ck.putR r2 ((4 : Nat) : Int)).2 = 15) := put_busy hm2.po.may (by decide) (by decide) (fun h => by
    rcases (hh2 4 (by decide)).1 h with e | e
    · exact absurd e (by decide)
    · exact one_frame (by decide) e) hf2
  have HM2 := toHid hm2
  have HB2 := toHid (HB1.out.trans hst2.below)
  have HH2 := toHid hh2
  clear hm2 hst2 hh2 HB1 hl2 hf2
  go_wp2_with fail
  refine Calls.mono (load_err p _ _ 4 w2 HM2.out.po 15 HP2.out (by decide)) ?_
  rintro e w3 ⟨rfl, hb3⟩
  have HM3 := toHid (HM2.out.below hb3)
  have HB3 := toHid (HB2.out.trans (hb3.mono HB2.out.size))
  clear hb3 HP2
  go_wp2_with fail
  refine Calls.mono (take_yes p _ _ 3 w3 HM3.out.po (by decide) ((HH2.out 3 (by decide)).2 (.inl rfl))) ?_
  rintro e w4 ⟨rfl, ho4, r4, a4, c4, hpo4, hf4, hh4, hn4⟩
  have HM4 := toHid (HM3.out.turn ho4 hpo4 (fun i _ h => ((hh4 i (by omega)).1 h).2) (fun i _ h => by
    have := ((hh4 i (by omega)).1 h).1
    simp only
    rw [upd_ne _ _ (by omega)]) (fun x hx => .inl (hn4 x hx)))
  have HB4 := toHid (HB3.out.trans (HM3.out.stp ho4).below)
  have g4 : ∀ i : Int, 0 ≤ i → ¬ here r4 i := fun i hi h => by
    obtain ⟨e1, e2⟩ := (hh4 i hi).1 h
    rcases (HH2.out i hi).1 e2 with e | e
    · exact e1 e
    · exact one_frame hi e
  have HP4 : Hid ((Ck.putR r4 ((4 : Nat) : Int)).2 = 0) := put_is hpo4.may (by decide) (by decide) (g4 4 (by decide)) hf4
  have HG4 := toHid g4
  have hP3 : (upd (fun _ => none : Nat → Option Addr) 3 (some ⟨b2, 0, none⟩)) 3 = some ⟨b2, 0, none⟩ := upd_self _ _ _
  simp only [hP3]
  clear ho4 hpo4 hf4 hh4 hn4 g4
  go_wp2_with fail
  refine Calls.mono (load_ok w.heap.size p w.heap.size 4 _ _ _ w4 HM4.out (by decide) HP4.out) ?_
  rintro e w5 ⟨rfl, r5, a5, c5, b5, v5, hm5, hst5, -, hh5, -⟩
  have HM5 := toHid hm5
  have HB5 := toHid (HB4.out.trans hst5.below)
  have HH5 := toHid hh5
  clear hm5 hst5 hh5
  go_wp2_with fail
  refine Calls.mono (has_yes p _ _ 4 w5 HM5.out.po (by decide) ((HH5.out 4 (by decide)).2 (.inl rfl))) ?_
  rintro e w6 ⟨rfl, hb6⟩
  have HM6 := toHid (HM5.out.below hb6)
  have HB6 := toHid (HB5.out.trans (hb6.mono HB5.out.size))
  clear hb6
  go_wp2_with fail
  refine Calls.mono (has_no p _ _ 3 w6 HM6.out.po (fun h => by
    rcases (HH5.out 3 (by decide)).1 h.2.2 with e | e
    · exact absurd e (by decide)
    · exact HG4.out 3 (by decide) e)) ?_
  rintro e w7 ⟨rfl, hb7⟩
  have HB7 := toHid (HB6.out.trans (hb7.mono HB6.out.size))
  clear hb7
  go_wp2
  go_ret
  exact ⟨rfl, HB7.out⟩
end Go.Proofs.Ytcloinonhpaojaa
