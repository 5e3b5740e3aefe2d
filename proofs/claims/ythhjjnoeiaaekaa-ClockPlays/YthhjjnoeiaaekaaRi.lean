/-
  one: one call on both sides. ClockAsks: of any ring, also one that may not be, every call's answer is the document's.
-/
import Derived.Test.YthhjjnoeiaaekaaRh0
import Derived.Test.YthhjjnoeiaaekaaRh1
import Derived.Test.YthhjjnoeiaaekaaRh2
import Derived.Test.YthhjjnoeiaaekaaRh3
import Derived.Test.YthhjjnoeiaaekaaRhn
namespace Go.Proofs.Ythhjjnoeiaaekaa
open Go.RowKit

theorem one_any (a : Option Addr) (c : Nat) (r : Rg) (o : OpL) (w : World) (h : SlF w a r.fr) (hl : r.fr.length ≤ 100) (ho : o.Wf) :
    Calls Try.prog 12 #[rgV a c r, .agg o.cells] w fun e w' => ∃ a' c' r', e = .returned (.tuple #[rgV a' c' r', .bool true]) ∧ SlF w' a' r'.fr ∧ Below w.heap.size w w' ∧ (MayR r → MayR r') := by
  by_cases k0 : o.kind = 0
  · exact one_0 a c r o w h hl ho k0
  · by_cases k1 : o.kind = 1
    · exact one_1 a c r o w h hl ho k1
    · by_cases k2 : o.kind = 2
      · exact one_2 a c r o w h hl ho k2
      · by_cases k3 : o.kind = 3
        · exact one_3 a c r o w h hl ho k3
        · exact one_n a c r o w h hl ho ⟨k0, k1, k2, k3⟩

set_option maxRecDepth 20000 in
set_option maxHeartbeats 4000000 in
theorem asks_walk {a : Option Addr} {c : Nat} {r : Rg} {o : OpL} {w : World} (h : SlF w a r.fr) (hmx : r.fr.length ≤ maxLen) (ho : o.Wf) :
    Calls Try.prog 4 #[rgV a c r, .agg o.cells] w fun e w' => e = .returned (.bool true) ∧ Below w.heap.size w w' := by
  obtain ⟨j0, j1, j2, j3⟩ := al2 w (.cells (rgC a c r) 24) (.cells o.cells 34)
  have hs := h.below j3
  by_cases hlt : r.fr.length ≤ 100
  · have h1 := toHid (fun W hW => one_any a c r o W hW hlt ho)
    simp only [OpL.cells] at h1 j0 j1 j2 j3 hs ⊢
    go_enter Try.func4, Try.ntmps4
    go_wp2_with fail
    generalize World.alloc (World.alloc _ _) _ = W at j0 j1 j2 j3 hs ⊢
    refine Calls.mono (h1.out W hs) ?_
    rintro e w1 ⟨a1, c1, r1, rfl, hs1, hb1, -⟩
    obtain ⟨k0, k1, k2⟩ := al1 w1 (.cells (rgC a1 c1 r1) 24)
    have B2 := toHid (box_in' (box_in' j0 hb1) k2)
    have S2 := toHid ((hs.below hb1).below k2)
    have HB := toHid (below_on (below_on j3 hb1) k2)
    clear hs hs1 hb1 k0 k1 k2 j0 j1 j2 j3 h h1
    go_wp2_with fail
    generalize World.alloc _ _ = W1 at B2 S2 HB ⊢
    have hd : Below W1.heap.size W1 W1.drew := (Below.refl _ _).drew
    have B3 := toHid (box_in' B2.out hd)
    have S3 := toHid (S2.out.below hd)
    have HB3 := toHid (below_on HB.out hd)
    have hS0 : W1.drew.cell? ⟨w.heap.size, 0, none⟩ = some (.slice a r.fr.length c) ∧ W1.drew.cell? ⟨w.heap.size, 1, none⟩ = some (.int .i64 r.hand) := by
      obtain ⟨e0, e1, -⟩ := cell2 B3.out
      exact ⟨e0, e1⟩
    clear hd B2 S2 HB
    by_cases hM : MayR r
    · go_region_held3 (fun W => W.cell? ⟨w.heap.size, 0, none⟩ = some (.slice a r.fr.length c) ∧ W.cell? ⟨w.heap.size, 1, none⟩ = some (.int .i64 r.hand)) (with_reducible assumption) (first
        | (go_at_call 13; refine (copy13 a c r _ S3.out (by omega)).mono ?_; rintro e v4 ⟨a4, c4, rfl, hs4, hb4⟩; have B4 := toHid (box_in' B3.out hb4); have S4 := toHid (S3.out.below hb4); have HB4 := toHid (below_on HB3.out hb4); have hS4 : v4.cell? ⟨w.heap.size, 0, none⟩ = some (.slice a r.fr.length c) ∧ v4.cell? ⟨w.heap.size, 1, none⟩ = some (.int .i64 r.hand) := ⟨(cell2 B4.out).1, (cell2 B4.out).2.1⟩; clear hb4)
        | (go_at_call 11; refine (check_yes a4 c4 r _ hs4 hM).mono ?_; rintro e v5 ⟨rfl, hb5⟩; have B5 := toHid (box_in' B4.out hb5); have S5 := toHid (S4.out.below hb5); have HB5 := toHid (below_on HB4.out hb5); have hS5 : v5.cell? ⟨w.heap.size, 0, none⟩ = some (.slice a r.fr.length c) ∧ v5.cell? ⟨w.heap.size, 1, none⟩ = some (.int .i64 r.hand) := ⟨(cell2 B5.out).1, (cell2 B5.out).2.1⟩; clear hb5)
        | (go_at_call 14; refine (refmay_yes a c r _ S5.out hM).mono ?_; rintro e v6 ⟨rfl, hb6⟩; have B6 := toHid (box_in' B5.out hb6); have S6 := toHid (S5.out.below hb6); have HB6 := toHid (below_on HB5.out hb6); have hS6 : v6.cell? ⟨w.heap.size, 0, none⟩ = some (.slice a r.fr.length c) ∧ v6.cell? ⟨w.heap.size, 1, none⟩ = some (.int .i64 r.hand) := ⟨(cell2 B6.out).1, (cell2 B6.out).2.1⟩; clear hb6)
        | (go_at_call 10; refine (lives_any _).mono ?_; rintro e v7 ⟨rfl, hb7⟩; have B7 := toHid (box_in' B6.out hb7); have S7 := toHid (S6.out.below hb7); have HB7 := toHid (below_on HB6.out hb7); have hS7 : v7.cell? ⟨w.heap.size, 0, none⟩ = some (.slice a r.fr.length c) ∧ v7.cell? ⟨w.heap.size, 1, none⟩ = some (.int .i64 r.hand) := ⟨(cell2 B7.out).1, (cell2 B7.out).2.1⟩; clear hb7))
      all_goals
        try go_wp2_with fail
        go_ret
        exact ⟨rfl, HB7.out⟩
    · go_region_held3 (fun W => W.cell? ⟨w.heap.size, 0, none⟩ = some (.slice a r.fr.length c) ∧ W.cell? ⟨w.heap.size, 1, none⟩ = some (.int .i64 r.hand)) (with_reducible assumption) (first
        | (go_at_call 13; refine (copy13 a c r _ S3.out (by omega)).mono ?_; rintro e v4 ⟨a4, c4, rfl, hs4, hb4⟩; have B4 := toHid (box_in' B3.out hb4); have S4 := toHid (S3.out.below hb4); have HB4 := toHid (below_on HB3.out hb4); have hS4 : v4.cell? ⟨w.heap.size, 0, none⟩ = some (.slice a r.fr.length c) ∧ v4.cell? ⟨w.heap.size, 1, none⟩ = some (.int .i64 r.hand) := ⟨(cell2 B4.out).1, (cell2 B4.out).2.1⟩; clear hb4)
        | (go_at_call 11; refine (check_no a4 c4 r _ hs4 hmx hM).mono ?_; rintro e v5 ⟨rfl, hb5⟩; have B5 := toHid (box_in' B4.out hb5); have S5 := toHid (S4.out.below hb5); have HB5 := toHid (below_on HB4.out hb5); have hS5 : v5.cell? ⟨w.heap.size, 0, none⟩ = some (.slice a r.fr.length c) ∧ v5.cell? ⟨w.heap.size, 1, none⟩ = some (.int .i64 r.hand) := ⟨(cell2 B5.out).1, (cell2 B5.out).2.1⟩; clear hb5)
        | (go_at_call 14; refine (refmay_no a c r _ S5.out hmx hM).mono ?_; rintro e v6 ⟨rfl, hb6⟩; have B6 := toHid (box_in' B5.out hb6); have S6 := toHid (S5.out.below hb6); have HB6 := toHid (below_on HB5.out hb6); have hS6 : v6.cell? ⟨w.heap.size, 0, none⟩ = some (.slice a r.fr.length c) ∧ v6.cell? ⟨w.heap.size, 1, none⟩ = some (.int .i64 r.hand) := ⟨(cell2 B6.out).1, (cell2 B6.out).2.1⟩; clear hb6)
        | (go_at_call 10; refine (lives_any _).mono ?_; rintro e v7 ⟨rfl, hb7⟩; have B7 := toHid (box_in' B6.out hb7); have S7 := toHid (S6.out.below hb7); have HB7 := toHid (below_on HB6.out hb7); have hS7 : v7.cell? ⟨w.heap.size, 0, none⟩ = some (.slice a r.fr.length c) ∧ v7.cell? ⟨w.heap.size, 1, none⟩ = some (.int .i64 r.hand) := ⟨(cell2 B7.out).1, (cell2 B7.out).2.1⟩; clear hb7))
      all_goals
        try go_wp2_with fail
        go_ret
        exact ⟨rfl, HB7.out⟩
  · have hM : ¬ MayR r := fun M => by have := M.most; omega
    simp only [OpL.cells] at j0 j1 j2 j3 hs ⊢
    go_enter Try.func4, Try.ntmps4
    go_wp2_with fail
    generalize World.alloc (World.alloc _ _) _ = W at j0 j1 j2 j3 hs ⊢
    refine Calls.mono (check_no a c r W hs hmx hM) ?_
    rintro e w1 ⟨rfl, hb1⟩
    have HB := toHid (below_on j3 hb1)
    clear hs hb1 j0 j1 j2 j3 h
    go_wp2_with fail
    refine Calls.mono (lives_any w1) ?_
    rintro e w2 ⟨rfl, hb2⟩
    have HB2 := toHid (below_on HB.out hb2)
    clear hb2 HB
    go_wp2
    go_ret
    exact ⟨rfl, HB2.out⟩
end Go.Proofs.Ythhjjnoeiaaekaa
