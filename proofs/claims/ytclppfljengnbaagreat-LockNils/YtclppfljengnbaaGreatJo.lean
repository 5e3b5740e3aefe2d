/-
  The walk of Join.
-/
import Derived.Test.YtclppfljengnbaaGreatBo
import Derived.WalkSmall
import Derived.BigQuiet
import Derived.Deep.QuietTactic
import Derived.Deep.RegionHeld3
import Derived.Deep.DeepCutAuto
namespace Go.Proofs.YtclppfljengnbaaGreat
open Go.RowKit

/-- The weakest that is as strong as both. -/
def joinN (x y : Nat) : Nat := if (x = 2 ∧ y = 3) ∨ (x = 3 ∧ y = 2) then 4 else max x y

/-- What stands at place j of the row of x, as a cell. -/
def besV (x j : Nat) : Value := .bool (besB x j)

set_option maxRecDepth 100000 in
theorem rows_at (x j : Nat) (hx : x < 6) (hj : j < 6) : rowsV[x * 6 + j]? = some (besV x j) := by
  obtain rfl | rfl | rfl | rfl | rfl | rfl : x = 0 ∨ x = 1 ∨ x = 2 ∨ x = 3 ∨ x = 4 ∨ x = 5 := by omega
  all_goals
    obtain rfl | rfl | rfl | rfl | rfl | rfl : j = 0 ∨ j = 1 ∨ j = 2 ∨ j = 3 ∨ j = 4 ∨ j = 5 := by omega
    all_goals rfl

/-- Six cells from o on. -/
abbrev Six (w : World) (g o : Nat) (v : Nat → Value) : Prop := w.cell? ⟨g, o, none⟩ = some (v 0) ∧ w.cell? ⟨g, o + 1, none⟩ = some (v 1) ∧ w.cell? ⟨g, o + 2, none⟩ = some (v 2) ∧ w.cell? ⟨g, o + 3, none⟩ = some (v 3) ∧ w.cell? ⟨g, o + 4, none⟩ = some (v 4) ∧ w.cell? ⟨g, o + 5, none⟩ = some (v 5)

set_option maxRecDepth 100000 in
theorem Six.below {B : Nat} {w w' : World} {g o : Nat} {v : Nat → Value} (h : Six w g o v) (hb : Below B w w') (hg : g < B) : Six w' g o v := by
  obtain ⟨h0, h1, h2, h3, h4, h5⟩ := h
  refine ⟨?_, ?_, ?_, ?_, ?_, ?_⟩
  all_goals
    rw [hb.cell hg]
    assumption

set_option maxRecDepth 100000 in
theorem six_rows (w : World) (x : Nat) (hx : x < 6) : Six (w.alloc (.cells rowsV 163)) w.heap.size (x * 6) (besV x) := by
  have hh : (w.alloc (.cells rowsV 163)).heap[w.heap.size]? = some (.cells rowsV 163) := heap_alloc_new w _
  refine ⟨?_, ?_, ?_, ?_, ?_, ?_⟩
  · rw [cell_of_row _ _ _ _ _ _ hh]; exact rows_at x 0 hx (by omega)
  · rw [cell_of_row _ _ _ _ _ _ hh]; exact rows_at x 1 hx (by omega)
  · rw [cell_of_row _ _ _ _ _ _ hh]; exact rows_at x 2 hx (by omega)
  · rw [cell_of_row _ _ _ _ _ _ hh]; exact rows_at x 3 hx (by omega)
  · rw [cell_of_row _ _ _ _ _ _ hh]; exact rows_at x 4 hx (by omega)
  · rw [cell_of_row _ _ _ _ _ _ hh]; exact rows_at x 5 hx (by omega)

set_option maxRecDepth 100000 in
theorem bcell {W w1 : World} (hb : Below W.heap.size W w1) : (∀ b o, b < W.heap.size → w1.cell? ⟨b, o, none⟩ = W.cell? ⟨b, o, none⟩) ∧ (∀ b o, b < W.heap.size → w1.frozen? ⟨b, o, none⟩ = W.frozen? ⟨b, o, none⟩) :=
  ⟨fun b o h => hb.cell (p := ⟨b, o, none⟩) h, fun b o h => hb.frozen (p := ⟨b, o, none⟩) h⟩

set_option maxRecDepth 100000 in
theorem inBoth_cells (x y : Nat) (w : World) : Calls Tryz.prog 123 #[.agg #[besV x 0, besV x 1, besV x 2, besV x 3, besV x 4, besV x 5], .agg #[besV y 0, besV y 1, besV y 2, besV y 3, besV y 4, besV y 5]] w fun e w' => e = .returned (.agg #[.bool (besB x 0 && besB y 0), .bool (besB x 1 && besB y 1), .bool (besB x 2 && besB y 2), .bool (besB x 3 && besB y 3), .bool (besB x 4 && besB y 4), .bool (besB x 5 && besB y 5)]) ∧ Below w.heap.size w w' :=
  inBoth_any (besB x) (besB y) w

set_option maxRecDepth 100000 in
theorem below_set {w0 w : World} {o : Nat} {v : Value} (h : Below w0.heap.size w0 w) : Below w0.heap.size w0 (w.setCell ⟨w0.heap.size, o, none⟩ v) := h.setCell (Nat.le_refl _) v

set_option maxRecDepth 100000 in
/-- Six noughts that were made ahead of a call. -/
theorem six_nought (W wn : World) (h : Below ((W.drew).alloc (.cells #[.bool false, .bool false, .bool false, .bool false, .bool false, .bool false] 162)).heap.size ((W.drew).alloc (.cells #[.bool false, .bool false, .bool false, .bool false, .bool false, .bool false] 162)) wn) :
    (wn.cell? ⟨W.heap.size, 0, none⟩ = some (.bool false) ∧ wn.cell? ⟨W.heap.size, 1, none⟩ = some (.bool false) ∧ wn.cell? ⟨W.heap.size, 2, none⟩ = some (.bool false) ∧ wn.cell? ⟨W.heap.size, 3, none⟩ = some (.bool false) ∧ wn.cell? ⟨W.heap.size, 4, none⟩ = some (.bool false) ∧ wn.cell? ⟨W.heap.size, 5, none⟩ = some (.bool false)) ∧
    (wn.frozen? ⟨W.heap.size, 0, none⟩ = false ∧ wn.frozen? ⟨W.heap.size, 1, none⟩ = false ∧ wn.frozen? ⟨W.heap.size, 2, none⟩ = false ∧ wn.frozen? ⟨W.heap.size, 3, none⟩ = false ∧ wn.frozen? ⟨W.heap.size, 4, none⟩ = false ∧ wn.frozen? ⟨W.heap.size, 5, none⟩ = false) := by
  have hh : wn.heap[W.heap.size]? = some (.cells #[.bool false, .bool false, .bool false, .bool false, .bool false, .bool false] 162) := by
    rw [h.block W.heap.size (by simp)]
    exact heap_alloc_new W.drew _
  refine ⟨⟨?_, ?_, ?_, ?_, ?_, ?_⟩, ⟨?_, ?_, ?_, ?_, ?_, ?_⟩⟩
  all_goals first | (rw [cell_of_row _ _ _ _ _ _ hh]; rfl) | exact frozen_of_row _ _ _ _ _ hh

/-- What goes beside both, as a cell. -/
def bothV (x y j : Nat) : Value := .bool (besB x j && besB y j)

set_option maxRecDepth 100000 in
theorem six_new (w : World) (x y : Nat) : Six (w.alloc (.cells #[.bool (besB x 0 && besB y 0), .bool (besB x 1 && besB y 1), .bool (besB x 2 && besB y 2), .bool (besB x 3 && besB y 3), .bool (besB x 4 && besB y 4), .bool (besB x 5 && besB y 5)] 162)) w.heap.size 0 (bothV x y) := by
  have hh := heap_alloc_new w (.cells #[.bool (besB x 0 && besB y 0), .bool (besB x 1 && besB y 1), .bool (besB x 2 && besB y 2), .bool (besB x 3 && besB y 3), .bool (besB x 4 && besB y 4), .bool (besB x 5 && besB y 5)] 162)
  refine ⟨?_, ?_, ?_, ?_, ?_, ?_⟩
  all_goals
    rw [cell_of_row _ _ _ _ _ _ hh]
    rfl

set_option maxRecDepth 100000 in
theorem six_set (w : World) (n : Nat) (x y : Nat) (q0 : w.cell? ⟨n, 0, none⟩ = some (.bool false)) (q1 : w.cell? ⟨n, 1, none⟩ = some (.bool false)) (q2 : w.cell? ⟨n, 2, none⟩ = some (.bool false)) (q3 : w.cell? ⟨n, 3, none⟩ = some (.bool false)) (q4 : w.cell? ⟨n, 4, none⟩ = some (.bool false)) (q5 : w.cell? ⟨n, 5, none⟩ = some (.bool false)) :
    Six ((((((w.setCell ⟨n, 0, none⟩ (.bool (besB x 0 && besB y 0))).setCell ⟨n, 1, none⟩ (.bool (besB x 1 && besB y 1))).setCell ⟨n, 2, none⟩ (.bool (besB x 2 && besB y 2))).setCell ⟨n, 3, none⟩ (.bool (besB x 3 && besB y 3))).setCell ⟨n, 4, none⟩ (.bool (besB x 4 && besB y 4))).setCell ⟨n, 5, none⟩ (.bool (besB x 5 && besB y 5))) n 0 (bothV x y) := by
  refine ⟨?_, ?_, ?_, ?_, ?_, ?_⟩
  all_goals simp [go_sem, q0, q1, q2, q3, q4, q5, bothV]

set_option maxRecDepth 100000 in
theorem joinN_lt (x y : Nat) (hx : x < 6) (hy : y < 6) : joinN x y < 6 := by unfold joinN; split <;> omega

set_option maxRecDepth 100000 in
theorem both_row (x y j : Nat) (hx : x < 6) (hy : y < 6) (hj : j < 6) : bothV x y j = besV (joinN x y) j := by
  have h : ∀ x : Fin 6, ∀ y : Fin 6, ∀ j : Fin 6, (besB x.val j.val && besB y.val j.val) = besB (joinN x.val y.val) j.val := by decide
  unfold bothV besV
  rw [h ⟨x, hx⟩ ⟨y, hy⟩ ⟨j, hj⟩]

set_option maxRecDepth 100000 in
theorem Six.both {w : World} {g x y : Nat} (hx : x < 6) (hy : y < 6) (h : Six w g 0 (bothV x y)) : Six w g 0 (besV (joinN x y)) := by
  rw [Six, both_row x y 0 hx hy (by omega), both_row x y 1 hx hy (by omega), both_row x y 2 hx hy (by omega), both_row x y 3 hx hy (by omega), both_row x y 4 hx hy (by omega), both_row x y 5 hx hy (by omega)] at h
  exact h

set_option maxRecDepth 100000 in
theorem same_row (k : Nat) (hk : k < 6) (w : World) : (Op.equalIn 10000 162 (.agg #[besV k 0, besV k 1, besV k 2, besV k 3, besV k 4, besV k 5]) (.agg #[besV k 0, besV k 1, besV k 2, besV k 3, besV k 4, besV k 5])).run Tryz.prog w = .ok true w := by
  obtain rfl | rfl | rfl | rfl | rfl | rfl : k = 0 ∨ k = 1 ∨ k = 2 ∨ k = 3 ∨ k = 4 ∨ k = 5 := by omega
  all_goals kernel_rfl

set_option maxRecDepth 100000 in
theorem other_row (k J : Nat) (hk : k < 6) (hJ : J < 6) (hkJ : k ≠ J) (w : World) : (Op.equalIn 10000 162 (.agg #[besV k 0, besV k 1, besV k 2, besV k 3, besV k 4, besV k 5]) (.agg #[besV J 0, besV J 1, besV J 2, besV J 3, besV J 4, besV J 5])).run Tryz.prog w = .ok false w := by
  obtain rfl | rfl | rfl | rfl | rfl | rfl : k = 0 ∨ k = 1 ∨ k = 2 ∨ k = 3 ∨ k = 4 ∨ k = 5 := by omega
  all_goals
    obtain rfl | rfl | rfl | rfl | rfl | rfl : J = 0 ∨ J = 1 ∨ J = 2 ∨ J = 3 ∨ J = 4 ∨ J = 5 := by omega
    all_goals first | (exact absurd rfl hkJ) | kernel_rfl

set_option maxHeartbeats 1000000 in
set_option maxRecDepth 100000 in
theorem join_any (a b : Int) (w : World) : Calls Tryz.prog 99 #[.int .i64 a, .int .i64 b] w fun e w' => e = .returned (.int .i64 ((joinN (cnt a) (cnt b) : Nat) : Int)) ∧ Below w.heap.size w w' := by
  have ha : ((cnt a : Nat) : Int) < 6 := by have := cnt_lt a; omega
  have hb : ((cnt b : Nat) : Int) < 6 := by have := cnt_lt b; omega
  go_enter Tryz.func99, Tryz.ntmps99
  go_upto_region 2 with (first | (go_at_call 97; go_must (refine (rows_any _).mono ?_); rintro e w1 ⟨rfl, hb1⟩) | (refine wpList_store_new rfl 163 _ _ rfl rfl rowsV rfl _ (by kernel_rfl) rfl (by kernel_rfl) rfl ?_))
  obtain ⟨W1, HW1⟩ : ∃ W1, Hid (W1 = w1.alloc (.cells rowsV 163)) := ⟨_, rfl⟩
  have hsix : Hid (∀ x, x < 6 → Six W1 w1.heap.size (x * 6) (besV x)) := by
    show ∀ x, x < 6 → Six W1 w1.heap.size (x * 6) (besV x)
    intro x hx
    rw [HW1.out]
    exact six_rows w1 x hx
  have hW1 : w1.heap.size < W1.heap.size := by rw [HW1.out]; simp
  have hB1 : Below w.heap.size w W1 := by rw [HW1.out]; exact hb1.alloc hb1.size _
  rw [← HW1.out]
  generalize w1.heap.size = B at *
  clear HW1 hb1
  go_cut [6] (fun p wc => ∃ g, p = .pointer (some ⟨g, 0, none⟩) ∧ W1.heap.size ≤ g ∧ Six wc g 0 (bothV (cnt a) (cnt b)) ∧ Below W1.heap.size W1 wc)
  case rest =>
    clear ha hb
    obtain ⟨g, rfl, hg, hs6, hBc⟩ := hcut
    have hs6 := hs6.both (cnt_lt a) (cnt_lt b)
    have hJ := joinN_lt _ _ (cnt_lt a) (cnt_lt b)
    have hgd : Tryz.prog.eqGuardType Tryz.prog.depth 162 = false := by kernel_rfl
    obtain ⟨J, HJ⟩ : ∃ J, Hid (joinN (cnt a) (cnt b) = J) := ⟨_, rfl⟩
    rw [HJ.out] at hs6 hJ
    go_wp2_with fail
    go_loopw [7] (fun j ws => ∃ k : Nat, k ≤ J ∧ j = .int .i64 k ∧ Six ws g 0 (besV J) ∧ Below W1.heap.size W1 ws) (fun j _ => 6 - (intOf j).toNat)
    case atStart => exact ⟨0, by omega, rfl, hs6, hBc⟩
    case round =>
      obtain ⟨k, hk, rfl, hs, hBs⟩ := hrel
      clear hs6 hBc
      obtain ⟨q0, q1, q2, q3, q4, q5⟩ := (hsix.out k (by omega)).below hBs hW1
      obtain ⟨r0, r1, r2, r3, r4, r5⟩ := hs
      simp only [Nat.zero_add] at r1 r2 r3 r4 r5
      by_cases h5 : k = 5
      · obtain rfl : J = 5 := by omega
        subst h5
        go_wp2_with fail
        go_quiet (fail)
        go_wp2
        go_ret
        exact ⟨by rw [HJ.out]; rfl, hB1.trans (below_drewN (hBs.mono hB1.size) _)⟩
      · have h5' : ((k : Int) != 5) = true := by simp; omega
        have hk6 : (k : Int) < 6 := by omega
        by_cases hkJ : k = J
        · subst hkJ
          have hE := same_row k hJ
          go_wp2_with fail
          go_quiet (fail)
          go_wp2
          go_ret
          exact ⟨by rw [HJ.out]; rfl, hB1.trans (below_drewN (hBs.mono hB1.size) _)⟩
        · have hE := other_row k J (by omega) hJ hkJ
          go_wp2_with fail
          go_quiet (fail)
          go_wp2
          go_roundw
          case rel => exact ⟨k + 1, by omega, by go_num, ⟨r0, by simpa using r1, by simpa using r2, by simpa using r3, by simpa using r4, by simpa using r5⟩, below_drewN hBs _⟩
          case measure => simp [intOf]; omega
  case first =>
    have HT : Hid (∀ W, Below W1.heap.size W1 W → Six W B (cnt a * 6) (besV (cnt a)) ∧ Six W B (cnt b * 6) (besV (cnt b)) ∧ Below W1.heap.size W1 W) := by
      show ∀ W, Below W1.heap.size W1 W → Six W B (cnt a * 6) (besV (cnt a)) ∧ Six W B (cnt b * 6) (besV (cnt b)) ∧ Below W1.heap.size W1 W
      intro W h
      exact ⟨(hsix.out _ (cnt_lt a)).below h hW1, (hsix.out _ (cnt_lt b)).below h hW1, h⟩
    go_region_held3 (fun W => Six W B (cnt a * 6) (besV (cnt a)) ∧ Six W B (cnt b * 6) (besV (cnt b)) ∧ Below W1.heap.size W1 W) (first | with_reducible assumption | (with_reducible refine HT.out _ ?_; repeat (first | with_reducible exact Below.refl _ _ | with_reducible assumption | with_reducible refine Below.drew ?_ | with_reducible refine below_set ?_ | with_reducible refine Below.alloc ?_ (by first | with_reducible assumption | omega | (simp; done) | (simp; omega)) _))) (first | (go_at_call 98; refine (counted_any _ _).mono ?_; rintro e w' ⟨rfl, hw⟩; obtain rfl := hw.symm) | (go_at_call 123; refine (inBoth_cells _ _ _).mono ?_; rintro e wn ⟨rfl, hbn⟩; have hbn' : Below W1.heap.size W1 wn := Below.trans (by first | exact (Below.refl _ _).drew | exact (Below.refl _ _).drew.alloc (Nat.le_refl _) _) (hbn.mono (by simp)); have hsn := hbn'.size; first | (obtain ⟨⟨q0, q1, q2, q3, q4, q5⟩, f0, f1, f2, f3, f4, f5⟩ := six_nought _ _ hbn; clear hbn) | clear hbn))
    all_goals
      go_wp2_with fail
      go_meet
    all_goals
      rename_i hHeld
      first
      | (have hs := six_set wn W1.heap.size (cnt a) (cnt b) q0 q1 q2 q3 q4 q5; exact ⟨_, rfl, Nat.le_refl _, hs, hHeld.2.2⟩)
      | exact ⟨_, rfl, hsn, six_new wn (cnt a) (cnt b), hHeld.2.2⟩
end Go.Proofs.YtclppfljengnbaaGreat
