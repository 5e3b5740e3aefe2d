/-
  The document's New of as many frames as there may be.
-/
import Derived.Test.YtcloinonhpaojaaQn
namespace Go.Proofs.Ytcloinonhpaojaa
open Go.RowKit

/-- What the loop of the document's New holds. -/
structure RfL (w wr : World) (X : Array Value) (a : Option Addr) (c k : Nat) (xs : List Value) : Prop where
  x : RefC X
  b1 : wr.heap[w.heap.size + 1]? = some (.cells X 43)
  b0 : wr.heap[w.heap.size]? = some (.cells Try.zeroCells43 43)
  at0 : X[0]? = some (.slice a k c)
  own : wr.ownsRow (w.heap.size + 2) 123 3 (.slice a k c) k xs
  below : Below w.heap.size w wr

theorem RefC.set {X : Array Value} (h : RefC X) (v : Value) (hv : v.oneCell' = true) : RefC (X.setIfInBounds 0 v) := by
  refine ⟨by simpa using h.size, ?_⟩
  rw [Array.all_eq_true_iff_forall_mem]
  intro u hu
  rcases Array.mem_or_eq_of_mem_setIfInBounds hu with h1 | h1
  · exact (Array.all_eq_true_iff_forall_mem.1 h.one) u h1
  · rw [h1]; exact hv

theorem RfL.grow {w wr w1 : World} {X : Array Value} {a a' : Option Addr} {c c' k : Nat} {xs xs' : List Value} (L : RfL w wr X a c k xs) {o : Obj} (hg : (wr.alloc o).grownBy w1 (Value.slice a k c).ownBlock) (hown : w1.ownsRow (w.heap.size + 2) 123 3 (.slice a' (k + 1) c') (k + 1) xs') :
    w1.heap[w.heap.size + 1]? = some (.cells X 43) ∧ RfL w (w1.setCell ⟨w.heap.size + 1, 0, none⟩ (.slice a' (k + 1) c')) (X.setIfInBounds 0 (.slice a' (k + 1) c')) a' c' (k + 1) xs' := by
  have hsz := blk_lt L.b1
  have hob : ∀ q, (Value.slice a k c).ownBlock = some q → w.heap.size + 2 ≤ q := fun q hq => by
    rcases L.own.2 with ⟨e, _⟩ | ⟨g, cap, cur, e, hb, _⟩
    · rw [e] at hq; simp [Value.ownBlock] at hq
    · rw [e] at hq; simp [Value.ownBlock] at hq; omega
  have hbl : ∀ q, q < w.heap.size + 2 → w1.heap[q]? = wr.heap[q]? := fun q hq => by
    rw [hg.block q (by simp; omega) (fun e => by have := hob q e.symm; omega)]
    exact Below.heap_alloc wr o q (by omega)
  have b1 : w1.heap[w.heap.size + 1]? = some (.cells X 43) := by rw [hbl _ (by omega)]; exact L.b1
  have hz : 0 < X.size := by rw [L.x.size]; decide
  refine ⟨b1, L.x.set _ rfl, heap_setCell_same _ _ _ _ _ _ b1, ?_, by simp [hz], ?_, ?_⟩
  · rw [heap_setCell_other _ _ _ _ (by simp), hbl _ (by omega)]; exact L.b0
  · refine own_kept hown fun q hq => heap_setCell_other _ _ _ _ (fun e => ?_)
    rcases hown.2 with ⟨e1, _⟩ | ⟨g, cap, cur, e1, hb, _⟩
    · rw [e1] at hq; simp [Value.ownBlock] at hq
    · rw [e1] at hq; simp [Value.ownBlock] at hq; simp at e; omega
  · have hb := L.below
    have hB1 : Below w.heap.size w w1 := ⟨hg.os.trans hb.os, hg.tape.trans hb.tape, hg.output.trans hb.output, by have := hg.size; have := hb.size; simp at *; omega, fun q hq => by rw [hbl q (by omega)]; exact hb.block q hq⟩
    exact hB1.setCell (by simp) _

set_option maxRecDepth 20000 in
set_option maxHeartbeats 2000000 in
theorem ref_yes (m : Nat) (w : World) (h1 : 1 ≤ m) (h2 : m ≤ 16) : Calls Try.prog 26 #[.int .i64 (m : Int)] w fun e w' => RetX w w' true e := by
  obtain ⟨i0, hi, hz0, hz1, hz2⟩ := info_parts Ck.info123
  obtain ⟨-, y1⟩ := blk2 w (.cells Try.zeroCells43 43) (.cells Try.zeroCells43 43)
  have k1 : decide ((m : Int) < 1) = false := by simp; omega
  have k2 : decide (16 < (m : Int)) = false := by simp; omega
  go_enter Try.func26, Try.ntmps26
  go_wp2_with (refine wpList_storeW rfl 43 _ _ rfl (w.heap.size + 1) rfl Try.zeroCells43 rfl Try.zeroCells43 43 y1 (by rw [z43.size]; exact info43) rfl z43.one rfl ?_; obtain ⟨W1, x0, x1, xb, xe⟩ := first_store w; rw [← xe]; clear xe y1)
  go_loopw [5] (fun i wr => ∃ k : Nat, k ≤ m ∧ i = .int .i64 (k : Int) ∧ ∃ X a c xs, RfL w wr X a c k xs) (fun i _ => m - (intOf i).toNat)
  case atStart => exact ⟨0, Nat.zero_le _, rfl, Try.zeroCells43, none, 0, [], z43, x1, x0, z43_at, World.ownsRow_nil _ _ _ _, xb⟩
  case round =>
    obtain ⟨k, hk, rfl, X, a, c, xs, hL⟩ := hrel
    have HL := toHid hL
    have c0 : wr.cell? ⟨w.heap.size + 1, 0, none⟩ = some (.slice a k c) := by simp [World.cell?, hL.b1, hL.at0]
    have f0 : wr.frozen? ⟨w.heap.size + 1, 0, none⟩ = false := by simp [World.frozen?, hL.b1]
    have hlt0 := blk_lt hL.b1
    clear hL
    by_cases hlt : k < m
    · have kd : decide ((k : Int) < (m : Int)) = true := by simp; omega
      go_wp2_with (at_builtin; go_must (refine wpList_append_own _ rfl _ _ 34 rfl (w.heap.size + 2) 123 i0 _ 3 24 Try.underlying34 hi hz0 hz1 hz2 rfl (by decide) (.slice a k c) k xs rfl (HL.out.own.alloc _) ⟨wr.heap.size, 0, none⟩ 1 1 [.int .i64 (-1), .bool false, .int .i64 0] rfl rfl (three_cells _ _ _ _ _) (by intro u hu; simp at hu; rcases hu with rfl | rfl | rfl <;> rfl) (by unfold maxLen; omega) (by omega) (by simp; try omega) ?_; intro v' w1 hown hgrow _; obtain ⟨a', c', rfl⟩ := ownsRow_shape hown; obtain ⟨b1, hL2⟩ := HL.out.grow hgrow hown; have HL2 := toHid hL2; have d0 : w1.cell? ⟨w.heap.size + 1, 0, none⟩ = some (.slice a k c) := (by simp [World.cell?, b1, HL.out.at0]); have g0 : w1.frozen? ⟨w.heap.size + 1, 0, none⟩ = false := (by simp [World.frozen?, b1]); have l0 := blk_lt b1; clear hown hgrow hL2 b1))
      go_roundw
      case rel => exact ⟨k + 1, by omega, by simp, _, _, _, _, HL2.out⟩
      case measure => first | omega | (simp only [intOf]; omega)
    · have kd : decide ((k : Int) < (m : Int)) = false := by simp; omega
      go_wp2_with (first | (refine wpList_loadW rfl 43 _ rfl (w.heap.size + 1) rfl X 43 HL.out.b1 _ Try.underlying43 rfl (by rw [HL.out.x.size]; exact info43) ?_) | (refine wpList_storeW rfl 43 _ _ rfl w.heap.size rfl X rfl Try.zeroCells43 43 HL.out.b0 (by rw [HL.out.x.size]; exact info43) (by rw [HL.out.x.size, z43.size]) HL.out.x.one rfl ?_))
      have q := heap_setRow (c' := X) HL.out.b0
      exact bodyPost_ret (v := .tuple #[.agg X, .bool true]) (results_cell_tmp rfl _ _ w.heap.size _ rfl (run_loadVar_row _ _ 43 43 _ _ _ q Try.underlying43 rfl (by rw [HL.out.x.size]; exact info43)) _ rfl) rfl ⟨_, HL.out.x, rfl, below_setRow HL.out.below (Nat.le_refl _)⟩
end Go.Proofs.Ytcloinonhpaojaa
