/-
  The document's Same of a record that makes no rows, and itself; the walk of ActBacks.
-/
import Derived.Test.YtamkfcdehkdcpaaBk
namespace Go.Proofs.Ytamkfcdehkdcpaa
open Go.RowKit

set_option maxRecDepth 20000 in
set_option maxHeartbeats 1000000 in
theorem refsame_eq (r : Rc) (w : World) (ht : r.ta = none ∧ r.tn = 0 ∧ r.tc = 0) (hd : r.da = none ∧ r.dn = 0 ∧ r.dc = 0) :
    Calls Try.prog 27 #[recV r, recV r] w fun e w' => e = .returned (.bool true) ∧ Below w.heap.size w w' := by
  have HK : Hid (Below (w.heap.size + 2) ((w.alloc (.cells (recC r) 54)).alloc (.cells (recC r) 54)) ((w.alloc (.cells (recC r) 54)).alloc (.cells (recC r) 54))) := Below.refl _ _
  have HC : Hid (∀ W, Below (w.heap.size + 2) ((w.alloc (.cells (recC r) 54)).alloc (.cells (recC r) 54)) W → W.heap[w.heap.size]? = some (.cells (recC r) 54) ∧ W.heap[w.heap.size + 1]? = some (.cells (recC r) 54)) := fun W hW => two_kept (by simpa using hW)
  have HF : Hid (∀ W, Below (w.heap.size + 2) ((w.alloc (.cells (recC r) 54)).alloc (.cells (recC r) 54)) W → Below w.heap.size w W) := fun W hW => ((((Below.refl _ _).alloc (Nat.le_refl _) _).alloc (by simp) _).trans (hW.mono (by omega)))
  obtain ⟨kind, lsn, txn, prev, undo, page, ⟨k, x, y, z⟩, ta, tn, tc, da, dn, dc⟩ := r
  obtain ⟨rfl, rfl, rfl⟩ := ht
  obtain ⟨rfl, rfl, rfl⟩ := hd
  have hact : ∀ W, (Op.equalIn 10000 35 (.agg #[.int .i64 k, .string (txt x), .string (txt y), .string (txt z)]) (.agg #[.int .i64 k, .string (txt x), .string (txt y), .string (txt z)])).run Try.prog W = .ok true W := fun W => by
    have := act_same ⟨k, x, y, z⟩ ⟨k, x, y, z⟩ W
    simpa using this
  have hgd := Try.guard35
  simp only [recV, recC] at *
  go_enter Try.func27, Try.ntmps27
  go_wp2_with fail
  clear hact
  go_loopw [5] (fun i wr => i = .int .i64 0 ∧ Below (w.heap.size + 2) ((w.alloc (.cells (recC ⟨kind, lsn, txn, prev, undo, page, ⟨k, x, y, z⟩, none, 0, 0, none, 0, 0⟩) 54)).alloc (.cells (recC ⟨kind, lsn, txn, prev, undo, page, ⟨k, x, y, z⟩, none, 0, 0, none, 0, 0⟩) 54)) wr) (fun _ _ => 0)
  case atStart => exact ⟨rfl, HK.out⟩
  case round =>
    obtain ⟨rfl, hKr⟩ := hrel
    have HKr := (show Hid _ from hKr)
    obtain ⟨ka, kb⟩ := HC.out _ hKr
    obtain ⟨c0, c1, c2, c3, c4, c5, c6, c7, c8, c9, c10, c11, hz⟩ := cell12 ka
    clear hKr ka kb c0 c1 c2 c3 c4 c5 c6 c7 c8 c9
    go_wp2_with fail
    go_loopw [6] (fun i wr => i = .int .i64 0 ∧ Below (w.heap.size + 2) ((w.alloc (.cells (recC ⟨kind, lsn, txn, prev, undo, page, ⟨k, x, y, z⟩, none, 0, 0, none, 0, 0⟩) 54)).alloc (.cells (recC ⟨kind, lsn, txn, prev, undo, page, ⟨k, x, y, z⟩, none, 0, 0, none, 0, 0⟩) 54)) wr) (fun _ _ => 0)
    case atStart => exact ⟨rfl, HKr.out⟩
    case round =>
      obtain ⟨rfl, hKr⟩ := hrel
      have HKs := (show Hid _ from hKr)
      clear c10 c11 hz
      obtain ⟨ka, kb⟩ := HC.out _ hKr
      obtain ⟨c0, c1, c2, c3, c4, c5, c6, c7, c8, c9, c10, c11, hz⟩ := cell12 ka
      clear hKr ka kb c0 c1 c2 c3 c4 c5 c6 c7 c8 c9
      go_wp2
      go_ret
      exact ⟨rfl, HF.out _ HKs.out⟩

set_option maxRecDepth 20000 in
set_option maxHeartbeats 1000000 in
theorem walkBacks (r : Rc) (n0 n1 n2 : Nat) (w : World) : Calls Try.prog 8 #[recV r, .agg #[.int .u64 (n0 : Int), .int .u64 (n1 : Int), .int .u64 (n2 : Int)]] w fun e w' => e = .returned (.bool true) ∧ Below w.heap.size w w' := by
  have HS := (show Hid _ from short_any r.act)
  have HB0 : Hid (Below w.heap.size w ((w.alloc (.cells (recC r) 54)).alloc (.cells #[.int .u64 (n0 : Int), .int .u64 (n1 : Int), .int .u64 (n2 : Int)] 61))) := ((Below.refl _ _).alloc (Nat.le_refl _) _).alloc (by simp) _
  have HBk := (show Hid _ from back_any r n0 n1 n2)
  have HRb := (show Hid _ from refback_any r n0 n1 n2)
  have hnil : (backR r n0 n1 n2).1.ta = none ∧ (backR r n0 n1 n2).1.tn = 0 ∧ (backR r n0 n1 n2).1.tc = 0 := by unfold backR; split <;> exact ⟨rfl, rfl, rfl⟩
  have hnil2 : (backR r n0 n1 n2).1.da = none ∧ (backR r n0 n1 n2).1.dn = 0 ∧ (backR r n0 n1 n2).1.dc = 0 := by unfold backR; split <;> exact ⟨rfl, rfl, rfl⟩
  generalize backR r n0 n1 n2 = q at *
  obtain ⟨q, qe⟩ := q
  simp only at hnil hnil2 HBk HRb
  have HSm := (show Hid _ from fun W => refsame_eq q W hnil hnil2)
  have HLv := (show Hid _ from lives_any)
  clear hnil hnil2
  simp only [recV, recC, actV, actC] at *
  go_enter Try.func8, Try.ntmps8
  go_wp2_with fail
  refine Calls.mono (HS.out _) ?_
  rintro e w1 ⟨⟨b, rfl⟩, hb1⟩
  have HB1 := (show Hid _ from below_on HB0.out hb1)
  obtain ⟨hk1, hq1⟩ := two_kept hb1
  have HK1 := (show Hid _ from hk1)
  have HQ1 := (show Hid _ from hq1)
  obtain ⟨c0, c1, c2, c3, c4, c5, c6, c7, c8, c9, c10, c11, hz⟩ := cell12 hk1
  obtain ⟨d0, d1, d2, e0, e1, e2, hz2⟩ := cell3 hq1
  clear hb1 hk1 hq1 HB0 HS
  have HEnd : Hid (∀ W, Below w.heap.size w W → Calls Try.prog 11 #[] W fun e w' => e = .returned (.bool true) ∧ Below w.heap.size w w') := fun W hW => (HLv.out W).mono fun e w' ⟨e1, e2⟩ => ⟨e1, below_on hW e2⟩
  cases b
  · go_wp2_with fail
    refine Calls.mono (HEnd.out _ HB1.out) ?_
    rintro e w2 ⟨rfl, hb2⟩
    go_wp2
    go_ret
    exact ⟨rfl, hb2⟩
  by_cases ht : r.tn ≤ 100
  rotate_left
  · have ht' : decide ((r.tn : Int) > 100) = true := by simp; omega
    go_wp2_with fail
    refine Calls.mono (HEnd.out _ HB1.out) ?_
    rintro e w2 ⟨rfl, hb2⟩
    go_wp2
    go_ret
    exact ⟨rfl, hb2⟩
  by_cases hd : r.dn ≤ 100
  rotate_left
  · go_wp2_with fail
    refine Calls.mono (HEnd.out _ HB1.out) ?_
    rintro e w2 ⟨rfl, hb2⟩
    go_wp2
    go_ret
    exact ⟨rfl, hb2⟩
  go_wp2_with fail
  refine Calls.mono (HBk.out _) ?_
  rintro e w2 ⟨rfl, hb2⟩
  have hB2 := below_on HB1.out hb2
  have hB3 := (Below.refl w2.heap.size w2).alloc (Nat.le_refl _) (.cells (recC q) 54)
  have HB3 := (show Hid _ from below_on hB2 hB3)
  have HK3 := (show Hid _ from box_in' (box_in' HK1.out hb2) hB3)
  have HQ3 := (show Hid _ from box_in' (box_in' HQ1.out hb2) hB3)
  have HX3 : Hid ((w2.alloc (.cells (recC q) 54)).heap[w2.heap.size]? = some (.cells (recC q) 54)) := heap_alloc_new _ _
  clear hb2 hB2 hB3 c0 c1 c2 c3 c4 c5 c6 c7 c8 c9 c10 c11 hz d0 d1 d2 e0 e1 e2 hz2 HBk
  obtain ⟨c0, c1, c2, c3, c4, c5, c6, c7, c8, c9, c10, c11, hz⟩ := cell12 HK3.out
  obtain ⟨d0, d1, d2, e0, e1, e2, hz2⟩ := cell3 HQ3.out
  simp only [recC] at *
  go_wp2_with fail
  refine Calls.mono (HRb.out _) ?_
  rintro e w4 ⟨rfl, hb4⟩
  have hB4 := below_on HB3.out hb4
  have hB5 := (Below.refl w4.heap.size w4).alloc (Nat.le_refl _) (.cells (recC q) 54)
  have HB5 := (show Hid _ from below_on hB4 hB5)
  have HX5 := (show Hid _ from box_in' (box_in' HX3.out hb4) hB5)
  have HY5 : Hid ((w4.alloc (.cells (recC q) 54)).heap[w4.heap.size]? = some (.cells (recC q) 54)) := heap_alloc_new _ _
  clear hb4 hB4 hB5 c0 c1 c2 c3 c4 c5 c6 c7 c8 c9 c10 c11 hz d0 d1 d2 e0 e1 e2 hz2 HRb
  obtain ⟨c0, c1, c2, c3, c4, c5, c6, c7, c8, c9, c10, c11, hz⟩ := cell12 HX5.out
  obtain ⟨d0, d1, d2, d3, d4, d5, d6, d7, d8, d9, d10, d11, hz2⟩ := cell12 HY5.out
  simp only [recC] at *
  go_wp2_with fail
  refine Calls.mono (HSm.out _) ?_
  rintro e w6 ⟨rfl, hb6⟩
  have HB6 := (show Hid _ from below_on HB5.out hb6)
  clear hb6 c0 c1 c2 c3 c4 c5 c6 c7 c8 c9 c10 c11 hz d0 d1 d2 d3 d4 d5 d6 d7 d8 d9 d10 d11 hz2
  go_wp2_with fail
  refine Calls.mono (HEnd.out _ HB6.out) ?_
  rintro e w7 ⟨rfl, hb7⟩
  go_wp2
  go_ret
  exact ⟨rfl, hb7⟩

end Go.Proofs.Ytamkfcdehkdcpaa
