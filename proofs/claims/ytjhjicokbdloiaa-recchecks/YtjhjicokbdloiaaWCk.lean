/-
  The walk of RecChecks.
-/
import Derived.Test.YtjhjicokbdloiaaDy
import Derived.Deep.RegionHeld3
namespace Go.Proofs.Ytjhjicokbdloiaa
open Go.RowKit

theorem light_len (r : Rc) (ta : Option Addr) (tc : Nat) (da : Option Addr) (dc : Nat) (w : World) (hlt : r.txns.length ≤ maxLen) (hld : r.dirty.length ≤ maxLen) :
    Calls Try.prog 9 #[recV r ta tc da dc] w fun e w' => ∃ b, e = .returned (.bool b) ∧ (b = true → r.txns.length ≤ 300 ∧ r.dirty.length ≤ 300) ∧ Below w.heap.size w w' := by
  unfold maxLen at hlt hld
  by_cases h1 : r.txns.length ≤ 300
  · by_cases h2 : r.dirty.length ≤ 300
    · refine (light_any r ta tc da dc w).mono ?_
      rintro e w' ⟨b, e1, e2⟩
      exact ⟨b, e1, fun _ => ⟨h1, h2⟩, e2⟩
    · have HB : Hid (Below w.heap.size w (w.alloc (.cells (recC r ta tc da dc) 31))) := (Below.refl _ _).alloc (Nat.le_refl _) _
      go_enter Try.func9, Try.ntmps9
      go_wp2
      go_ret
      exact ⟨rfl, HB.out⟩
  · have HB : Hid (Below w.heap.size w (w.alloc (.cells (recC r ta tc da dc) 31))) := (Below.refl _ _).alloc (Nat.le_refl _) _
    go_enter Try.func9, Try.ntmps9
    go_wp2
    go_ret
    exact ⟨rfl, HB.out⟩

set_option maxRecDepth 20000 in
set_option maxHeartbeats 8000000 in
theorem checks_walk (r : Rc) (ta : Option Addr) (tc : Nat) (da : Option Addr) (dc : Nat) (w : World) (h : RI w r ta da) :
    Calls Try.prog 3 #[recV r ta tc da dc] w fun e w' => e = .returned (.bool true) ∧ Below w.heap.size w w' := by
  have hlt := h.lt
  have hld := h.ld
  have HRI := (show Hid _ from h)
  have HK0 : Hid (Below (w.heap.size + 1) (w.alloc (.cells (recC r ta tc da dc) 31)) (w.alloc (.cells (recC r ta tc da dc) 31))) := Below.refl _ _
  have HBB : Hid (∀ W, Below (w.heap.size + 1) (w.alloc (.cells (recC r ta tc da dc) 31)) W → Below w.heap.size w W) := fun W hW => box1_below hW
  have HLv : Hid (∀ W, Below (w.heap.size + 1) (w.alloc (.cells (recC r ta tc da dc) 31)) W → Calls Try.prog 10 #[] W fun e w' => e = .returned (.bool true) ∧ Below (w.heap.size + 1) (w.alloc (.cells (recC r ta tc da dc) 31)) w') := fun W hW => (lives_any W).mono fun e w' ⟨e1, e2⟩ => ⟨e1, box1_on hW e2⟩
  clear h
  go_enter Try.func3, Try.ntmps3
  go_wp2_with fail
  refine (light_len r ta tc da dc _ hlt hld).mono ?_
  rintro e w1 ⟨la, rfl, hlen, hb1⟩
  have HK1 := (show Hid _ from box1_on HK0.out hb1)
  clear hb1
  obtain ⟨⟨x0, x1, x2, x3, x4, x5, x6, x7, x8, x9, x10, x11⟩, _⟩ := rw_cells' (box1_kept HK1.out)
  have hza := lt_of_block (box1_kept HK1.out)
  cases la
  · go_wp2_with fail
    refine (HLv.out _ HK1.out).mono ?_
    rintro e wz ⟨rfl, hbz⟩
    have hfin := HBB.out _ hbz
    clear hbz
    go_wp2
    go_ret
    exact ⟨rfl, hfin⟩
  obtain ⟨hl1, hl2⟩ := hlen rfl
  clear hlen
  go_wp2_with fail
  have ri1 := (show Hid _ from HRI.out.below (HBB.out _ HK1.out))
  refine (encode_any r ta tc da dc _ ri1.out.t ri1.out.d ri1.out.lt ri1.out.ld).mono ?_
  rintro e w2 ⟨vb, rfl, hob, hb2⟩
  obtain ⟨bx, bc, rfl⟩ := ownsRow_shape hob
  have HK2 := (show Hid _ from box1_on HK1.out hb2)
  have HOB := (show Hid _ from hob)
  clear hb2 hob ri1 x0 x1 x2 x3 x4 x5 x6 x7 x8 x9 x10 x11 hza
  obtain ⟨⟨x0, x1, x2, x3, x4, x5, x6, x7, x8, x9, x10, x11⟩, _⟩ := rw_cells' (box1_kept HK2.out)
  have hza := lt_of_block (box1_kept HK2.out)
  go_wp2_with fail
  have ri2 := (show Hid _ from HRI.out.below (HBB.out _ HK2.out))
  refine (frame_any r ta tc da dc _ ri2.out.t ri2.out.d ri2.out.lt ri2.out.ld).mono ?_
  rintro e w3 ⟨vf, rfl, hof, hb3⟩
  obtain ⟨fx, fc, rfl⟩ := ownsRow_shape hof
  have HK3 := (show Hid _ from box1_on HK2.out hb3)
  have HOB3 := (show Hid _ from ownsRow_below HOB.out hb3 (ownsRow_lt HOB.out))
  have HOF := (show Hid _ from hof)
  clear hb3 hof HOB ri2 x0 x1 x2 x3 x4 x5 x6 x7 x8 x9 x10 x11 hza
  obtain ⟨⟨x0, x1, x2, x3, x4, x5, x6, x7, x8, x9, x10, x11⟩, _⟩ := rw_cells' (box1_kept HK3.out)
  have hza := lt_of_block (box1_kept HK3.out)
  go_wp2_with fail
  refine (refmay_any r ta tc da dc _ (HRI.out.below (HBB.out _ HK3.out)) (by omega)).mono ?_
  rintro e w5 ⟨rfl, hb5⟩
  have HK5 := (show Hid _ from box1_on HK3.out hb5)
  have HOB5 := (show Hid _ from ownsRow_below HOB3.out hb5 (ownsRow_lt HOB3.out))
  have HOF5 := (show Hid _ from ownsRow_below HOF.out hb5 (ownsRow_lt HOF.out))
  clear hb5 HOF HOB3 x0 x1 x2 x3 x4 x5 x6 x7 x8 x9 x10 x11 hza
  have HC0 : Hid (∀ W, Below (w.heap.size + 1) (w.alloc (.cells (recC r ta tc da dc) 31)) W → Calls Try.prog 14 #[recV r ta tc da dc] W fun e w' => e = .returned (.int .i64 (argE (mayB r))) ∧ Below (w.heap.size + 1) (w.alloc (.cells (recC r ta tc da dc) 31)) w') := fun W hW => by
    have ri := HRI.out.below (HBB.out _ hW)
    exact (check_any r ta tc da dc W ri.t ri.d ri.lt ri.ld).mono fun e w' ⟨e1, e2⟩ => ⟨e1, box1_on hW e2⟩
  have HSz0 : Hid (∀ W, Below (w.heap.size + 1) (w.alloc (.cells (recC r ta tc da dc) 31)) W → Calls Try.prog 15 #[recV r ta tc da dc] W fun e w' => e = .returned (.int .i64 ((outF r).length : Nat)) ∧ Below (w.heap.size + 1) (w.alloc (.cells (recC r ta tc da dc) 31)) w') := fun W hW => by
    have ri := HRI.out.below (HBB.out _ hW)
    exact (size_any r ta tc da dc W ri.t ri.d ri.lt ri.ld).mono fun e w' ⟨e1, e2⟩ => ⟨e1, box1_on hW e2⟩
  obtain ⟨⟨x0, x1, x2, x3, x4, x5, x6, x7, x8, x9, x10, x11⟩, _⟩ := rw_cells' (box1_kept HK5.out)
  have hza := lt_of_block (box1_kept HK5.out)
  cases hm : mayB r
  · have eB : outB r = [] := by unfold outB; rw [hm]; rfl
    have eF : outF r = [] := by unfold outF; rw [hm]; rfl
    rw [hm] at HC0
    rw [eF] at HSz0
    rw [eB, eF]
    clear hm
    unfold argE at HC0
    unfold argE
    go_wp2_with fail
    refine (HC0.out _ HK5.out).mono ?_
    rintro e w6 ⟨rfl, hb6⟩
    have HK6 := (show Hid _ from hb6)
    clear hb6 x0 x1 x2 x3 x4 x5 x6 x7 x8 x9 x10 x11 hza
    obtain ⟨⟨x0, x1, x2, x3, x4, x5, x6, x7, x8, x9, x10, x11⟩, _⟩ := rw_cells' (box1_kept HK6.out)
    have hza := lt_of_block (box1_kept HK6.out)
    go_wp2_with fail
    refine (HSz0.out _ HK6.out).mono ?_
    rintro e w7 ⟨rfl, hb7⟩
    have HK7 := (show Hid _ from hb7)
    clear hb7 x0 x1 x2 x3 x4 x5 x6 x7 x8 x9 x10 x11 hza
    go_wp2_with fail
    refine (HLv.out _ HK7.out).mono ?_
    rintro e w8 ⟨rfl, hb8⟩
    have hfin := HBB.out _ hb8
    clear hb8
    go_wp2
    go_ret
    exact ⟨rfl, hfin⟩
  · have eB : outB r = encB r := by unfold outB; rw [hm]; rfl
    have eF : outF r = frameB r := by unfold outF; rw [hm]; rfl
    rw [eB] at HOB5
    rw [eF] at HOF5 HSz0
    rw [hm] at HC0
    rw [eB, eF]
    have HON : Hid (∀ W, Below w5.heap.size w5 W → Below (w.heap.size + 1) (w.alloc (.cells (recC r ta tc da dc) 31)) W) := fun W hW => box1_on HK5.out hW
    have HC : Hid (∀ W, Below w5.heap.size w5 W → Calls Try.prog 14 #[recV r ta tc da dc] W fun e w' => e = .returned (.int .i64 0) ∧ Below w5.heap.size w5 w') := fun W hW => by
      have ri := HRI.out.below (HBB.out _ (HON.out _ hW))
      refine (check_any r ta tc da dc W ri.t ri.d ri.lt ri.ld).mono ?_
      rintro e w' ⟨e1, e2⟩
      rw [hm] at e1
      exact ⟨e1, below_on hW e2⟩
    have HSz : Hid (∀ W, Below w5.heap.size w5 W → Calls Try.prog 15 #[recV r ta tc da dc] W fun e w' => e = .returned (.int .i64 ((frameB r).length : Nat)) ∧ Below w5.heap.size w5 w') := fun W hW => by
      have ri := HRI.out.below (HBB.out _ (HON.out _ hW))
      refine (size_any r ta tc da dc W ri.t ri.d ri.lt ri.ld).mono ?_
      rintro e w' ⟨e1, e2⟩
      rw [eF] at e1
      exact ⟨e1, below_on hW e2⟩
    have HLv5 : Hid (∀ W, Below w5.heap.size w5 W → Calls Try.prog 10 #[] W fun e w' => e = .returned (.bool true) ∧ Below w5.heap.size w5 w') := fun W hW => (lives_any W).mono fun e w' ⟨e1, e2⟩ => ⟨e1, below_on hW e2⟩
    have HBy : Hid (∀ W, Below w5.heap.size w5 W → Calls Try.prog 16 #[recV r ta tc da dc] W fun e w' => e = .returned (.string (txt (encB r))) ∧ Below w5.heap.size w5 w') := fun W hW => (bytes_any r ta tc da dc W hm (HRI.out.below (HBB.out _ (HON.out _ hW)))).mono fun e w' ⟨e1, e2⟩ => ⟨e1, below_on hW e2⟩
    have HFy : Hid (∀ W, Below w5.heap.size w5 W → Calls Try.prog 17 #[recV r ta tc da dc] W fun e w' => e = .returned (.string (txt (frameB r))) ∧ Below w5.heap.size w5 w') := fun W hW => (refframe_any r ta tc da dc W hm (HRI.out.below (HBB.out _ (HON.out _ hW)))).mono fun e w' ⟨e1, e2⟩ => ⟨e1, below_on hW e2⟩
    have HT : Hid (∀ W, Below w5.heap.size w5 W → W.cell? ⟨w.heap.size, 0, none⟩ = some (.int .i64 r.kind) ∧ W.cell? ⟨w.heap.size, 1, none⟩ = some (.int .u64 (r.lsn : Int)) ∧ W.cell? ⟨w.heap.size, 2, none⟩ = some (.int .i64 r.txn) ∧ W.cell? ⟨w.heap.size, 3, none⟩ = some (.int .u64 (r.prev : Int)) ∧ W.cell? ⟨w.heap.size, 4, none⟩ = some (.int .u64 (r.undo : Int)) ∧ W.cell? ⟨w.heap.size, 5, none⟩ = some (.int .i64 r.page) ∧ W.cell? ⟨w.heap.size, 6, none⟩ = some (.int .i64 r.ak) ∧ W.cell? ⟨w.heap.size, 7, none⟩ = some (.string (txt r.key)) ∧ W.cell? ⟨w.heap.size, 8, none⟩ = some (.string (txt r.old)) ∧ W.cell? ⟨w.heap.size, 9, none⟩ = some (.string (txt r.new)) ∧ W.cell? ⟨w.heap.size, 10, none⟩ = some (.slice ta r.txns.length tc) ∧ W.cell? ⟨w.heap.size, 11, none⟩ = some (.slice da r.dirty.length dc) ∧ (convert 34 9 (.slice bx (encB r).length bc)).run Try.prog W = .ok (.string (txt (encB r))) W ∧ (convert 34 9 (.slice fx (frameB r).length fc)).run Try.prog W = .ok (.string (txt (frameB r))) W ∧ Below w5.heap.size w5 W) := fun W hW => by
      obtain ⟨⟨x0, x1, x2, x3, x4, x5, x6, x7, x8, x9, x10, x11⟩, _⟩ := rw_cells' (box1_kept (box1_on HK5.out hW))
      exact ⟨x0, x1, x2, x3, x4, x5, x6, x7, x8, x9, x10, x11, conv_txt (ownsRow_below HOB5.out hW (ownsRow_lt HOB5.out)), conv_txt (ownsRow_below HOF5.out hW (ownsRow_lt HOF5.out)), hW⟩
    have HKF := (show Hid _ from HON.out)
    have HR5 : Hid (Below w5.heap.size w5 w5) := Below.refl _ _
    have hS0 := HT.out _ HR5.out.drew
    have hS1 := HT.out _ HR5.out
    have hel2 : (frameB r).length ≤ 100000 := by have := frameB_length r; have := (encB_length r hm).2; omega
    have hel : (encB r).length ≤ 100000 := by have := (encB_length r hm).2; omega
    have hsb : ((txt (encB r)).toList == (txt (encB r)).toList) = true := by simp
    have hsf : ((txt (frameB r)).toList == (txt (frameB r)).toList) = true := by simp
    clear hm eB eF HC0 HSz0 HLv HOB5 HOF5 HK5 x0 x1 x2 x3 x4 x5 x6 x7 x8 x9 x10 x11 hza
    unfold argE
    simp only [if_true]
    go_wp2_with fail
    go_region_held3 (fun W => W.cell? ⟨w.heap.size, 0, none⟩ = some (.int .i64 r.kind) ∧ W.cell? ⟨w.heap.size, 1, none⟩ = some (.int .u64 (r.lsn : Int)) ∧ W.cell? ⟨w.heap.size, 2, none⟩ = some (.int .i64 r.txn) ∧ W.cell? ⟨w.heap.size, 3, none⟩ = some (.int .u64 (r.prev : Int)) ∧ W.cell? ⟨w.heap.size, 4, none⟩ = some (.int .u64 (r.undo : Int)) ∧ W.cell? ⟨w.heap.size, 5, none⟩ = some (.int .i64 r.page) ∧ W.cell? ⟨w.heap.size, 6, none⟩ = some (.int .i64 r.ak) ∧ W.cell? ⟨w.heap.size, 7, none⟩ = some (.string (txt r.key)) ∧ W.cell? ⟨w.heap.size, 8, none⟩ = some (.string (txt r.old)) ∧ W.cell? ⟨w.heap.size, 9, none⟩ = some (.string (txt r.new)) ∧ W.cell? ⟨w.heap.size, 10, none⟩ = some (.slice ta r.txns.length tc) ∧ W.cell? ⟨w.heap.size, 11, none⟩ = some (.slice da r.dirty.length dc) ∧ (convert 34 9 (.slice bx (encB r).length bc)).run Try.prog W = .ok (.string (txt (encB r))) W ∧ (convert 34 9 (.slice fx (frameB r).length fc)).run Try.prog W = .ok (.string (txt (frameB r))) W ∧ Below w5.heap.size w5 W) (first | with_reducible assumption | (with_reducible refine HT.out _ ?_; first | with_reducible assumption | exact HR5.out | exact Below.drew HR5.out | exact Below.drew (by with_reducible assumption))) (first | (go_at_call 14; refine (HC.out _ (by first | with_reducible assumption | exact HR5.out | exact Below.drew HR5.out | exact And.right (And.right (And.right (And.right (And.right (And.right (And.right (And.right (And.right (And.right (And.right (And.right (And.right (And.right ((by with_reducible assumption))))))))))))))))).mono ?_; rintro e wn ⟨rfl, hbn⟩; have hSn := HT.out _ hbn) | (go_at_call 16; refine (HBy.out _ (by first | with_reducible assumption | exact HR5.out | exact Below.drew HR5.out | exact And.right (And.right (And.right (And.right (And.right (And.right (And.right (And.right (And.right (And.right (And.right (And.right (And.right (And.right ((by with_reducible assumption))))))))))))))))).mono ?_; rintro e wn ⟨rfl, hbn⟩; have hSn := HT.out _ hbn) | (go_at_call 17; refine (HFy.out _ (by first | with_reducible assumption | exact HR5.out | exact Below.drew HR5.out | exact And.right (And.right (And.right (And.right (And.right (And.right (And.right (And.right (And.right (And.right (And.right (And.right (And.right (And.right ((by with_reducible assumption))))))))))))))))).mono ?_; rintro e wn ⟨rfl, hbn⟩; have hSn := HT.out _ hbn) | (go_at_call 15; refine (HSz.out _ (by first | with_reducible assumption | exact HR5.out | exact Below.drew HR5.out | exact And.right (And.right (And.right (And.right (And.right (And.right (And.right (And.right (And.right (And.right (And.right (And.right (And.right (And.right ((by with_reducible assumption))))))))))))))))).mono ?_; rintro e wn ⟨rfl, hbn⟩; have hSn := HT.out _ hbn) | (go_at_call 10; refine (HLv5.out _ (by first | with_reducible assumption | exact HR5.out | exact Below.drew HR5.out | exact And.right (And.right (And.right (And.right (And.right (And.right (And.right (And.right (And.right (And.right (And.right (And.right (And.right (And.right ((by with_reducible assumption))))))))))))))))).mono ?_; rintro e wn ⟨rfl, hbn⟩; have hSn := HT.out _ hbn))
    all_goals
      have hfin := (show Hid _ from HBB.out _ (HKF.out _ hbn))
      clear hbn hSn
      go_wp2
      go_ret
      first | exact ⟨rfl, hfin.out⟩ | (refine ⟨?_, hfin.out⟩; simp)

end Go.Proofs.Ytjhjicokbdloiaa
