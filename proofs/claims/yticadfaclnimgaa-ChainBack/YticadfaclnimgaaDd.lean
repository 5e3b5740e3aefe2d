/-
  What RecUpdate, RecSave and RecUndo do to a transaction.
-/
import Derived.Test.YticadfaclnimgaaDc
import Derived.Deep.RegionWith
namespace Go.Proofs.Yticadfaclnimgaa
open Go.RowKit Go.Maps
section
variable {w : World} {b : Nat} {x : Tn} {v : Value} {r : Rc} {ta : Option Addr} {tc : Nat} {da : Option Addr} {dc : Nat}
set_option maxRecDepth 100000 in
set_option maxHeartbeats 4000000 in
theorem update41 (hb : w.heap[b]? = some (.cells (txC x v) 74)) (hk : r.kind = 1) (hm : mayB r = true) (hn : x.need ≤ 1000000000) : Calls Try.prog 41 #[.pointer (some ⟨b, 0, none⟩), recV r ta tc da dc] w fun e w' => e = .returned (.bool (letsB x r)) ∧ (letsB x r = true → Deed w w' b (deedX x r) v) ∧ (letsB x r = false → Below w.heap.size w w') := by
  have hB0 : Below w.heap.size w (w.alloc (.cells (recC r ta tc da dc) 34)) := (Below.refl _ _).alloc (Nat.le_refl _) _
  have hD := Deed.box hb hB0
  have hi := isOpen34 hD.1
  obtain ⟨c0, c1, c2, c3, c4⟩ := cells5 hb
  obtain ⟨f0, f1, f2, f3, f4⟩ := frozen5 hb
  have hlt := some_lt hb
  by_cases hs : x.st = 0
  · have HL := toHid (show letsB x r = true by simp [letsB, hk, hs])
    have HE := toHid (show deedX x r = { x with need := x.need + moreN x r, next := r.lsn } by simp [deedX, hk])
    rw [show (x.st == 0) = true by simpa using hs] at hi
    have hml := moreN_le (x := x) hm
    have hwr := wrap_nn (a := x.need) (b := moreN x r) (by omega)
    have HX := toHid (show ∀ W, Below (w.heap.size + 1) (w.alloc (.cells (recC r ta tc da dc) 34)) W → Deed w W b x v ∧ Box W w.heap.size r ta tc da dc ∧ W.cell? ⟨b, 3, none⟩ = some (.int .i64 (x.need : Int)) from fun W hW => by
      have h1 := hD.on (w2 := W) (by simpa using hW)
      exact ⟨h1, box_of (box_new hW), (cells5 h1.1).2.2.2.1⟩)
    obtain ⟨hd0, hx0, hc0⟩ := HX.out ((w.alloc (.cells (recC r ta tc da dc) 34)).drew) ((Below.refl _ _).drew)
    have hm0 := more36 (ta := ta) (tc := tc) (da := da) (dc := dc) hd0.1 hm
    have HD1 := toHid (show Below (w.heap.size + 1) (w.alloc (.cells (recC r ta tc da dc) 34)) ((w.alloc (.cells (recC r ta tc da dc) 34)).drew) from (Below.refl _ _).drew)
    clear hb hk hB0 hD hs hd0 hx0 hc0 hm
    go_enter Try.func41, Try.ntmps41
    go_wp2_with (go_at_call 34; refine hi.mono ?_; rintro e w1 ⟨rfl, hw⟩; obtain rfl := hw.symm)
    go_region_with (go_at_call 36; refine Calls.mono hm0 ?_; rintro e w2 ⟨rfl, hb2⟩; obtain ⟨hd2, hx2, hc2⟩ := HX.out w2 (HD1.out.trans (hb2.mono (by simp))); have HD2 := toHid hd2; obtain ⟨p0, p1, p2, p3, p4⟩ := cells5 hd2.1; obtain ⟨q0, q1, q2, q3, q4⟩ := frozen5 hd2.1; obtain ⟨e0, e1, e2, e3, e4, e5, e6, e7, e8, e9, e10, e11⟩ := hx2; clear hb2 hd2)
    all_goals
      go_wp2
      go_ret
      refine ⟨by rw [HL.out]; rfl, deed_yes HL.out ?_⟩
      rw [HE.out]
      exact (HD2.out.set (z := { x with need := x.need + moreN x r }) (by simp)).set (z := { x with need := x.need + moreN x r, next := r.lsn }) rfl
  · have HL := toHid (show letsB x r = false by simp [letsB, hk, hs])
    have HB := toHid hB0
    rw [show (x.st == 0) = false by simpa using hs] at hi
    clear hb hk hB0 hD hs
    go_enter Try.func41, Try.ntmps41
    go_wp2_with (go_at_call 34; refine hi.mono ?_; rintro e w1 ⟨rfl, hw⟩; obtain rfl := hw.symm)
    go_ret
    exact ⟨by rw [HL.out]; rfl, deed_no HL.out HB.out⟩
set_option maxRecDepth 100000 in
set_option maxHeartbeats 4000000 in
theorem save46 (hb : w.heap[b]? = some (.cells (txC x v) 74)) (hk : r.kind = 6) (hm : mayB r = true) (hn : x.need ≤ 1000000000) : Calls Try.prog 46 #[.pointer (some ⟨b, 0, none⟩), recV r ta tc da dc] w fun e w' => e = .returned (.bool (letsB x r)) ∧ (letsB x r = true → Deed w w' b (deedX x r) v) ∧ (letsB x r = false → Below w.heap.size w w') := by
  have hB0 : Below w.heap.size w (w.alloc (.cells (recC r ta tc da dc) 34)) := (Below.refl _ _).alloc (Nat.le_refl _) _
  have hD := Deed.box hb hB0
  have hi := isOpen34 hD.1
  obtain ⟨c0, c1, c2, c3, c4⟩ := cells5 hb
  obtain ⟨f0, f1, f2, f3, f4⟩ := frozen5 hb
  have hlt := some_lt hb
  by_cases hs : x.st = 0
  · have HL := toHid (show letsB x r = true by simp [letsB, hk, hs])
    have HE := toHid (show deedX x r = { x with need := x.need + moreN x r } by simp [deedX, hk])
    rw [show (x.st == 0) = true by simpa using hs] at hi
    have hml := moreN_le (x := x) hm
    have hwr := wrap_nn (a := x.need) (b := moreN x r) (by omega)
    have HX := toHid (show ∀ W, Below (w.heap.size + 1) (w.alloc (.cells (recC r ta tc da dc) 34)) W → Deed w W b x v ∧ Box W w.heap.size r ta tc da dc ∧ W.cell? ⟨b, 3, none⟩ = some (.int .i64 (x.need : Int)) from fun W hW => by
      have h1 := hD.on (w2 := W) (by simpa using hW)
      exact ⟨h1, box_of (box_new hW), (cells5 h1.1).2.2.2.1⟩)
    obtain ⟨hd0, hx0, hc0⟩ := HX.out ((w.alloc (.cells (recC r ta tc da dc) 34)).drew) ((Below.refl _ _).drew)
    have hm0 := more36 (ta := ta) (tc := tc) (da := da) (dc := dc) hd0.1 hm
    have HD1 := toHid (show Below (w.heap.size + 1) (w.alloc (.cells (recC r ta tc da dc) 34)) ((w.alloc (.cells (recC r ta tc da dc) 34)).drew) from (Below.refl _ _).drew)
    clear hb hk hB0 hD hs hd0 hx0 hc0 hm
    go_enter Try.func46, Try.ntmps46
    go_wp2_with (go_at_call 34; refine hi.mono ?_; rintro e w1 ⟨rfl, hw⟩; obtain rfl := hw.symm)
    go_region_with (go_at_call 36; refine Calls.mono hm0 ?_; rintro e w2 ⟨rfl, hb2⟩; obtain ⟨hd2, hx2, hc2⟩ := HX.out w2 (HD1.out.trans (hb2.mono (by simp))); have HD2 := toHid hd2; obtain ⟨p0, p1, p2, p3, p4⟩ := cells5 hd2.1; obtain ⟨q0, q1, q2, q3, q4⟩ := frozen5 hd2.1; obtain ⟨e0, e1, e2, e3, e4, e5, e6, e7, e8, e9, e10, e11⟩ := hx2; clear hb2 hd2)
    all_goals
      go_wp2
      go_ret
      refine ⟨by rw [HL.out]; rfl, deed_yes HL.out ?_⟩
      rw [HE.out]
      exact HD2.out.set (z := { x with need := x.need + moreN x r }) (by simp)
  · have HL := toHid (show letsB x r = false by simp [letsB, hk, hs])
    have HB := toHid hB0
    rw [show (x.st == 0) = false by simpa using hs] at hi
    clear hb hk hB0 hD hs
    go_enter Try.func46, Try.ntmps46
    go_wp2_with (go_at_call 34; refine hi.mono ?_; rintro e w1 ⟨rfl, hw⟩; obtain rfl := hw.symm)
    go_ret
    exact ⟨by rw [HL.out]; rfl, deed_no HL.out HB.out⟩
end
end Go.Proofs.Yticadfaclnimgaa
