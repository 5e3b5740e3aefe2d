/-
  What RecUndo does to a transaction.
-/
import Derived.Test.YticadfaclnimgaaDc
namespace Go.Proofs.Yticadfaclnimgaa
open Go.RowKit Go.Maps

theorem below_drewN {B : Nat} {w w' : World} (h : Below B w w') (n : Nat) : Below B w (w'.drewN n) := ⟨h.os, h.tape, h.output, h.size, h.block⟩
section
variable {w : World} {b : Nat} {x : Tn} {v : Value} {r : Rc} {ta : Option Addr} {tc : Nat} {da : Option Addr} {dc : Nat}
set_option maxRecDepth 100000 in
set_option maxHeartbeats 4000000 in
theorem undo42 (hb : w.heap[b]? = some (.cells (txC x v) 74)) (hk : r.kind = 2) (hm : mayB r = true) (hn : x.need ≤ 1000000000) (ht : SlT w ta r.txns) (hd : SlD w da r.dirty) (hlt1 : r.txns.length ≤ maxLen) (hld1 : r.dirty.length ≤ maxLen) : Calls Try.prog 42 #[.pointer (some ⟨b, 0, none⟩), recV r ta tc da dc] w fun e w' => e = .returned (.bool (letsB x r)) ∧ (letsB x r = true → Deed w w' b (deedX x r) v) ∧ (letsB x r = false → Below w.heap.size w w') := by
  have hB0 : Below w.heap.size w (w.alloc (.cells (recC r ta tc da dc) 34)) := (Below.refl _ _).alloc (Nat.le_refl _) _
  have hD := Deed.box hb hB0
  obtain ⟨c0, c1, c2, c3, c4⟩ := cells5 hb
  obtain ⟨f0, f1, f2, f3, f4⟩ := frozen5 hb
  have hlt := some_lt hb
  have HB := toHid hB0
  by_cases hs : x.st = 1
  · have HL := toHid (show letsB x r = false by simp [letsB, hk, hs])
    have g1 : (x.st == 1) = true := by simpa using hs
    clear hb hk hB0 hD hs
    go_enter Try.func42, Try.ntmps42
    go_wp2_with fail
    go_quiet (fail)
    go_wp2
    go_ret
    exact ⟨by rw [HL.out]; rfl, deed_no HL.out (below_drewN HB.out _)⟩
  · have g1 : (x.st == 1) = false := by simpa using hs
    by_cases hu : r.undo < x.next
    · have HL := toHid (show letsB x r = true by simp [letsB, hk, hs, hu])
      have HE := toHid (show deedX x r = { x with need := x.need - (frameB r).length, next := r.undo } by simp [deedX, hk])
      have g2 : ¬ x.next ≤ r.undo := by omega
      have hsz := size_le hm
      have HS := toHid (show ∀ W, Below w.heap.size w W → Calls Try.prog 63 #[recV r ta tc da dc] W fun e w' => e = .returned (.int .i64 ((frameB r).length : Nat)) ∧ Below W.heap.size W w' from fun W hW => by
        have := size_any r ta tc da dc W (ht.below hW) (hd.below hW) hlt1 hld1
        rw [hsz.1] at this
        exact this)
      have HX := toHid (show ∀ W, Below (w.heap.size + 1) (w.alloc (.cells (recC r ta tc da dc) 34)) W → Deed w W b x v ∧ Box W w.heap.size r ta tc da dc from fun W hW => ⟨hD.on (w2 := W) (by simpa using hW), box_of (box_new hW)⟩)
      clear hb hk hB0 hD hs ht hd hlt1 hld1 hm hu
      go_enter Try.func42, Try.ntmps42
      go_wp2_with fail
      go_quiet (fail)
      have HD0 := toHid (show Below (w.heap.size + 1) (w.alloc (.cells (recC r ta tc da dc) 34)) ((w.alloc (.cells (recC r ta tc da dc) 34)).drewN nq) from below_drewN (Below.refl _ _) nq)
      have HBn := toHid (below_drewN HB.out nq)
      generalize (w.alloc (.cells (recC r ta tc da dc) 34)).drewN nq = W0 at *
      obtain ⟨hd0, e0, e1, e2, e3, e4, e5, e6, e7, e8, e9, e10, e11⟩ := HX.out W0 HD0.out
      clear hd0
      go_wp2_with (first
        | (go_at_call 63; refine Calls.mono (HS.out _ HBn.out) ?_; rintro e w2 ⟨rfl, hb2⟩; have HD2 := toHid (HD0.out.trans (hb2.mono (by have := HD0.out.size; simpa using this))); have hls := (HX.out w2 HD2.out).1.less (n := (frameB r).length) hn (by omega); clear hb2)
        | (go_at_call 62; refine Calls.mono hls ?_; rintro e w3 ⟨rfl, hd3, ht3⟩; have HD3 := toHid hd3; obtain ⟨p0, p1, p2, p3, p4⟩ := cells5 hd3.1; obtain ⟨q0, q1, q2, q3, q4⟩ := frozen5 hd3.1; have k4 : w3.cell? ⟨w.heap.size, 4, none⟩ = some (.int .u64 (r.undo : Int)) := (by
            have hbx := box_new HD2.out
            have hb3 : w3.heap[w.heap.size]? = some (.cells (recC r ta tc da dc) 34) := (ht3.block _ (some_lt hbx) (fun e => by have e : w.heap.size = b := e; omega)).trans hbx
            exact (box_of hb3).2.2.2.2.1); clear hd3 hls ht3))
      go_ret
      refine ⟨by rw [HL.out]; rfl, deed_yes HL.out ?_⟩
      rw [HE.out]
      exact HD3.out.set rfl
    · have HL := toHid (show letsB x r = false by simp [letsB, hk, hu])
      have g2 : x.next ≤ r.undo := by omega
      clear hb hk hB0 hD hs hu
      go_enter Try.func42, Try.ntmps42
      go_wp2_with fail
      go_quiet (fail)
      go_wp2
      go_ret
      exact ⟨by rw [HL.out]; rfl, deed_no HL.out (below_drewN HB.out _)⟩
end
end Go.Proofs.Yticadfaclnimgaa
