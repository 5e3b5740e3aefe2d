/-
  The walks of layChange and layTables.
-/
import Derived.Test.YticadfaclnimgaaWx
import Derived.Test.YticadfaclnimgaaMh
namespace Go.Proofs.Yticadfaclnimgaa
open Go.RowKit

theorem notBytes (cs : Array Value) (t : TypeId) (fz : Nat × Nat) (h : t ≠ 5) : ∀ cs' fz', Obj.cells cs t fz ≠ .cells cs' 5 fz' := by
  intro cs' fz' e
  simp at e
  exact h e.2.1

theorem box_rec {w W : World} {p : Nat} {r : Rc} {ta : Option Addr} {tc : Nat} {da : Option Addr} {dc : Nat} (hp : p < w.heap.size) (h : KeptX p (w.alloc (.cells (recC r ta tc da dc) 34)) W) :
    w.heap.size < W.heap.size ∧ W.heap[w.heap.size]? = some (.cells (recC r ta tc da dc) 34) := by
  refine ⟨by have := h.size; simp at this; omega, ?_⟩
  exact h.keep _ _ (heap_alloc_new w _) (by omega) (notBytes _ _ _ (by decide))

theorem text_le (s : List UInt8) (h : s.length ≤ 100) : (textB (txt s)).length ≤ 102 := by
  rw [textB_length s (by omega)]
  omega

set_option maxHeartbeats 1000000 in
theorem layChange_x (B p : Nat) (v : Value) (l : List UInt8) (r : Rc) (ta : Option Addr) (tc : Nat) (da : Option Addr) (dc : Nat) (w : World) (hw : WOk w B p v l) (hl : l.length ≤ 10000) (hm : MayP r) (hk : r.kind = 1 ∨ r.kind = 2) :
    Calls Try.prog 91 #[.pointer (some ⟨p, 0, none⟩), recV r ta tc da dc] w fun e w' => e = .returned (.tuple #[]) ∧ (∃ v', WOk w' B p v' (l ++ chgE r)) ∧ Below B w w' ∧ KeptX p w w' := by
  have hp := lt_of_block hw.blk
  have hbase := hw.base
  obtain ⟨⟨c1, c2⟩, ⟨c3, c4⟩, c5, c6, c7⟩ := hm.chg hk
  have hB0 : Below B w (w.alloc (.cells (recC r ta tc da dc) 34)) := (Below.refl _ _).alloc (by omega) _
  have hK0 : KeptX p w (w.alloc (.cells (recC r ta tc da dc) 34)) := (KeptX.refl _ _).alloc _
  have hw0 := hw.below ((Below.refl _ _).alloc (Nat.le_refl _) (.cells (recC r ta tc da dc) 34)) (Nat.le_refl _)
  have HM : Hid (r.kind = 1 ∨ r.kind = 2) := hk
  clear hm hk hw
  have Hu : Hid ((textB (txt r.key)).length ≤ 102 ∧ (textB (txt r.old)).length ≤ 102 ∧ (textB (txt r.new)).length ≤ 102) := ⟨text_le _ (by omega), text_le _ (by omega), text_le _ (by omega)⟩
  have hsk : (txt r.key).size ≤ maxLen := by rw [txt_size]; unfold maxLen; omega
  have hso : (txt r.old).size ≤ maxLen := by rw [txt_size]; unfold maxLen; omega
  have hsn : (txt r.new).size ≤ maxLen := by rw [txt_size]; unfold maxLen; omega
  clear c5 c6 c7
  go_enter Try.func91, Try.ntmps91
  go_wp2_with fail
  refine (wtwo_x B p v l _ _ hw0 (by omega) (by omega) (by omega)).mono ?_
  rintro e w1 ⟨rfl, ⟨v1, hw1⟩, hb1, hk1⟩
  obtain ⟨hz, hbx⟩ := box_rec hp hk1
  obtain ⟨q0, q1, q2, q3, q4, q5, q6, q7, q8, q9, q10, q11⟩ := rec_cells hbx
  clear hbx hw0
  go_wp2_with fail
  refine (wbyte_x B p v1 _ _ _ hw1 (by omega) (by omega) (by simp [leB_length]; omega)).mono ?_
  rintro e w2 ⟨rfl, ⟨v2, hw2⟩, hb2, hk2⟩
  have hb12 := hb1.trans hb2
  have hk12 := hk1.trans hk2
  clear q0 q1 q2 q3 q4 q5 q6 q7 q8 q9 q10 q11 hz hw1 hb1 hk1 hb2 hk2
  obtain ⟨hz, hbx⟩ := box_rec hp hk12
  obtain ⟨q0, q1, q2, q3, q4, q5, q6, q7, q8, q9, q10, q11⟩ := rec_cells hbx
  clear hbx
  go_wp2_with fail
  refine (wtext_x B p v2 _ (txt r.key) _ hw2 hsk (by simp [leB_length]; omega)).mono ?_
  rintro e w3 ⟨rfl, ⟨v3, hw3⟩, hb3, hk3⟩
  have hb13 := hb12.trans hb3
  have hk13 := hk12.trans hk3
  clear q0 q1 q2 q3 q4 q5 q6 q7 q8 q9 q10 q11 hz hw2 hb12 hk12 hb3 hk3
  obtain ⟨hz, hbx⟩ := box_rec hp hk13
  obtain ⟨q0, q1, q2, q3, q4, q5, q6, q7, q8, q9, q10, q11⟩ := rec_cells hbx
  clear hbx
  go_wp2_with fail
  refine (wtext_x B p v3 _ (txt r.old) _ hw3 hso (by have := Hu.out; simp [leB_length]; omega)).mono ?_
  rintro e w4 ⟨rfl, ⟨v4, hw4⟩, hb4, hk4⟩
  have hb14 := hb13.trans hb4
  have hk14 := hk13.trans hk4
  clear q0 q1 q2 q3 q4 q5 q6 q7 q8 q9 q10 q11 hz hw3 hb13 hk13 hb4 hk4
  obtain ⟨hz, hbx⟩ := box_rec hp hk14
  obtain ⟨q0, q1, q2, q3, q4, q5, q6, q7, q8, q9, q10, q11⟩ := rec_cells hbx
  clear hbx
  go_wp2_with fail
  refine (wtext_x B p v4 _ (txt r.new) _ hw4 hsn (by have := Hu.out; simp [leB_length]; omega)).mono ?_
  rintro e w5 ⟨rfl, ⟨v5, hw5⟩, hb5, hk5⟩
  have hb15 := hb14.trans hb5
  have hk15 := hk14.trans hk5
  clear q0 q1 q2 q3 q4 q5 q6 q7 q8 q9 q10 q11 hz hw4 hb14 hk14 hb5 hk5
  obtain ⟨hz, hbx⟩ := box_rec hp hk15
  obtain ⟨q0, q1, q2, q3, q4, q5, q6, q7, q8, q9, q10, q11⟩ := rec_cells hbx
  clear hbx
  by_cases h2 : r.kind = 2
  · have hE : Hid (undoE r = leB r.undo 8) := by show _ = _; unfold undoE; rw [if_pos h2]
    have h2' : (r.kind == 2) = true := by simp [h2]
    clear h2
    go_wp2_with fail
    refine (weight_x B p v5 _ _ _ hw5 (by omega) (by have := Hu.out; simp [leB_length]; omega)).mono ?_
    rintro e w6 ⟨rfl, ⟨v6, hw6⟩, hb6, hk6⟩
    go_wp2
    go_end0
    refine ⟨rfl, ⟨v6, ?_⟩, hB0.trans (hb15.trans hb6), hK0.trans (hk15.trans hk6)⟩
    unfold chgE
    rw [hE.out]
    simpa [List.append_assoc] using hw6
  · have hE : Hid (undoE r = []) := by show _ = _; unfold undoE; rw [if_neg h2]
    have h2' : (r.kind == 2) = false := by simp [h2]
    clear h2
    go_wp2
    go_end0
    refine ⟨rfl, ⟨v5, ?_⟩, hB0.trans hb15, hK0.trans hk15⟩
    unfold chgE
    rw [hE.out]
    simpa [List.append_assoc] using hw5

end Go.Proofs.Yticadfaclnimgaa
