/-
  The walks of mustBe and Check.
-/
import Derived.Test.YticnkppnpfgceaaMh
import Derived.Defers
import Derived.Recover
namespace Go.Proofs.Yticnkppnpfgceaa
open Go.RowKit

theorem below_on {w W W' : World} (h : Below w.heap.size w W) (h' : Below W.heap.size W W') : Below w.heap.size w W' := h.trans (h'.mono h.size)

set_option maxHeartbeats 1000000 in
theorem mustBe_any (r : Rc) (ta : Option Addr) (tc : Nat) (da : Option Addr) (dc : Nat) (w : World) (ht : SlT w ta r.txns) (hd : SlD w da r.dirty) (hlt : r.txns.length ≤ maxLen) (hld : r.dirty.length ≤ maxLen) :
    Calls Try.prog 51 #[recV r ta tc da dc] w fun e w' => e = endM (mayB r) ∧ Below w.heap.size w w' := by
  have HB : Hid (Below w.heap.size w (w.alloc (.cells (recC r ta tc da dc) 50))) := (Below.refl _ _).alloc (Nat.le_refl _) _
  have HT : Hid (SlT w ta r.txns) := ht
  have HD : Hid (SlD w da r.dirty) := hd
  clear ht hd
  rw [mayB_eq]
  obtain ⟨g1, hg1⟩ := letter (decide (0 < r.kind))
  obtain ⟨g3, hg3⟩ := letter (decide (r.prev < r.lsn))
  obtain ⟨g4, hg4⟩ := letter ((r.undo : Int) == 0)
  rw [hg1, hg3, hg4]
  cases g1
  · go_enter Try.func51, Try.ntmps51
    go_wp2_with fail
    refine (must_no _).mono ?_
    rintro e w' ⟨rfl, rfl⟩
    go_wp2
    exact ⟨rfl, rfl, HB.out⟩
  cases g4
  all_goals
    go_enter Try.func51, Try.ntmps51
    go_wp2_with fail
    refine parts (must_any _ _) (fun hb1 w' hw => ?_) (fun hb1 w' hw => ?_)
    · subst hw
      go_wp2
      exact ⟨rfl, by rw [hb1.out]; rfl, HB.out⟩
    subst hw
    go_wp2_with fail
    refine parts (lsn_any _ _) (fun hb2 w' hw => ?_) (fun hb2 w' hw => ?_)
    · subst hw
      go_wp2
      exact ⟨rfl, by rw [hb1.out, hb2.out]; rfl, HB.out⟩
    subst hw
    cases g3
    · go_wp2_with fail
      refine (must_no _).mono ?_
      rintro e w' ⟨rfl, rfl⟩
      go_wp2
      exact ⟨rfl, by rw [hb1.out, hb2.out]; rfl, HB.out⟩
    go_wp2_with fail
    refine parts (must_any _ _) (fun hb3 w' hw => ?_) (fun hb3 w' hw => ?_)
    · subst hw
      go_wp2
      exact ⟨rfl, by rw [hb1.out, hb2.out, hb3.out]; rfl, HB.out⟩
    subst hw
    go_wp2_with fail
    refine parts (must_any _ _) (fun hb4 w' hw => ?_) (fun hb4 w' hw => ?_)
    · first
      | exact absurd hb4.out (by decide)
      | (subst hw; go_wp2; exact ⟨rfl, by rw [hb1.out, hb2.out, hb3.out, hb4.out]; rfl, HB.out⟩)
    subst hw
    clear hg1 hg3 hg4
    go_wp2_with fail
    refine parts (htxn_any r ta tc da dc _) (fun hb5 w1 hw1 => ?_) (fun hb5 w1 hw1 => ?_)
    · have hb0 := below_on HB.out hw1
      go_wp2
      exact ⟨rfl, by simp [hb1.out, hb2.out, hb3.out, hb4.out, hb5.out, endM], hb0⟩
    obtain ⟨q0, q1, q2, q3, q4, q5, q6, q7, q8, q9, q10, q11⟩ := rec_cells (box_kept hw1)
    have hz1 : w.heap.size < w1.heap.size := by have := hw1.size; simp at this; omega
    have HK1 : Hid (w1.heap[w.heap.size]? = some (.cells (recC r ta tc da dc) 50)) := box_kept hw1
    have HB1 : Hid (Below w.heap.size w w1) := below_on HB.out hw1
    clear hw1
    go_wp2_with fail
    refine parts (hchg_any r ta tc da dc _) (fun hb6 w2 hw2 => ?_) (fun hb6 w2 hw2 => ?_)
    · have hb0 := below_on HB1.out hw2
      go_wp2
      exact ⟨rfl, by simp [hb1.out, hb2.out, hb3.out, hb4.out, hb5.out, hb6.out, endM], hb0⟩
    have hk2 : w2.heap[w.heap.size]? = some (.cells (recC r ta tc da dc) 50) := by rw [hw2.block _ hz1]; exact HK1.out
    clear q0 q1 q2 q3 q4 q5 q6 q7 q8 q9 q10 q11
    obtain ⟨q0, q1, q2, q3, q4, q5, q6, q7, q8, q9, q10, q11⟩ := rec_cells hk2
    have hz2 : w.heap.size < w2.heap.size := by have := hw2.size; omega
    have HB2 : Hid (Below w.heap.size w w2) := below_on HB1.out hw2
    clear hw2 hk2 hz1
    have HX := (show Hid _ from htab_any r ta tc da dc w2 (HT.out.below HB2.out) (HD.out.below HB2.out) hlt hld)
    go_wp2_with fail
    refine parts HX.out (fun hb7 w3 hw3 => ?_) (fun hb7 w3 hw3 => ?_)
    · have hb0 := below_on HB2.out hw3
      go_wp2
      exact ⟨rfl, by simp [hb1.out, hb2.out, hb3.out, hb4.out, hb5.out, hb6.out, hb7.out, endM], hb0⟩
    · have hb0 := below_on HB2.out hw3
      go_wp2
      go_end0
      exact ⟨by simp [hb1.out, hb2.out, hb3.out, hb4.out, hb5.out, hb6.out, hb7.out, endM], hb0⟩

theorem catch_panicking (p : Addr) (x : Int) (older : List PanicEntry) (w : World) (hc : w.cell? p = some (.int .i64 x)) (hz : w.frozen? p = false) :
    CallsD Try.prog 50 #[.pointer (some p)] (.panicking (noRec :: older)) w fun e u' w' =>
      e = .returned (.tuple #[]) ∧ u' = .panicking ({ noRec with recovered := true } :: older) ∧ w' = w.setCell p (.int .i64 1) := by
  refine callsD_of_wpS Try.func50 rfl fun c₀ cs hu => ?_
  apply wpS_seq
  apply wpS_region
  simp [wpOpsS, go_sem, recoverD, hu, Try.ntmps50, Exit.thenS, noRec]
  refine wpS_cond (t := true) (by simp [Act.eval, Array.replicate]) ?_
  simp only [if_true]
  apply wpS_region
  simp [wpOpsS, go_sem, hc, hz, bodyPostS, results, Try.results50]

theorem catch_idle (p : Addr) (w : World) :
    CallsD Try.prog 50 #[.pointer (some p)] .returning w fun e u' w' => e = .returned (.tuple #[]) ∧ u' = .returning ∧ w' = w := by
  refine callsD_of_wpS Try.func50 rfl fun c₀ cs hu => ?_
  apply wpS_seq
  apply wpS_region
  simp [wpOpsS, go_sem, recoverD, hu, Try.ntmps50, Exit.thenS]
  refine wpS_cond (t := false) (by simp [Act.eval, Array.replicate]) ?_
  simp only [Bool.false_eq_true, if_false]
  refine wpS_of_wp (wp_skip ?_)
  cases c₀
  simp_all [bodyPostS, results, Try.results50]

/-- The error of a record that may not be. -/
def argE (b : Bool) : Int := if b then 0 else 1

theorem check_any (r : Rc) (ta : Option Addr) (tc : Nat) (da : Option Addr) (dc : Nat) (w : World) (ht : SlT w ta r.txns) (hd : SlD w da r.dirty) (hlt : r.txns.length ≤ maxLen) (hld : r.dirty.length ≤ maxLen) :
    Calls Try.prog 36 #[recV r ta tc da dc] w fun e w' => e = .returned (.int .i64 (argE (mayB r))) ∧ Below w.heap.size w w' := by
  have hmf : ∀ (fn : Fn) (first cap : Array Value) (w : World), (Instr.makeFunc fn first cap).run Try.prog w = .ok (.func fn first cap) w := fun _ _ _ _ => rfl
  have HB : Hid (Below w.heap.size w ((w.alloc (.cells (recC r ta tc da dc) 50)).alloc (.cells #[.int .i64 0] 33))) := ((Below.refl _ _).alloc (Nat.le_refl _) _).alloc (by simp) _
  have HX := (show Hid _ from mustBe_any r ta tc da dc _ (ht.below HB.out) (hd.below HB.out) hlt hld)
  clear ht hd
  go_enter_defers Try.func36, Try.ntmps36
  go_wp2_with fail
  refine parts HX.out (fun hb w1 hw1 => ?_) (fun hb w1 hw1 => ?_)
  · have hbl : w1.heap[w.heap.size + 1]? = some (.cells #[.int .i64 0] 33) := by
      rw [hw1.block _ (by simp)]
      have := heap_alloc_new (w.alloc (.cells (recC r ta tc da dc) 50)) (.cells #[.int .i64 0] 33)
      simpa using this
    have hc := cell_of_one hbl
    have hf := free_of_one hbl
    have hB1 := below_on HB.out hw1
    go_wp2
    refine leaves_cons (f := 50) (args := #[.pointer (some ⟨w.heap.size + 1, 0, none⟩)]) (by simp) (by simp [go_sem]) ?_
    refine (catch_panicking ⟨w.heap.size + 1, 0, none⟩ 0 [] _ hc hf).mono ?_
    rintro e u' w'' ⟨rfl, rfl, rfl⟩
    rw [hb.out]
    simp [Leaves, settle, results, Try.results36, go_sem, argE, hc]
    exact hB1.setCell (by simp) _
  · have hbl : w1.heap[w.heap.size + 1]? = some (.cells #[.int .i64 0] 33) := by
      rw [hw1.block _ (by simp)]
      have := heap_alloc_new (w.alloc (.cells (recC r ta tc da dc) 50)) (.cells #[.int .i64 0] 33)
      simpa using this
    have hc := cell_of_one hbl
    have hf := free_of_one hbl
    have hB1 := below_on HB.out hw1
    go_wp2
    refine leaves_cons (f := 50) (args := #[.pointer (some ⟨w.heap.size + 1, 0, none⟩)]) (by simp) (by simp [go_sem]) ?_
    refine (catch_idle ⟨w.heap.size + 1, 0, none⟩ _).mono ?_
    rintro e u' w'' ⟨rfl, rfl, rfl⟩
    rw [hb.out]
    simp [Leaves, settle, results, Try.results36, go_sem, argE, hc]
    exact hB1.setCell (by simp) _

end Go.Proofs.Yticnkppnpfgceaa
