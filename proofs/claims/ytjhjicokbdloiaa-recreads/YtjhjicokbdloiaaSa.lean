/-
  The walks of Same.
-/
import Derived.Test.YtjhjicokbdloiaaSq
namespace Go.Proofs.Ytjhjicokbdloiaa
open Go.RowKit

theorem two_kept' {w w' : World} {A B : Obj} (hb : Below ((w.alloc A).alloc B).heap.size ((w.alloc A).alloc B) w') : w'.heap[w.heap.size]? = some A ∧ w'.heap[w.heap.size + 1]? = some B := by
  refine ⟨?_, ?_⟩
  · rw [hb.block _ (by simp; omega), Below.heap_alloc _ _ _ (by simp)]
    exact heap_alloc_new w A
  · rw [hb.block _ (by simp)]
    have := heap_alloc_new (w.alloc A) B
    simpa using this
theorem rw_cells' {w : World} {q : Nat} {v0 v1 v2 v3 v4 v5 v6 v7 v8 v9 v10 v11 : Value} (h : w.heap[q]? = some (.cells #[v0, v1, v2, v3, v4, v5, v6, v7, v8, v9, v10, v11] 31)) :
    (w.cell? ⟨q, 0, none⟩ = some v0 ∧ w.cell? ⟨q, 1, none⟩ = some v1 ∧ w.cell? ⟨q, 2, none⟩ = some v2 ∧ w.cell? ⟨q, 3, none⟩ = some v3 ∧ w.cell? ⟨q, 4, none⟩ = some v4 ∧ w.cell? ⟨q, 5, none⟩ = some v5 ∧
    w.cell? ⟨q, 6, none⟩ = some v6 ∧ w.cell? ⟨q, 7, none⟩ = some v7 ∧ w.cell? ⟨q, 8, none⟩ = some v8 ∧ w.cell? ⟨q, 9, none⟩ = some v9 ∧ w.cell? ⟨q, 10, none⟩ = some v10 ∧ w.cell? ⟨q, 11, none⟩ = some v11) ∧ (∀ i, w.frozen? ⟨q, i, none⟩ = false) := by
  refine ⟨by simp [World.cell?, h], fun i => by simp [World.frozen?, h]⟩

set_option maxHeartbeats 1000000 in
theorem same_any (a b : Rc) (ta : Option Addr) (tc : Nat) (da : Option Addr) (dc : Nat) (ta2 : Option Addr) (tc2 : Nat) (da2 : Option Addr) (dc2 : Nat) (w : World) (h1a : SlT w ta a.txns) (h2a : SlD w da a.dirty) (h3a : a.txns.length ≤ maxLen) (h4a : a.dirty.length ≤ maxLen) (h1b : SlT w ta2 b.txns) (h2b : SlD w da2 b.dirty) (h3b : b.txns.length ≤ maxLen) (h4b : b.dirty.length ≤ maxLen) :
    Calls Try.prog 23 #[recV a ta tc da dc, recV b ta2 tc2 da2 dc2] w fun e w' => e = .returned (.bool (decide (a = b))) ∧ Below w.heap.size w w' := by
  have HB : Hid (Below w.heap.size w ((w.alloc (.cells (recC a ta tc da dc) 31)).alloc (.cells (recC b ta2 tc2 da2 dc2) 31))) := ((Below.refl _ _).alloc (Nat.le_refl _) _).alloc (by simp) _
  have HT := (show Hid _ from equalT_any ta ta2 tc tc2 a.txns b.txns _ (h1a.below HB.out) (h1b.below HB.out) h3a h3b)
  have HD1 : Hid (∀ W, Below w.heap.size w W → Calls Try.prog 55 #[.slice da a.dirty.length dc, .slice da2 b.dirty.length dc2] W fun e w' => e = .returned (.bool (decide (a.dirty = b.dirty))) ∧ Below W.heap.size W w') := fun W hW => equalD_any da da2 dc dc2 a.dirty b.dirty W (h2a.below hW) (h2b.below hW) h4a h4b
  have hact := act_same a.ak b.ak a.key a.old a.new b.key b.old b.new
  have hgd := Try.guard27
  clear h1a h2a h3a h4a h1b h2b h3b h4b
  by_cases h0 : a.kind = b.kind
  rotate_left
  · have HQ : Hid (decide (a = b) = false) := by show _ = _; exact decide_eq_false (fun e => h0 (by rw [e]))
    have f0 : (a.kind == b.kind) = false := by simp [h0]
    have H0 := (show Hid _ from h0)
    clear h0
    clear hact HT HD1
    go_enter Try.func23, Try.ntmps23
    go_wp2
    go_ret
    exact ⟨by rw [HQ.out]; rfl, HB.out⟩
  have f0 : (a.kind == b.kind) = true := by simp [h0]
  have H0 := (show Hid _ from h0)
  clear h0
  by_cases h1 : a.lsn = b.lsn
  rotate_left
  · have HQ : Hid (decide (a = b) = false) := by show _ = _; exact decide_eq_false (fun e => h1 (by rw [e]))
    have f1 : (a.lsn == b.lsn) = false := by simp [h1]
    have g1 : ((a.lsn : Int) == (b.lsn : Int)) = false := by simp; omega
    have H1 := (show Hid _ from h1)
    clear h1
    clear hact HT HD1
    go_enter Try.func23, Try.ntmps23
    go_wp2
    go_ret
    exact ⟨by rw [HQ.out]; rfl, HB.out⟩
  have f1 : (a.lsn == b.lsn) = true := by simp [h1]
  have g1 : ((a.lsn : Int) == (b.lsn : Int)) = true := by simp; omega
  have H1 := (show Hid _ from h1)
  clear h1
  by_cases h2 : a.txn = b.txn
  rotate_left
  · have HQ : Hid (decide (a = b) = false) := by show _ = _; exact decide_eq_false (fun e => h2 (by rw [e]))
    have f2 : (a.txn == b.txn) = false := by simp [h2]
    have H2 := (show Hid _ from h2)
    clear h2
    clear hact HT HD1
    go_enter Try.func23, Try.ntmps23
    go_wp2
    go_ret
    exact ⟨by rw [HQ.out]; rfl, HB.out⟩
  have f2 : (a.txn == b.txn) = true := by simp [h2]
  have H2 := (show Hid _ from h2)
  clear h2
  by_cases h3 : a.prev = b.prev
  rotate_left
  · have HQ : Hid (decide (a = b) = false) := by show _ = _; exact decide_eq_false (fun e => h3 (by rw [e]))
    have f3 : (a.prev == b.prev) = false := by simp [h3]
    have g3 : ((a.prev : Int) == (b.prev : Int)) = false := by simp; omega
    have H3 := (show Hid _ from h3)
    clear h3
    clear hact HT HD1
    go_enter Try.func23, Try.ntmps23
    go_wp2
    go_ret
    exact ⟨by rw [HQ.out]; rfl, HB.out⟩
  have f3 : (a.prev == b.prev) = true := by simp [h3]
  have g3 : ((a.prev : Int) == (b.prev : Int)) = true := by simp; omega
  have H3 := (show Hid _ from h3)
  clear h3
  by_cases h4 : a.undo = b.undo
  rotate_left
  · have HQ : Hid (decide (a = b) = false) := by show _ = _; exact decide_eq_false (fun e => h4 (by rw [e]))
    have f4 : (a.undo == b.undo) = false := by simp [h4]
    have g4 : ((a.undo : Int) == (b.undo : Int)) = false := by simp; omega
    have H4 := (show Hid _ from h4)
    clear h4
    clear hact HT HD1
    go_enter Try.func23, Try.ntmps23
    go_wp2
    go_ret
    exact ⟨by rw [HQ.out]; rfl, HB.out⟩
  have f4 : (a.undo == b.undo) = true := by simp [h4]
  have g4 : ((a.undo : Int) == (b.undo : Int)) = true := by simp; omega
  have H4 := (show Hid _ from h4)
  clear h4
  by_cases h5 : a.page = b.page
  rotate_left
  · have HQ : Hid (decide (a = b) = false) := by show _ = _; exact decide_eq_false (fun e => h5 (by rw [e]))
    have f5 : (a.page == b.page) = false := by simp [h5]
    have H5 := (show Hid _ from h5)
    clear h5
    clear hact HT HD1
    go_enter Try.func23, Try.ntmps23
    go_wp2
    go_ret
    exact ⟨by rw [HQ.out]; rfl, HB.out⟩
  have f5 : (a.page == b.page) = true := by simp [h5]
  have H5 := (show Hid _ from h5)
  clear h5
  by_cases h6 : a.ak = b.ak ∧ a.key = b.key ∧ a.old = b.old ∧ a.new = b.new
  rotate_left
  · have HQ : Hid (decide (a = b) = false) := by show _ = _; exact decide_eq_false (fun e => h6 (by rw [e]; exact ⟨rfl, rfl, rfl, rfl⟩))
    rw [decide_eq_false h6] at hact
    clear h6 HT HD1
    go_enter Try.func23, Try.ntmps23
    go_wp2
    go_ret
    exact ⟨by rw [HQ.out]; rfl, HB.out⟩
  rw [decide_eq_true h6] at hact
  have H6 := (show Hid _ from h6)
  clear h6
  have HQ : Hid (decide (a = b) = (decide (a.txns = b.txns) && decide (a.dirty = b.dirty))) := by
    show _ = _
    have e0 := H0.out
    have e1 := H1.out
    have e2 := H2.out
    have e3 := H3.out
    have e4 := H4.out
    have e5 := H5.out
    obtain ⟨e6, e7, e8, e9⟩ := H6.out
    rw [← Bool.decide_and, decide_eq_decide]
    constructor
    · intro e; rw [e]; exact ⟨rfl, rfl⟩
    · rintro ⟨x, y⟩
      cases a
      cases b
      simp_all
  cases hT : decide (a.txns = b.txns)
  · rw [hT] at HT HQ
    go_enter Try.func23, Try.ntmps23
    go_wp2_with fail
    refine Calls.mono HT.out ?_
    rintro e w1 ⟨rfl, hb1⟩
    have hB1 := below_on HB.out hb1
    clear hb1 HT HD1 hT
    go_wp2
    go_ret
    exact ⟨by rw [HQ.out]; rfl, hB1⟩
  · rw [hT] at HT HQ
    go_enter Try.func23, Try.ntmps23
    go_wp2_with fail
    refine Calls.mono HT.out ?_
    rintro e w1 ⟨rfl, hb1⟩
    have hB1 := below_on HB.out hb1
    have HB1 := (show Hid _ from hB1)
    obtain ⟨k1, k2⟩ := two_kept' hb1
    obtain ⟨q0, q1, q2, q3, q4, q5, q6, q7, q8, q9, q10, q11⟩ := rec_cells k1
    obtain ⟨⟨m0, m1, m2, m3, m4, m5, m6, m7, m8, m9, m10, m11⟩, _⟩ := rw_cells' k2
    have hz1 : w.heap.size + 1 < w1.heap.size := lt_of_block k2
    have hz0 : w.heap.size < w1.heap.size := by omega
    clear hb1 HT hT hB1
    go_wp2_with fail
    refine (HD1.out _ HB1.out).mono ?_
    rintro e w2 ⟨rfl, hb2⟩
    have hB2 := below_on HB1.out hb2
    clear hb2 HD1 q0 q1 q2 q3 q4 q5 q6 q7 q8 q9 q10 q11 m0 m1 m2 m3 m4 m5 m6 m7 m8 m9 m10 m11
    cases hD : decide (a.dirty = b.dirty)
    · rw [hD] at HQ
      go_wp2
      go_ret
      exact ⟨by rw [HQ.out]; rfl, hB2⟩
    · rw [hD] at HQ
      go_wp2
      go_ret
      exact ⟨by rw [HQ.out]; rfl, hB2⟩

end Go.Proofs.Ytjhjicokbdloiaa
