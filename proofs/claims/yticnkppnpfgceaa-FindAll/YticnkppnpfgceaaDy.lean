/-
  The document's May.
-/
import Derived.Test.YticnkppnpfgceaaDr
namespace Go.Proofs.Yticnkppnpfgceaa
open Go.RowKit

theorem may_kind (r : Rc) (h : ¬ (1 ≤ r.kind ∧ r.kind ≤ 8)) : mayB r = false := by
  unfold mayB
  rw [show decide (0 < r.kind ∧ r.kind < 9) = false from decide_eq_false (by omega)]
  rfl
theorem may_lsn (r : Rc) (h : lsnB r.lsn = false) : mayB r = false := by
  unfold mayB
  rw [h]
  simp
theorem may_pu (r : Rc) (h : ¬ (r.prev < r.lsn ∧ r.undo < r.lsn)) : mayB r = false := by
  unfold mayB
  rw [decide_eq_false h]
  simp
theorem may_undo (r : Rc) (h : decide (r.undo = 0 ∨ r.kind = 2) = false) : mayB r = false := by
  unfold mayB
  rw [h]
  simp
theorem may_txn (r : Rc) (h : mTxn r = false) : mayB r = false := by
  unfold mayB
  rw [h]
  simp
theorem may_chg (r : Rc) (h : mChg r = false) : mayB r = false := by
  unfold mayB
  rw [h]
  simp
theorem may_tab (r : Rc) (h : mTab r = false) : mayB r = false := by
  unfold mayB
  rw [h]
  simp
theorem may_but (r : Rc) (h0 : 1 ≤ r.kind ∧ r.kind ≤ 8) (h1 : lsnB r.lsn = true) (h2 : r.prev < r.lsn ∧ r.undo < r.lsn) (h3 : decide (r.undo = 0 ∨ r.kind = 2) = true) (h4 : mTxn r = true) (h5 : mChg r = true) : mayB r = mTab r := by
  unfold mayB
  rw [h1, h3, h4, h5, decide_eq_true h2, show decide (0 < r.kind ∧ r.kind < 9) = true from decide_eq_true (by omega)]
  rfl
theorem may_all (r : Rc) (h0 : 1 ≤ r.kind ∧ r.kind ≤ 8) (h1 : lsnB r.lsn = true) (h2 : r.prev < r.lsn ∧ r.undo < r.lsn) (h3 : decide (r.undo = 0 ∨ r.kind = 2) = true) (h4 : mTxn r = true) (h5 : mChg r = true) (h6 : mTab r = true) : mayB r = true := by
  rw [may_but r h0 h1 h2 h3 h4 h5, h6]

set_option maxRecDepth 20000 in
set_option maxHeartbeats 4000000 in
theorem refmay_any (r : Rc) (ta : Option Addr) (tc : Nat) (da : Option Addr) (dc : Nat) (w : World) (h : RI w r ta da) (hsm : r.txns.length + r.dirty.length ≤ 1000000) :
    Calls Try.prog 49 #[recV r ta tc da dc] w fun e w' => e = .returned (.bool (mayB r)) ∧ Below w.heap.size w w' := by
  have HB0 : Hid (Below w.heap.size w (w.alloc (.cells (recC r ta tc da dc) 50))) := (Below.refl _ _).alloc (Nat.le_refl _) _
  have HRI := (show Hid _ from h)
  clear h
  by_cases g0 : 1 ≤ r.kind
  rotate_left
  · have HE : Hid (mayB r = false) := may_kind r (by omega)
    go_enter Try.func49, Try.ntmps49
    go_wp2
    go_ret
    exact ⟨by rw [HE.out]; rfl, HB0.out⟩
  by_cases g1 : r.kind ≤ 8
  rotate_left
  · have HE : Hid (mayB r = false) := may_kind r (by omega)
    go_enter Try.func49, Try.ntmps49
    go_wp2
    go_ret
    exact ⟨by rw [HE.out]; rfl, HB0.out⟩
  go_enter Try.func49, Try.ntmps49
  go_wp2_with fail
  refine Calls.mono (refnumbered_any _ _) ?_
  rintro e w1 ⟨rfl, hw1⟩
  obtain rfl := hw1.symm
  cases hls : lsnB r.lsn
  · have HE : Hid (mayB r = false) := may_lsn r hls
    clear hls
    go_wp2
    go_ret
    exact ⟨by rw [HE.out]; rfl, HB0.out⟩
  have HLS := (show Hid _ from hls)
  clear hls
  by_cases g3 : r.prev < r.lsn
  rotate_left
  · have g3' : decide ((r.lsn : Int) ≤ (r.prev : Int)) = true := by simp; omega
    have HE : Hid (mayB r = false) := may_pu r (by omega)
    go_wp2
    go_ret
    exact ⟨by rw [HE.out]; rfl, HB0.out⟩
  have g3' : decide ((r.lsn : Int) ≤ (r.prev : Int)) = false := by simp; omega
  by_cases g4 : r.undo < r.lsn
  rotate_left
  · have g4' : decide ((r.lsn : Int) ≤ (r.undo : Int)) = true := by simp; omega
    have HE : Hid (mayB r = false) := may_pu r (by omega)
    go_wp2
    go_ret
    exact ⟨by rw [HE.out]; rfl, HB0.out⟩
  have g4' : decide ((r.lsn : Int) ≤ (r.undo : Int)) = false := by simp; omega
  go_wp2_with fail
  refine Calls.mono (refchg_any _ _) ?_
  rintro e w2 ⟨rfl, hw2⟩
  obtain rfl := hw2.symm
  cases hcg : chgB r.kind
  · have hk12 : ¬ (r.kind = 1 ∨ r.kind = 2) := by simpa [chgB] using hcg
    have m2 : (r.kind != 2) = true := by simp; omega
    have b2 : (r.kind == 2) = false := by simp; omega
    have HK2 : Hid (¬ r.kind = 2) := by show ¬ _; omega
    have HMC0 : Hid (mChg r = decide (r.page = 0 ∧ (r.ak = 0 ∧ r.key = [] ∧ r.old = [] ∧ r.new = []))) := by show _ = _; unfold mChg; rw [if_neg (by rw [hcg]; simp)]
    have hact := act_zero r.ak r.key r.old r.new
    clear hcg hk12
    by_cases p1 : r.page = 0
    rotate_left
    · have f1 : (r.page != 0) = true := by simp [p1]
      have HE : Hid (mayB r = false) := by show _ = _; exact may_chg r (by rw [HMC0.out]; exact decide_eq_false (fun h => p1 h.1))
      clear p1
      go_wp2
      go_ret
      exact ⟨by rw [HE.out]; rfl, HB0.out⟩
    have fp : (r.page != 0) = false := by simp [p1]
    have HMC1 : Hid (mChg r = actZ r.ak r.key r.old r.new) := by show _ = _; rw [HMC0.out]; unfold actZ; simp [p1]
    clear p1
    have hge := Try.guard27
    cases haz : actZ r.ak r.key r.old r.new
    · rw [haz] at hact
      have HE : Hid (mayB r = false) := by show _ = _; exact may_chg r (by rw [HMC1.out, haz])
      clear haz
      go_wp2
      go_ret
      exact ⟨by rw [HE.out]; rfl, HB0.out⟩
    rw [haz] at hact
    have HMC : Hid (mChg r = true) := by show _ = _; rw [HMC1.out, haz]
    clear haz
    by_cases u0 : r.undo = 0
    rotate_left
    · have u1 : (r.undo != 0) = true := by simp [u0]
      have u1' : ((r.undo : Int) != 0) = true := by simp [u0]
      have HE : Hid (mayB r = false) := by show _ = _; exact may_undo r (decide_eq_false (fun h => h.elim u0 HK2.out))
      clear u0
      go_wp2
      go_ret
      exact ⟨by rw [HE.out]; rfl, HB0.out⟩
    have u1 : (r.undo != 0) = false := by simp [u0]
    have u1' : ((r.undo : Int) != 0) = false := by simp [u0]
    have HUK : Hid (decide (r.undo = 0 ∨ r.kind = 2) = true) := decide_eq_true (.inl u0)
    clear u0
    by_cases k7 : r.kind = 7
    · have b7 : (r.kind == 7) = true := by simp [k7]
      have m8 : (r.kind != 8) = true := by simp [k7]
      have b8 : (r.kind == 8) = false := by simp [k7]
      have HK8 : Hid (¬ r.kind = 8) := by show ¬ _; omega
      have HKK : Hid (r.kind = 7) := k7
      clear k7
      have htk : r.kind = 7 ∨ r.kind = 8 := .inl HKK.out
      by_cases t1 : r.txn = 0
      rotate_left
      · have f1 : (r.txn != 0) = true := by simp [t1]
        have HE : Hid (mayB r = false) := by show _ = _; exact may_txn r (by unfold mTxn; rw [if_pos htk]; exact decide_eq_false (by omega))
        clear htk t1
        go_wp2
        go_ret
        exact ⟨by rw [HE.out]; rfl, HB0.out⟩
      have f1 : (r.txn != 0) = false := by simp [t1]
      by_cases t2 : r.prev = 0
      rotate_left
      · have f2 : (r.prev != 0) = true := by simp [t2]
        have f2' : ((r.prev : Int) != 0) = true := by simp [t2]
        have HE : Hid (mayB r = false) := by show _ = _; exact may_txn r (by unfold mTxn; rw [if_pos htk]; exact decide_eq_false (by omega))
        clear htk t1 t2
        go_wp2
        go_ret
        exact ⟨by rw [HE.out]; rfl, HB0.out⟩
      have f2 : (r.prev != 0) = false := by simp [t2]
      have f2' : ((r.prev : Int) != 0) = false := by simp [t2]
      have HMT : Hid (mTxn r = true) := by show _ = _; unfold mTxn; rw [if_pos htk]; exact decide_eq_true ⟨t1, t2⟩
      clear htk t1 t2
      by_cases hz : r.txns.length = 0 ∧ r.dirty.length = 0
      rotate_left
      · have hzs : decide (0 < (r.txns.length : Int) + (r.dirty.length : Int)) = true := by simp; omega
        have HE : Hid (mayB r = false) := by show _ = _; exact may_tab r (by unfold mTab; rw [if_neg HK8.out]; exact decide_eq_false hz)
        go_wp2
        go_ret
        exact ⟨by rw [HE.out]; rfl, HB0.out⟩
      have hzs : decide (0 < (r.txns.length : Int) + (r.dirty.length : Int)) = false := by simp; omega
      have HR0 : Hid ((txnsB r.txns && dirtyB r.dirty) = true) := by show _ = _; rw [List.eq_nil_of_length_eq_zero hz.1, List.eq_nil_of_length_eq_zero hz.2]; rfl
      have HE : Hid (mayB r = true) := by show _ = _; exact may_all r ⟨g0, g1⟩ HLS.out ⟨g3, g4⟩ HUK.out HMT.out HMC.out (by unfold mTab; rw [if_neg HK8.out]; exact decide_eq_true hz)
      clear hz
      go_wp2_with fail
      refine Calls.mono (refrows_any r ta tc da dc _ (HRI.out.below HB0.out)) ?_
      rintro e w9 ⟨rfl, hb9⟩
      have HB9 := (show Hid _ from below_on HB0.out hb9)
      clear hb9
      go_wp2
      go_ret
      exact ⟨by rw [HE.out]; rw [HR0.out]; rfl, HB9.out⟩
    · have b7 : (r.kind == 7) = false := by simp [k7]
      have HK7 : Hid (¬ r.kind = 7) := k7
      clear k7
      by_cases k8 : r.kind = 8
      · have b8 : (r.kind == 8) = true := by simp [k8]
        have m8 : (r.kind != 8) = false := by simp [k8]
        have HK8 : Hid (r.kind = 8) := k8
        clear k8
        have htk : r.kind = 7 ∨ r.kind = 8 := .inr HK8.out
        by_cases t1 : r.txn = 0
        rotate_left
        · have f1 : (r.txn != 0) = true := by simp [t1]
          have HE : Hid (mayB r = false) := by show _ = _; exact may_txn r (by unfold mTxn; rw [if_pos htk]; exact decide_eq_false (by omega))
          clear htk t1
          go_wp2
          go_ret
          exact ⟨by rw [HE.out]; rfl, HB0.out⟩
        have f1 : (r.txn != 0) = false := by simp [t1]
        by_cases t2 : r.prev = 0
        rotate_left
        · have f2 : (r.prev != 0) = true := by simp [t2]
          have f2' : ((r.prev : Int) != 0) = true := by simp [t2]
          have HE : Hid (mayB r = false) := by show _ = _; exact may_txn r (by unfold mTxn; rw [if_pos htk]; exact decide_eq_false (by omega))
          clear htk t1 t2
          go_wp2
          go_ret
          exact ⟨by rw [HE.out]; rfl, HB0.out⟩
        have f2 : (r.prev != 0) = false := by simp [t2]
        have f2' : ((r.prev : Int) != 0) = false := by simp [t2]
        have HMT : Hid (mTxn r = true) := by show _ = _; unfold mTxn; rw [if_pos htk]; exact decide_eq_true ⟨t1, t2⟩
        clear htk t1 t2
        have HE : Hid (mayB r = (txnsB r.txns && dirtyB r.dirty)) := by
          show _ = _
          rw [may_but r ⟨g0, g1⟩ HLS.out ⟨g3, g4⟩ HUK.out HMT.out HMC.out]
          unfold mTab
          rw [if_pos HK8.out]
        go_wp2_with fail
        refine Calls.mono (refrows_any r ta tc da dc _ (HRI.out.below HB0.out)) ?_
        rintro e w9 ⟨rfl, hb9⟩
        have HB9 := (show Hid _ from below_on HB0.out hb9)
        clear hb9
        go_wp2
        go_ret
        exact ⟨by rw [HE.out]; rfl, HB9.out⟩
      · have b8 : (r.kind == 8) = false := by simp [k8]
        have m8 : (r.kind != 8) = true := by simp [k8]
        have HK8 : Hid (¬ r.kind = 8) := k8
        clear k8
        have htn : ¬ (r.kind = 7 ∨ r.kind = 8) := fun h => h.elim HK7.out HK8.out
        by_cases t1 : 1 ≤ r.txn
        rotate_left
        · have HTN := (show Hid _ from htn)
          have HE : Hid (mayB r = false) := by show _ = _; exact may_txn r (by unfold mTxn; rw [if_neg htn]; exact decide_eq_false (by omega))
          go_wp2
          go_ret
          exact ⟨by rw [HE.out]; rfl, HB0.out⟩
        by_cases t2 : r.txn ≤ 1073741824
        rotate_left
        · have HE : Hid (mayB r = false) := by show _ = _; exact may_txn r (by unfold mTxn; rw [if_neg htn]; exact decide_eq_false (by omega))
          go_wp2
          go_ret
          exact ⟨by rw [HE.out]; rfl, HB0.out⟩
        have HMT : Hid (mTxn r = true) := by show _ = _; unfold mTxn; rw [if_neg htn]; exact decide_eq_true ⟨t1, t2⟩
        clear htn
        by_cases hz : r.txns.length = 0 ∧ r.dirty.length = 0
        rotate_left
        · have hzs : decide (0 < (r.txns.length : Int) + (r.dirty.length : Int)) = true := by simp; omega
          have HE : Hid (mayB r = false) := by show _ = _; exact may_tab r (by unfold mTab; rw [if_neg HK8.out]; exact decide_eq_false hz)
          go_wp2
          go_ret
          exact ⟨by rw [HE.out]; rfl, HB0.out⟩
        have hzs : decide (0 < (r.txns.length : Int) + (r.dirty.length : Int)) = false := by simp; omega
        have HR0 : Hid ((txnsB r.txns && dirtyB r.dirty) = true) := by show _ = _; rw [List.eq_nil_of_length_eq_zero hz.1, List.eq_nil_of_length_eq_zero hz.2]; rfl
        have HE : Hid (mayB r = true) := by show _ = _; exact may_all r ⟨g0, g1⟩ HLS.out ⟨g3, g4⟩ HUK.out HMT.out HMC.out (by unfold mTab; rw [if_neg HK8.out]; exact decide_eq_true hz)
        clear hz
        go_wp2_with fail
        refine Calls.mono (refrows_any r ta tc da dc _ (HRI.out.below HB0.out)) ?_
        rintro e w9 ⟨rfl, hb9⟩
        have HB9 := (show Hid _ from below_on HB0.out hb9)
        clear hb9
        go_wp2
        go_ret
        exact ⟨by rw [HE.out]; rw [HR0.out]; rfl, HB9.out⟩

  · have hk12 : r.kind = 1 ∨ r.kind = 2 := by simpa [chgB] using hcg
    have HK7 : Hid (¬ r.kind = 7) := by show ¬ _; omega
    have HK8 : Hid (¬ r.kind = 8) := by show ¬ _; omega
    have b7 : (r.kind == 7) = false := by simp; omega
    have b8 : (r.kind == 8) = false := by simp; omega
    have m8 : (r.kind != 8) = true := by simp; omega
    have HCG := (show Hid _ from hcg)
    have HMC0 : Hid (mChg r = (pageB r.page && actB r.ak r.key r.old r.new)) := by show _ = _; unfold mChg; rw [if_pos hcg]
    clear hcg
    by_cases p1 : 0 ≤ r.page
    rotate_left
    · have HE : Hid (mayB r = false) := by show _ = _; exact may_chg r (by rw [HMC0.out]; rw [show pageB r.page = false from decide_eq_false (by omega)]; rfl)
      go_wp2
      go_ret
      exact ⟨by rw [HE.out]; rfl, HB0.out⟩
    by_cases p2 : r.page ≤ 15
    rotate_left
    · have HE : Hid (mayB r = false) := by show _ = _; exact may_chg r (by rw [HMC0.out]; rw [show pageB r.page = false from decide_eq_false (by omega)]; rfl)
      go_wp2
      go_ret
      exact ⟨by rw [HE.out]; rfl, HB0.out⟩
    have HMC1 : Hid (mChg r = actB r.ak r.key r.old r.new) := by show _ = _; rw [HMC0.out, show pageB r.page = true from decide_eq_true (by omega)]; rfl
    have HK12 := (show Hid _ from hk12)
    clear hk12
    go_wp2_with fail
    refine Calls.mono (actmay_any r.ak r.key r.old r.new _) ?_
    rintro e w5 ⟨rfl, hb5⟩
    have HB5 := (show Hid _ from below_on HB0.out hb5)
    obtain ⟨⟨x0, x1, x2, x3, x4, x5, x6, x7, x8, x9, x10, x11⟩, _⟩ := rw_cells' (box_kept hb5)
    have hza := lt_of_block (box_kept hb5)
    clear hb5
    cases hab : actB r.ak r.key r.old r.new
    · have HE : Hid (mayB r = false) := by show _ = _; exact may_chg r (by rw [HMC1.out, hab])
      clear hab
      go_wp2
      go_ret
      exact ⟨by rw [HE.out]; rfl, HB5.out⟩
    have HMC : Hid (mChg r = true) := by show _ = _; rw [HMC1.out, hab]
    clear hab
    by_cases k2 : r.kind = 2
    · have b2 : (r.kind == 2) = true := by simp [k2]
      have m2 : (r.kind != 2) = false := by simp [k2]
      have HUK : Hid (decide (r.undo = 0 ∨ r.kind = 2) = true) := decide_eq_true (.inr k2)
      clear k2
      have htn : ¬ (r.kind = 7 ∨ r.kind = 8) := fun h => h.elim HK7.out HK8.out
      by_cases t1 : 1 ≤ r.txn
      rotate_left
      · have HTN := (show Hid _ from htn)
        have HE : Hid (mayB r = false) := by show _ = _; exact may_txn r (by unfold mTxn; rw [if_neg htn]; exact decide_eq_false (by omega))
        go_wp2
        go_ret
        exact ⟨by rw [HE.out]; rfl, HB5.out⟩
      by_cases t2 : r.txn ≤ 1073741824
      rotate_left
      · have HE : Hid (mayB r = false) := by show _ = _; exact may_txn r (by unfold mTxn; rw [if_neg htn]; exact decide_eq_false (by omega))
        go_wp2
        go_ret
        exact ⟨by rw [HE.out]; rfl, HB5.out⟩
      have HMT : Hid (mTxn r = true) := by show _ = _; unfold mTxn; rw [if_neg htn]; exact decide_eq_true ⟨t1, t2⟩
      clear htn
      by_cases hz : r.txns.length = 0 ∧ r.dirty.length = 0
      rotate_left
      · have hzs : decide (0 < (r.txns.length : Int) + (r.dirty.length : Int)) = true := by simp; omega
        have HE : Hid (mayB r = false) := by show _ = _; exact may_tab r (by unfold mTab; rw [if_neg HK8.out]; exact decide_eq_false hz)
        go_wp2
        go_ret
        exact ⟨by rw [HE.out]; rfl, HB5.out⟩
      have hzs : decide (0 < (r.txns.length : Int) + (r.dirty.length : Int)) = false := by simp; omega
      have HR0 : Hid ((txnsB r.txns && dirtyB r.dirty) = true) := by show _ = _; rw [List.eq_nil_of_length_eq_zero hz.1, List.eq_nil_of_length_eq_zero hz.2]; rfl
      have HE : Hid (mayB r = true) := by show _ = _; exact may_all r ⟨g0, g1⟩ HLS.out ⟨g3, g4⟩ HUK.out HMT.out HMC.out (by unfold mTab; rw [if_neg HK8.out]; exact decide_eq_true hz)
      clear hz
      go_wp2_with fail
      refine Calls.mono (refrows_any r ta tc da dc _ (HRI.out.below HB5.out)) ?_
      rintro e w9 ⟨rfl, hb9⟩
      have HB9 := (show Hid _ from below_on HB5.out hb9)
      clear hb9
      go_wp2
      go_ret
      exact ⟨by rw [HE.out]; rw [HR0.out]; rfl, HB9.out⟩
    · have b2 : (r.kind == 2) = false := by simp [k2]
      have m2 : (r.kind != 2) = true := by simp [k2]
      have HK2 : Hid (¬ r.kind = 2) := k2
      clear k2
      by_cases u0 : r.undo = 0
      rotate_left
      · have u1 : (r.undo != 0) = true := by simp [u0]
        have u1' : ((r.undo : Int) != 0) = true := by simp [u0]
        have HE : Hid (mayB r = false) := by show _ = _; exact may_undo r (decide_eq_false (fun h => h.elim u0 HK2.out))
        clear u0
        go_wp2
        go_ret
        exact ⟨by rw [HE.out]; rfl, HB5.out⟩
      have u1 : (r.undo != 0) = false := by simp [u0]
      have u1' : ((r.undo : Int) != 0) = false := by simp [u0]
      have HUK : Hid (decide (r.undo = 0 ∨ r.kind = 2) = true) := decide_eq_true (.inl u0)
      clear u0
      have htn : ¬ (r.kind = 7 ∨ r.kind = 8) := fun h => h.elim HK7.out HK8.out
      by_cases t1 : 1 ≤ r.txn
      rotate_left
      · have HTN := (show Hid _ from htn)
        have HE : Hid (mayB r = false) := by show _ = _; exact may_txn r (by unfold mTxn; rw [if_neg htn]; exact decide_eq_false (by omega))
        go_wp2
        go_ret
        exact ⟨by rw [HE.out]; rfl, HB5.out⟩
      by_cases t2 : r.txn ≤ 1073741824
      rotate_left
      · have HE : Hid (mayB r = false) := by show _ = _; exact may_txn r (by unfold mTxn; rw [if_neg htn]; exact decide_eq_false (by omega))
        go_wp2
        go_ret
        exact ⟨by rw [HE.out]; rfl, HB5.out⟩
      have HMT : Hid (mTxn r = true) := by show _ = _; unfold mTxn; rw [if_neg htn]; exact decide_eq_true ⟨t1, t2⟩
      clear htn
      by_cases hz : r.txns.length = 0 ∧ r.dirty.length = 0
      rotate_left
      · have hzs : decide (0 < (r.txns.length : Int) + (r.dirty.length : Int)) = true := by simp; omega
        have HE : Hid (mayB r = false) := by show _ = _; exact may_tab r (by unfold mTab; rw [if_neg HK8.out]; exact decide_eq_false hz)
        go_wp2
        go_ret
        exact ⟨by rw [HE.out]; rfl, HB5.out⟩
      have hzs : decide (0 < (r.txns.length : Int) + (r.dirty.length : Int)) = false := by simp; omega
      have HR0 : Hid ((txnsB r.txns && dirtyB r.dirty) = true) := by show _ = _; rw [List.eq_nil_of_length_eq_zero hz.1, List.eq_nil_of_length_eq_zero hz.2]; rfl
      have HE : Hid (mayB r = true) := by show _ = _; exact may_all r ⟨g0, g1⟩ HLS.out ⟨g3, g4⟩ HUK.out HMT.out HMC.out (by unfold mTab; rw [if_neg HK8.out]; exact decide_eq_true hz)
      clear hz
      go_wp2_with fail
      refine Calls.mono (refrows_any r ta tc da dc _ (HRI.out.below HB5.out)) ?_
      rintro e w9 ⟨rfl, hb9⟩
      have HB9 := (show Hid _ from below_on HB5.out hb9)
      clear hb9
      go_wp2
      go_ret
      exact ⟨by rw [HE.out]; rw [HR0.out]; rfl, HB9.out⟩

end Go.Proofs.Yticnkppnpfgceaa
