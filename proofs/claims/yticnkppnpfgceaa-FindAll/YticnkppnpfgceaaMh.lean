/-
  The walks of mustHaveTxn, mustHaveChange, mustHaveTables and mustBe.
-/
import Derived.Test.YticnkppnpfgceaaEq
namespace Go.Proofs.Yticnkppnpfgceaa
open Go.RowKit

theorem htxn_any (r : Rc) (ta : Option Addr) (tc : Nat) (da : Option Addr) (dc : Nat) (w : World) :
    Calls Try.prog 66 #[recV r ta tc da dc] w fun e w' => e = endM (mTxn r) ∧ Below w.heap.size w w' := by
  have HB : Hid (Below w.heap.size w (w.alloc (.cells (recC r ta tc da dc) 50))) := (Below.refl _ _).alloc (Nat.le_refl _) _
  by_cases h78 : r.kind = 7 ∨ r.kind = 8
  · have HM : Hid (mTxn r = (decide (r.txn = 0) && decide (r.prev = 0))) := by
      show _ = _
      unfold mTxn
      rw [if_pos h78, Bool.decide_and]
    obtain ⟨g1, hg1⟩ := letter (r.txn == 0)
    have HM2 : Hid (mTxn r = (g1 && ((r.prev : Int) == 0))) := by
      show _ = _
      rw [HM.out, ← hg1]
      congr 1
      by_cases h : r.prev = 0 <;> simp [h]
    clear HM
    have h7 : (r.kind == 7) = true ∨ ((r.kind == 7) = false ∧ (r.kind == 8) = true) := by
      rcases h78 with h | h <;> simp [h]
    clear h78
    rcases h7 with h7 | ⟨h7, h8⟩
    all_goals
      cases g1
      · go_enter Try.func66, Try.ntmps66
        go_wp2_with fail
        refine (must_no _).mono ?_
        rintro e w' ⟨rfl, rfl⟩
        go_wp2
        exact ⟨rfl, by rw [HM2.out]; rfl, HB.out⟩
      go_enter Try.func66, Try.ntmps66
      go_wp2_with fail
      refine parts (must_any _ _) (fun hb w' hw => ?_) (fun hb w' hw => ?_)
      · subst hw
        go_wp2
        exact ⟨rfl, by rw [HM2.out, hb.out]; rfl, HB.out⟩
      · subst hw
        go_wp2
        refine bodyPost_ret (results_none rfl _ _ _) rfl ?_
        exact ⟨by rw [HM2.out, hb.out]; rfl, HB.out⟩
  · have HM : Hid (mTxn r = idB r.txn) := by
      show _ = _
      unfold mTxn
      rw [if_neg h78]
    have h7 : (r.kind == 7) = false := by simp; omega
    have h8 : (r.kind == 8) = false := by simp; omega
    clear h78
    go_enter Try.func66, Try.ntmps66
    go_wp2_with fail
    refine parts (id_any _ _) (fun hb w' hw => ?_) (fun hb w' hw => ?_)
    · subst hw
      go_wp2
      exact ⟨rfl, by rw [HM.out, hb.out]; rfl, HB.out⟩
    · subst hw
      go_wp2
      go_end0
      exact ⟨by rw [HM.out, hb.out]; rfl, HB.out⟩

theorem hchg_any (r : Rc) (ta : Option Addr) (tc : Nat) (da : Option Addr) (dc : Nat) (w : World) :
    Calls Try.prog 67 #[recV r ta tc da dc] w fun e w' => e = endM (mChg r) ∧ Below w.heap.size w w' := by
  have HB : Hid (Below w.heap.size w (w.alloc (.cells (recC r ta tc da dc) 50))) := (Below.refl _ _).alloc (Nat.le_refl _) _
  have hca := haschg_any r.kind
  cases hc : chgB r.kind
  · rw [hc] at hca
    have HM : Hid (mChg r = ((r.page == 0) && actZ r.ak r.key r.old r.new)) := by
      show _ = _
      unfold mChg actZ
      rw [if_neg (by rw [hc]; decide), Bool.decide_and]
      congr 1
    obtain ⟨g1, hg1⟩ := letter (r.page == 0)
    rw [hg1] at HM
    have hz := act_zero r.ak r.key r.old r.new
    have hgd := Try.guard27
    obtain ⟨z, Hz⟩ : ∃ z, Hid (actZ r.ak r.key r.old r.new = z) := ⟨_, rfl⟩
    rw [Hz.out] at hz HM
    clear hc Hz
    cases g1
    · go_enter Try.func67, Try.ntmps67
      go_wp2_with fail
      refine (hca _).mono ?_
      rintro e w' ⟨rfl, rfl⟩
      go_wp2_with fail
      refine (must_no _).mono ?_
      rintro e w' ⟨rfl, rfl⟩
      go_wp2
      exact ⟨rfl, by rw [HM.out]; rfl, HB.out⟩
    go_enter Try.func67, Try.ntmps67
    go_wp2_with fail
    refine (hca _).mono ?_
    rintro e w' ⟨rfl, rfl⟩
    go_wp2_with fail
    refine parts (must_any _ _) (fun hb w' hw => ?_) (fun hb w' hw => ?_)
    · subst hw
      go_wp2
      exact ⟨rfl, by rw [HM.out, hb.out]; rfl, HB.out⟩
    · subst hw
      go_wp2
      refine bodyPost_ret (results_none rfl _ _ _) rfl ?_
      exact ⟨by rw [HM.out, hb.out]; rfl, HB.out⟩
  · rw [hc] at hca
    have HM : Hid (mChg r = (pageB r.page && actB r.ak r.key r.old r.new)) := by
      show _ = _
      unfold mChg
      rw [if_pos hc]
    clear hc
    go_enter Try.func67, Try.ntmps67
    go_wp2_with fail
    refine (hca _).mono ?_
    rintro e w' ⟨rfl, rfl⟩
    go_wp2_with fail
    refine parts (page_any _ _) (fun hb w' hw => ?_) (fun hb w' hw => ?_)
    · subst hw
      go_wp2
      exact ⟨rfl, by rw [HM.out, hb.out]; rfl, HB.out⟩
    subst hw
    go_wp2_with fail
    refine parts (act_any r.ak r.key r.old r.new _) (fun hb2 w' hw => ?_) (fun hb2 w' hw => ?_)
    · go_wp2
      exact ⟨rfl, by rw [HM.out, hb.out, hb2.out]; rfl, HB.out.trans (hw.mono (by simp))⟩
    · go_wp2
      go_end0
      exact ⟨by rw [HM.out, hb.out, hb2.out]; rfl, HB.out.trans (hw.mono (by simp))⟩

theorem htab_any (r : Rc) (ta : Option Addr) (tc : Nat) (da : Option Addr) (dc : Nat) (w : World) (ht : SlT w ta r.txns) (hd : SlD w da r.dirty) (hlt : r.txns.length ≤ maxLen) (hld : r.dirty.length ≤ maxLen) :
    Calls Try.prog 68 #[recV r ta tc da dc] w fun e w' => e = endM (mTab r) ∧ Below w.heap.size w w' := by
  have HB : Hid (Below w.heap.size w (w.alloc (.cells (recC r ta tc da dc) 50))) := (Below.refl _ _).alloc (Nat.le_refl _) _
  by_cases h8 : r.kind = 8
  · have HM : Hid (mTab r = (txnsB r.txns && dirtyB r.dirty)) := by
      show _ = _
      unfold mTab
      rw [if_pos h8]
    have h8' : (r.kind != 8) = false := by simp [h8]
    clear h8
    have ht1 := ht.below HB.out
    have H1 := (show Hid _ from txns_any ta tc r.txns _ ht1 hlt)
    have hd1 := hd.below HB.out
    clear ht hd ht1 hlt
    go_enter Try.func68, Try.ntmps68
    go_wp2_with fail
    refine parts H1.out (fun hb w' hw => ?_) (fun hb w' hw => ?_)
    · go_wp2
      exact ⟨rfl, by rw [HM.out, hb.out]; rfl, HB.out.trans (hw.mono (by simp))⟩
    have hd2 := hd1.below hw
    have hB2 : Below w.heap.size w w' := HB.out.trans (hw.mono (by simp))
    have hc : w'.cell? ⟨w.heap.size, 11, none⟩ = some (.slice da r.dirty.length dc) := by
      rw [hw.cell (by simp)]
      simp [go_sem]
    have H2 := (show Hid _ from dirty_any da dc r.dirty _ hd2 hld)
    clear hd1 hd2 hld hw
    go_wp2_with fail
    refine parts H2.out (fun hb2 w2 hw2 => ?_) (fun hb2 w2 hw2 => ?_)
    · go_wp2
      exact ⟨rfl, by rw [HM.out, hb.out, hb2.out]; rfl, hB2.trans (hw2.mono hB2.size)⟩
    · go_wp2
      go_end0
      exact ⟨by rw [HM.out, hb.out, hb2.out]; rfl, hB2.trans (hw2.mono hB2.size)⟩
  · obtain ⟨g1, hg1⟩ := letter ((r.txns.length : Int) == 0)
    have HM : Hid (mTab r = (g1 && ((r.dirty.length : Int) == 0))) := by
      show _ = _
      unfold mTab
      rw [if_neg h8, Bool.decide_and, ← hg1]
      congr 1
      · by_cases h : r.txns.length = 0 <;> simp [h]
      · by_cases h : r.dirty.length = 0 <;> simp [h]
    have h8' : (r.kind != 8) = true := by simp [h8]
    clear h8
    cases g1
    · go_enter Try.func68, Try.ntmps68
      go_wp2_with fail
      refine (must_no _).mono ?_
      rintro e w' ⟨rfl, rfl⟩
      go_wp2
      exact ⟨rfl, by rw [HM.out]; rfl, HB.out⟩
    go_enter Try.func68, Try.ntmps68
    go_wp2_with fail
    refine parts (must_any _ _) (fun hb w' hw => ?_) (fun hb w' hw => ?_)
    · subst hw
      go_wp2
      exact ⟨rfl, by rw [HM.out, hb.out]; rfl, HB.out⟩
    · subst hw
      go_wp2
      refine bodyPost_ret (results_none rfl _ _ _) rfl ?_
      exact ⟨by rw [HM.out, hb.out]; rfl, HB.out⟩

/-- The cells of a record that was boxed, behind whatever makes memory. -/
theorem rec_cells {w w' : World} {r : Rc} {ta : Option Addr} {tc : Nat} {da : Option Addr} {dc : Nat} (h : w'.heap[w.heap.size]? = some (.cells (recC r ta tc da dc) 50)) :
    w'.cell? ⟨w.heap.size, 0, none⟩ = some (.int .i64 r.kind) ∧ w'.cell? ⟨w.heap.size, 1, none⟩ = some (.int .u64 (r.lsn : Int)) ∧ w'.cell? ⟨w.heap.size, 2, none⟩ = some (.int .i64 r.txn) ∧ w'.cell? ⟨w.heap.size, 3, none⟩ = some (.int .u64 (r.prev : Int)) ∧
    w'.cell? ⟨w.heap.size, 4, none⟩ = some (.int .u64 (r.undo : Int)) ∧ w'.cell? ⟨w.heap.size, 5, none⟩ = some (.int .i64 r.page) ∧ w'.cell? ⟨w.heap.size, 6, none⟩ = some (.int .i64 r.ak) ∧ w'.cell? ⟨w.heap.size, 7, none⟩ = some (.string (txt r.key)) ∧
    w'.cell? ⟨w.heap.size, 8, none⟩ = some (.string (txt r.old)) ∧ w'.cell? ⟨w.heap.size, 9, none⟩ = some (.string (txt r.new)) ∧ w'.cell? ⟨w.heap.size, 10, none⟩ = some (.slice ta r.txns.length tc) ∧ w'.cell? ⟨w.heap.size, 11, none⟩ = some (.slice da r.dirty.length dc) := by
  simp [World.cell?, h]

theorem box_kept {w w' : World} {o : Obj} (hb : Below (w.alloc o).heap.size (w.alloc o) w') : w'.heap[w.heap.size]? = some o := by
  rw [hb.block _ (by simp)]
  exact heap_alloc_new w o

theorem mayB_eq (r : Rc) : mayB r = ((decide (0 < r.kind) && decide (r.kind < 9)) && (lsnB r.lsn && ((decide (r.prev < r.lsn) && decide (r.undo < r.lsn)) && ((((r.undo : Int) == 0) || (r.kind == 2)) && (mTxn r && (mChg r && mTab r)))))) := by
  unfold mayB
  rw [Bool.decide_and, Bool.decide_and, Bool.decide_or]
  have e3 : decide (r.undo = 0) = ((r.undo : Int) == 0) := by by_cases h : r.undo = 0 <;> simp [h]
  have e4 : decide (r.kind = 2) = (r.kind == 2) := by by_cases h : r.kind = 2 <;> simp [h]
  rw [e3, e4]

end Go.Proofs.Yticnkppnpfgceaa
