/-
  The document's Rows.
-/
import Derived.Test.YticnkppnpfgceaaDa
import Derived.Test.YticnkppnpfgceaaLa2
namespace Go.Proofs.Yticnkppnpfgceaa
open Go.RowKit

theorem txAt_b (l : List Tx) (k : Nat) (hk : k < l.length) (h : txB l[k] = false) : txAt l k = false := by
  cases k with
  | zero => rw [txAt_zero l hk, h]
  | succ k => rw [txAt_succ l k hk, h, Bool.and_false]
theorem diAt_b (l : List Di) (k : Nat) (hk : k < l.length) (h : diB l[k] = false) : diAt l k = false := by
  cases k with
  | zero => rw [diAt_zero l hk, h]
  | succ k => rw [diAt_succ l k hk, h, Bool.and_false]

set_option maxRecDepth 20000 in
set_option maxHeartbeats 4000000 in
theorem refrows_any (r : Rc) (ta : Option Addr) (tc : Nat) (da : Option Addr) (dc : Nat) (w : World) (h : RI w r ta da) :
    Calls Try.prog 63 #[recV r ta tc da dc] w fun e w' => e = .returned (.bool (txnsB r.txns && dirtyB r.dirty)) ∧ Below w.heap.size w w' := by
  have HB0 : Hid (Below w.heap.size w (w.alloc (.cells (recC r ta tc da dc) 50))) := (Below.refl _ _).alloc (Nat.le_refl _) _
  have hlt := h.lt
  have hld := h.ld
  unfold maxLen at hlt hld
  have HT := (show Hid _ from h.t)
  have HD := (show Hid _ from h.d)
  clear h
  by_cases h64 : r.txns.length ≤ 64
  rotate_left
  · have HE : Hid ((txnsB r.txns && dirtyB r.dirty) = false) := by show _ = _; simp [txnsB, h64]
    go_enter Try.func63, Try.ntmps63
    go_wp2
    go_ret
    exact ⟨by rw [HE.out]; rfl, HB0.out⟩
  by_cases h16 : r.dirty.length ≤ 16
  rotate_left
  · have HE : Hid ((txnsB r.txns && dirtyB r.dirty) = false) := by show _ = _; simp [dirtyB, h16]
    go_enter Try.func63, Try.ntmps63
    go_wp2
    go_ret
    exact ⟨by rw [HE.out]; rfl, HB0.out⟩
  have HE0 : Hid ((txnsB r.txns && dirtyB r.dirty) = (txUpto r.txns r.txns.length && diUpto r.dirty r.dirty.length)) := by
    show _ = _
    simp [txnsB, dirtyB, h64, h16]
  go_enter Try.func63, Try.ntmps63
  go_wp2_with fail
  go_loopw [3] (fun i wr => ∃ k : Nat, k ≤ r.txns.length ∧ i = .int .i64 k ∧ txUpto r.txns k = true ∧ Below (w.alloc (.cells (recC r ta tc da dc) 50)).heap.size (w.alloc (.cells (recC r ta tc da dc) 50)) wr) (fun i _ => r.txns.length - (intOf i).toNat)
  case atStart => exact ⟨0, Nat.zero_le _, rfl, rfl, Below.refl _ _⟩
  case round =>
    obtain ⟨k, hk, rfl, hup, hBr⟩ := hrel
    have HU := (show Hid _ from hup)
    have HBr := (show Hid _ from hBr)
    have hB : Below w.heap.size w wr := below_on HB0.out hBr
    obtain ⟨⟨x0, x1, x2, x3, x4, x5, x6, x7, x8, x9, x10, x11⟩, _⟩ := rw_cells' (box_kept hBr)
    have hza := lt_of_block (box_kept hBr)
    clear hup hBr
    by_cases hlt2 : k < r.txns.length
    · obtain ⟨b, o, rfl, hbl, c0, c1, c2⟩ := (HT.out.below hB).at k hlt2
      have hsl := (show Hid _ from HT.out.below hB)
      have HNO : Hid (txAt r.txns k = false → (txUpto r.txns r.txns.length && diUpto r.dirty r.dirty.length) = false) := fun h => by rw [txUpto_no r.txns _ k hlt2 h, Bool.false_and]
      have HBA := (show Hid _ from HBr.out.alloc HBr.out.size (.cells #[.int .i64 r.txns[k].id, .int .i64 r.txns[k].st, .int .u64 (r.txns[k].last : Nat)] 57))
      have HF : Hid (Below w.heap.size w (wr.alloc (.cells #[.int .i64 r.txns[k].id, .int .i64 r.txns[k].st, .int .u64 (r.txns[k].last : Nat)] 57))) := hB.alloc hB.size _
      have HS : Hid (txUpto r.txns (k + 1) = txAt r.txns k) := by
        show _ = _
        rw [txUpto, HU.out, Bool.true_and]
      clear hB
      by_cases g0 : 1 ≤ r.txns[k].id
      rotate_left
      · have HN := (show Hid _ from HNO.out (txAt_b r.txns k hlt2 (by simp only [txB, idB, Bool.and_eq_false_iff, decide_eq_false_iff_not]; omega)))
        go_wp2
        go_ret
        exact ⟨by rw [HE0.out, HN.out]; rfl, HF.out⟩
      by_cases g1 : r.txns[k].id ≤ 1073741824
      rotate_left
      · have HN := (show Hid _ from HNO.out (txAt_b r.txns k hlt2 (by simp only [txB, idB, Bool.and_eq_false_iff, decide_eq_false_iff_not]; omega)))
        go_wp2
        go_ret
        exact ⟨by rw [HE0.out, HN.out]; rfl, HF.out⟩
      by_cases g2 : 0 ≤ r.txns[k].st
      rotate_left
      · have HN := (show Hid _ from HNO.out (txAt_b r.txns k hlt2 (by simp only [txB, idB, Bool.and_eq_false_iff, decide_eq_false_iff_not]; omega)))
        go_wp2
        go_ret
        exact ⟨by rw [HE0.out, HN.out]; rfl, HF.out⟩
      by_cases g3 : r.txns[k].st ≤ 2
      rotate_left
      · have HN := (show Hid _ from HNO.out (txAt_b r.txns k hlt2 (by simp only [txB, idB, Bool.and_eq_false_iff, decide_eq_false_iff_not]; omega)))
        go_wp2
        go_ret
        exact ⟨by rw [HE0.out, HN.out]; rfl, HF.out⟩
      have HDB : Hid (txB r.txns[k] = lsnB r.txns[k].last) := by show _ = _; simp only [txB, idB]; rw [show decide (1 ≤ r.txns[k].id ∧ r.txns[k].id ≤ 1073741824) = true from decide_eq_true ⟨g0, g1⟩, show decide (0 ≤ r.txns[k].st ∧ r.txns[k].st < 3) = true from decide_eq_true ⟨g2, by omega⟩]; rfl
      go_wp2_with fail
      refine Calls.mono (refnumbered_any _ _) ?_
      rintro e w5 ⟨rfl, hw5⟩
      obtain rfl := hw5.symm
      cases hln : lsnB r.txns[k].last
      · have HN := (show Hid _ from HNO.out (txAt_b r.txns k hlt2 (by rw [HDB.out, hln])))
        clear hln
        go_wp2
        go_ret
        exact ⟨by rw [HE0.out, HN.out]; rfl, HF.out⟩
      rw [hln] at HDB
      clear hln
      by_cases hk0 : k = 0
      · have hz : decide (0 < (k : Int)) = false := by simp [hk0]
        have hzn : ¬ 0 < k := by omega
        have HQ : Hid (txAt r.txns k = true) := by
          show _ = _
          have := HDB.out
          subst hk0
          rw [txAt_zero _ hlt2, this]
        clear hk0
        go_wp2_with fail
        go_quiet (fail)
        go_wp2_with fail
        go_roundw
        case rel => exact ⟨k + 1, by omega, by simp, by rw [HS.out, HQ.out], below_drewN' HBA.out _⟩
        case measure => first | omega | (simp only [intOf]; omega)
      · obtain ⟨m, HM⟩ : ∃ m, Hid (k = m + 1) := ⟨k - 1, by show _ = _; omega⟩
        have hz : decide (0 < (k : Int)) = true := by simp; omega
        have hzp : 0 < k := by omega
        have hmk : (k : Int) - 1 = (m : Int) := by have := HM.out; omega
        have hml : m < r.txns.length := by have := HM.out; omega
        obtain ⟨_, p0, _, _⟩ := hsl.out.here m hml
        have HQ0 : Hid (txAt r.txns k = decide (r.txns[m].id < r.txns[k].id)) := by
          show _ = _
          have h1 := HDB.out
          have h2 := HM.out
          subst h2
          rw [txAt_succ _ _ hlt2, h1, Bool.and_true]
        have hm0 : (0 : Int) ≤ (m : Int) := by omega
        have hm1 : (m : Int) < (r.txns.length : Int) := by omega
        clear hk0
        by_cases hord : r.txns[m].id < r.txns[k].id
        · have hod : decide (r.txns[k].id ≤ r.txns[m].id) = false := by simp; omega
          have HQ : Hid (txAt r.txns k = true) := by show _ = _; rw [HQ0.out]; exact decide_eq_true hord
          clear hord
          go_wp2_with fail
          go_quiet (fail)
          go_wp2_with fail
          go_roundw
          case rel => exact ⟨k + 1, by omega, by simp, by rw [HS.out, HQ.out], below_drewN' HBA.out _⟩
          case measure => first | omega | (simp only [intOf]; omega)
        · have hod : decide (r.txns[k].id ≤ r.txns[m].id) = true := by simp; omega
          have HN := (show Hid _ from HNO.out (by rw [HQ0.out]; exact decide_eq_false hord))
          clear hord
          go_wp2_with fail
          go_quiet (fail)
          go_wp2
          go_ret
          exact ⟨by rw [HE0.out, HN.out]; rfl, below_drewN' HF.out _⟩
    · obtain rfl : k = r.txns.length := by omega
      have HUT := (show Hid _ from HU.out)
      clear HU hlt2 hk
      go_wp2_with fail
      clear x0 x1 x2 x3 x4 x5 x6 x7 x8 x9 x10 x11 hza hB
      go_loopw [5] (fun i wr => ∃ k : Nat, k ≤ r.dirty.length ∧ i = .int .i64 k ∧ diUpto r.dirty k = true ∧ Below (w.alloc (.cells (recC r ta tc da dc) 50)).heap.size (w.alloc (.cells (recC r ta tc da dc) 50)) wr) (fun i _ => r.dirty.length - (intOf i).toNat)
      case atStart => exact ⟨0, Nat.zero_le _, rfl, rfl, HBr.out⟩
      case round =>
        obtain ⟨k, hk, rfl, hup, hBr⟩ := hrel
        have HU := (show Hid _ from hup)
        have HBr := (show Hid _ from hBr)
        have hB : Below w.heap.size w wr := below_on HB0.out hBr
        obtain ⟨⟨x0, x1, x2, x3, x4, x5, x6, x7, x8, x9, x10, x11⟩, _⟩ := rw_cells' (box_kept hBr)
        have hza := lt_of_block (box_kept hBr)
        clear hup hBr
        by_cases hlt2 : k < r.dirty.length
        · obtain ⟨b, o, rfl, hbl, c0, c1⟩ := (HD.out.below hB).at k hlt2
          have hsl := (show Hid _ from HD.out.below hB)
          have HNO : Hid (diAt r.dirty k = false → (txUpto r.txns r.txns.length && diUpto r.dirty r.dirty.length) = false) := fun h => by rw [diUpto_no r.dirty _ k hlt2 h, Bool.and_false]
          have HBA := (show Hid _ from HBr.out.alloc HBr.out.size (.cells #[.int .i64 r.dirty[k].page, .int .u64 (r.dirty[k].lsn : Nat)] 60))
          have HF : Hid (Below w.heap.size w (wr.alloc (.cells #[.int .i64 r.dirty[k].page, .int .u64 (r.dirty[k].lsn : Nat)] 60))) := hB.alloc hB.size _
          have HS : Hid (diUpto r.dirty (k + 1) = diAt r.dirty k) := by
            show _ = _
            rw [diUpto, HU.out, Bool.true_and]
          clear hB
          by_cases g0 : 0 ≤ r.dirty[k].page
          rotate_left
          · have HN := (show Hid _ from HNO.out (diAt_b r.dirty k hlt2 (by simp only [diB, pageB, Bool.and_eq_false_iff, decide_eq_false_iff_not]; omega)))
            go_wp2
            go_ret
            exact ⟨by rw [HE0.out, HN.out]; rfl, HF.out⟩
          by_cases g1 : r.dirty[k].page ≤ 15
          rotate_left
          · have HN := (show Hid _ from HNO.out (diAt_b r.dirty k hlt2 (by simp only [diB, pageB, Bool.and_eq_false_iff, decide_eq_false_iff_not]; omega)))
            go_wp2
            go_ret
            exact ⟨by rw [HE0.out, HN.out]; rfl, HF.out⟩
          have HDB : Hid (diB r.dirty[k] = lsnB r.dirty[k].lsn) := by show _ = _; simp only [diB, pageB]; rw [show decide (0 ≤ r.dirty[k].page ∧ r.dirty[k].page < 16) = true from decide_eq_true ⟨g0, by omega⟩]; rfl
          go_wp2_with fail
          refine Calls.mono (refnumbered_any _ _) ?_
          rintro e w5 ⟨rfl, hw5⟩
          obtain rfl := hw5.symm
          cases hln : lsnB r.dirty[k].lsn
          · have HN := (show Hid _ from HNO.out (diAt_b r.dirty k hlt2 (by rw [HDB.out, hln])))
            clear hln
            go_wp2
            go_ret
            exact ⟨by rw [HE0.out, HN.out]; rfl, HF.out⟩
          rw [hln] at HDB
          clear hln
          by_cases hk0 : k = 0
          · have hz : decide (0 < (k : Int)) = false := by simp [hk0]
            have hzn : ¬ 0 < k := by omega
            have HQ : Hid (diAt r.dirty k = true) := by
              show _ = _
              have := HDB.out
              subst hk0
              rw [diAt_zero _ hlt2, this]
            clear hk0
            go_wp2_with fail
            go_quiet (fail)
            go_wp2_with fail
            go_roundw
            case rel => exact ⟨k + 1, by omega, by simp, by rw [HS.out, HQ.out], below_drewN' HBA.out _⟩
            case measure => first | omega | (simp only [intOf]; omega)
          · obtain ⟨m, HM⟩ : ∃ m, Hid (k = m + 1) := ⟨k - 1, by show _ = _; omega⟩
            have hz : decide (0 < (k : Int)) = true := by simp; omega
            have hzp : 0 < k := by omega
            have hmk : (k : Int) - 1 = (m : Int) := by have := HM.out; omega
            have hml : m < r.dirty.length := by have := HM.out; omega
            obtain ⟨_, p0, _⟩ := hsl.out.here m hml
            have HQ0 : Hid (diAt r.dirty k = decide (r.dirty[m].page < r.dirty[k].page)) := by
              show _ = _
              have h1 := HDB.out
              have h2 := HM.out
              subst h2
              rw [diAt_succ _ _ hlt2, h1, Bool.and_true]
            have hm0 : (0 : Int) ≤ (m : Int) := by omega
            have hm1 : (m : Int) < (r.dirty.length : Int) := by omega
            clear hk0
            by_cases hord : r.dirty[m].page < r.dirty[k].page
            · have hod : decide (r.dirty[k].page ≤ r.dirty[m].page) = false := by simp; omega
              have HQ : Hid (diAt r.dirty k = true) := by show _ = _; rw [HQ0.out]; exact decide_eq_true hord
              clear hord
              go_wp2_with fail
              go_quiet (fail)
              go_wp2_with fail
              go_roundw
              case rel => exact ⟨k + 1, by omega, by simp, by rw [HS.out, HQ.out], below_drewN' HBA.out _⟩
              case measure => first | omega | (simp only [intOf]; omega)
            · have hod : decide (r.dirty[k].page ≤ r.dirty[m].page) = true := by simp; omega
              have HN := (show Hid _ from HNO.out (by rw [HQ0.out]; exact decide_eq_false hord))
              clear hord
              go_wp2_with fail
              go_quiet (fail)
              go_wp2
              go_ret
              exact ⟨by rw [HE0.out, HN.out]; rfl, below_drewN' HF.out _⟩
        · obtain rfl : k = r.dirty.length := by omega
          go_wp2
          go_ret
          exact ⟨by rw [HE0.out, HUT.out, HU.out]; rfl, hB⟩

end Go.Proofs.Yticnkppnpfgceaa
