/-
  The walk of the document's Same.
-/
import Derived.Test.YtjhjicokbdloiaaLa2
namespace Go.Proofs.Ytjhjicokbdloiaa
open Go.RowKit

set_option maxRecDepth 20000 in
set_option maxHeartbeats 4000000 in
theorem refsame_any (a b : Rc) (ta : Option Addr) (tc : Nat) (da : Option Addr) (dc : Nat) (ta2 : Option Addr) (tc2 : Nat) (da2 : Option Addr) (dc2 : Nat) (w : World) (ha : RI w a ta da) (hb : RI w b ta2 da2) :
    Calls Try.prog 22 #[recV a ta tc da dc, recV b ta2 tc2 da2 dc2] w fun e w' => e = .returned (.bool (decide (a = b))) ∧ Below w.heap.size w w' := by
  have HB : Hid (Below w.heap.size w ((w.alloc (.cells (recC a ta tc da dc) 31)).alloc (.cells (recC b ta2 tc2 da2 dc2) 31))) := ((Below.refl _ _).alloc (Nat.le_refl _) _).alloc (by simp) _
  have HA := (show Hid _ from ha)
  have HBB := (show Hid _ from hb)
  have h3a := ha.lt
  have h4a := ha.ld
  have h3b := hb.lt
  have h4b := hb.ld
  unfold maxLen at h3a h4a h3b h4b
  have hact := act_same a.ak b.ak a.key a.old a.new b.key b.old b.new
  have hgd := Try.guard27
  clear ha hb
  by_cases h0 : a.kind = b.kind
  rotate_left
  · have HQ : Hid (decide (a = b) = false) := by show _ = _; exact decide_eq_false (fun e => h0 (by rw [e]))
    have f0 : (a.kind != b.kind) = true := by simp [h0]
    have H0 := (show Hid _ from h0)
    clear h0
    clear hact
    go_enter Try.func22, Try.ntmps22
    go_wp2
    go_ret
    exact ⟨by rw [HQ.out]; rfl, HB.out⟩
  have f0 : (a.kind != b.kind) = false := by simp [h0]
  have H0 := (show Hid _ from h0)
  clear h0
  by_cases h1 : a.lsn = b.lsn
  rotate_left
  · have HQ : Hid (decide (a = b) = false) := by show _ = _; exact decide_eq_false (fun e => h1 (by rw [e]))
    have f1 : (a.lsn != b.lsn) = true := by simp [h1]
    have g1 : ((a.lsn : Int) != (b.lsn : Int)) = true := by simp; omega
    have H1 := (show Hid _ from h1)
    clear h1
    clear hact
    go_enter Try.func22, Try.ntmps22
    go_wp2
    go_ret
    exact ⟨by rw [HQ.out]; rfl, HB.out⟩
  have f1 : (a.lsn != b.lsn) = false := by simp [h1]
  have g1 : ((a.lsn : Int) != (b.lsn : Int)) = false := by simp; omega
  have H1 := (show Hid _ from h1)
  clear h1
  by_cases h2 : a.txn = b.txn
  rotate_left
  · have HQ : Hid (decide (a = b) = false) := by show _ = _; exact decide_eq_false (fun e => h2 (by rw [e]))
    have f2 : (a.txn != b.txn) = true := by simp [h2]
    have H2 := (show Hid _ from h2)
    clear h2
    clear hact
    go_enter Try.func22, Try.ntmps22
    go_wp2
    go_ret
    exact ⟨by rw [HQ.out]; rfl, HB.out⟩
  have f2 : (a.txn != b.txn) = false := by simp [h2]
  have H2 := (show Hid _ from h2)
  clear h2
  by_cases h3 : a.prev = b.prev
  rotate_left
  · have HQ : Hid (decide (a = b) = false) := by show _ = _; exact decide_eq_false (fun e => h3 (by rw [e]))
    have f3 : (a.prev != b.prev) = true := by simp [h3]
    have g3 : ((a.prev : Int) != (b.prev : Int)) = true := by simp; omega
    have H3 := (show Hid _ from h3)
    clear h3
    clear hact
    go_enter Try.func22, Try.ntmps22
    go_wp2
    go_ret
    exact ⟨by rw [HQ.out]; rfl, HB.out⟩
  have f3 : (a.prev != b.prev) = false := by simp [h3]
  have g3 : ((a.prev : Int) != (b.prev : Int)) = false := by simp; omega
  have H3 := (show Hid _ from h3)
  clear h3
  by_cases h4 : a.undo = b.undo
  rotate_left
  · have HQ : Hid (decide (a = b) = false) := by show _ = _; exact decide_eq_false (fun e => h4 (by rw [e]))
    have f4 : (a.undo != b.undo) = true := by simp [h4]
    have g4 : ((a.undo : Int) != (b.undo : Int)) = true := by simp; omega
    have H4 := (show Hid _ from h4)
    clear h4
    clear hact
    go_enter Try.func22, Try.ntmps22
    go_wp2
    go_ret
    exact ⟨by rw [HQ.out]; rfl, HB.out⟩
  have f4 : (a.undo != b.undo) = false := by simp [h4]
  have g4 : ((a.undo : Int) != (b.undo : Int)) = false := by simp; omega
  have H4 := (show Hid _ from h4)
  clear h4
  by_cases h5 : a.page = b.page
  rotate_left
  · have HQ : Hid (decide (a = b) = false) := by show _ = _; exact decide_eq_false (fun e => h5 (by rw [e]))
    have f5 : (a.page != b.page) = true := by simp [h5]
    have H5 := (show Hid _ from h5)
    clear h5
    clear hact
    go_enter Try.func22, Try.ntmps22
    go_wp2
    go_ret
    exact ⟨by rw [HQ.out]; rfl, HB.out⟩
  have f5 : (a.page != b.page) = false := by simp [h5]
  have H5 := (show Hid _ from h5)
  clear h5
  by_cases h6 : a.ak = b.ak ∧ a.key = b.key ∧ a.old = b.old ∧ a.new = b.new
  rotate_left
  · have HQ : Hid (decide (a = b) = false) := by show _ = _; exact decide_eq_false (fun e => h6 (by rw [e]; exact ⟨rfl, rfl, rfl, rfl⟩))
    rw [decide_eq_false h6] at hact
    clear h6
    go_enter Try.func22, Try.ntmps22
    go_wp2
    go_ret
    exact ⟨by rw [HQ.out]; rfl, HB.out⟩
  rw [decide_eq_true h6] at hact
  have H6 := (show Hid _ from h6)
  clear h6
  by_cases h7 : a.txns.length = b.txns.length
  rotate_left
  · have HQ : Hid (decide (a = b) = false) := by show _ = _; exact decide_eq_false (fun e => h7 (by rw [e]))
    have f7 : ((a.txns.length : Int) != (b.txns.length : Int)) = true := by simp; omega
    have f7' : (a.txns.length != b.txns.length) = true := by simp [h7]
    clear h7
    go_enter Try.func22, Try.ntmps22
    go_wp2
    go_ret
    exact ⟨by rw [HQ.out]; rfl, HB.out⟩
  have f7 : ((a.txns.length : Int) != (b.txns.length : Int)) = false := by simp; omega
  have f7' : (a.txns.length != b.txns.length) = false := by simp [h7]
  have HNt := (show Hid _ from h7)
  clear h7
  by_cases h8 : a.dirty.length = b.dirty.length
  rotate_left
  · have HQ : Hid (decide (a = b) = false) := by show _ = _; exact decide_eq_false (fun e => h8 (by rw [e]))
    have f8 : ((a.dirty.length : Int) != (b.dirty.length : Int)) = true := by simp; omega
    have f8' : (a.dirty.length != b.dirty.length) = true := by simp [h8]
    clear h8
    go_enter Try.func22, Try.ntmps22
    go_wp2
    go_ret
    exact ⟨by rw [HQ.out]; rfl, HB.out⟩
  have f8 : ((a.dirty.length : Int) != (b.dirty.length : Int)) = false := by simp; omega
  have f8' : (a.dirty.length != b.dirty.length) = false := by simp [h8]
  have HNd := (show Hid _ from h8)
  clear h8
  have HK : Hid (Below (w.heap.size + 2) ((w.alloc (.cells (recC a ta tc da dc) 31)).alloc (.cells (recC b ta2 tc2 da2 dc2) 31)) ((w.alloc (.cells (recC a ta tc da dc) 31)).alloc (.cells (recC b ta2 tc2 da2 dc2) 31))) := Below.refl _ _
  go_enter Try.func22, Try.ntmps22
  go_wp2_with fail
  clear hact f0 f1 g1 f2 f3 g3 f4 g4 f5 f7 f7' f8 f8'
  go_loopw [5] (fun i wr => ∃ k : Nat, k ≤ a.txns.length ∧ i = .int .i64 k ∧ a.txns.take k = b.txns.take k ∧ Below (w.heap.size + 2) ((w.alloc (.cells (recC a ta tc da dc) 31)).alloc (.cells (recC b ta2 tc2 da2 dc2) 31)) wr) (fun i _ => a.txns.length - (intOf i).toNat)
  case atStart => exact ⟨0, Nat.zero_le _, rfl, rfl, HK.out⟩
  case round =>
    obtain ⟨k, hk, rfl, htk, hKr⟩ := hrel
    have HTk := (show Hid _ from htk)
    clear htk HK
    have HK := (show Hid _ from hKr)
    clear hKr
    obtain ⟨ka, kb⟩ := boxes HK.out
    obtain ⟨⟨x0, x1, x2, x3, x4, x5, x6, x7, x8, x9, x10, x11⟩, _⟩ := rw_cells' ka
    obtain ⟨⟨y0, y1, y2, y3, y4, y5, y6, y7, y8, y9, y10, y11⟩, _⟩ := rw_cells' kb
    have hza := lt_of_block ka
    have hzb := lt_of_block kb
    clear ka kb
    by_cases hlt : k < a.txns.length
    · have hlt2 : k < b.txns.length := by have := HNt.out; omega
      obtain ⟨ba, oa, hea, hba, c0, c1, c2⟩ := (HA.out.below (box2_below HK.out)).t.at k hlt
      obtain ⟨bb, ob, heb, hbb, d0, d1, d2⟩ := (HBB.out.below (box2_below HK.out)).t.at k hlt2
      subst hea
      subst heb
      have hE := tx_same a.txns[k] b.txns[k]
      have hge := Try.guard71
      by_cases heq : a.txns[k] = b.txns[k]
      · rw [decide_eq_true heq] at hE
        have HQ := (show Hid _ from take_eq_succ a.txns b.txns k hlt hlt2 HTk.out heq)
        clear heq
        go_wp2_with fail
        go_quiet (fail)
        go_wp2
        go_roundw
        case rel => exact ⟨k + 1, by omega, by go_num, HQ.out, below_drewN' HK.out _⟩
        case measure => simp [intOf]; omega
      · rw [decide_eq_false heq] at hE
        have HQ : Hid (decide (a = b) = false) := by
          show _ = _
          exact decide_eq_false (fun e => heq (by subst e; rfl))
        clear heq
        go_wp2_with fail
        go_quiet (fail)
        go_wp2
        go_ret
        exact ⟨by rw [HQ.out]; rfl, box2_below (below_drewN' HK.out _)⟩
    · obtain rfl : k = a.txns.length := by omega
      have HL5 : Hid (a.txns = b.txns) := by
        show _ = _
        have h1 := HTk.out
        rw [List.take_length, HNt.out, List.take_length] at h1
        exact h1
      clear HTk hlt hk
      go_wp2_with fail
      clear x0 x1 x2 x3 x4 x5 x6 x7 x8 x9 x10 x11 y0 y1 y2 y3 y4 y5 y6 y7 y8 y9 y10 y11
      go_loopw [6] (fun i wr => ∃ k : Nat, k ≤ a.dirty.length ∧ i = .int .i64 k ∧ a.dirty.take k = b.dirty.take k ∧ Below (w.heap.size + 2) ((w.alloc (.cells (recC a ta tc da dc) 31)).alloc (.cells (recC b ta2 tc2 da2 dc2) 31)) wr) (fun i _ => a.dirty.length - (intOf i).toNat)
      case atStart => exact ⟨0, Nat.zero_le _, rfl, rfl, HK.out⟩
      case round =>
        obtain ⟨k, hk, rfl, htk, hKr⟩ := hrel
        have HTk := (show Hid _ from htk)
        clear htk HK
        have HK := (show Hid _ from hKr)
        clear hKr
        obtain ⟨ka, kb⟩ := boxes HK.out
        obtain ⟨⟨x0, x1, x2, x3, x4, x5, x6, x7, x8, x9, x10, x11⟩, _⟩ := rw_cells' ka
        obtain ⟨⟨y0, y1, y2, y3, y4, y5, y6, y7, y8, y9, y10, y11⟩, _⟩ := rw_cells' kb
        have hza := lt_of_block ka
        have hzb := lt_of_block kb
        clear ka kb
        by_cases hlt : k < a.dirty.length
        · have hlt2 : k < b.dirty.length := by have := HNd.out; omega
          obtain ⟨ba, oa, hea, hba, c0, c1⟩ := (HA.out.below (box2_below HK.out)).d.at k hlt
          obtain ⟨bb, ob, heb, hbb, d0, d1⟩ := (HBB.out.below (box2_below HK.out)).d.at k hlt2
          subst hea
          subst heb
          have hE := di_same a.dirty[k] b.dirty[k]
          have hge := Try.guard73
          by_cases heq : a.dirty[k] = b.dirty[k]
          · rw [decide_eq_true heq] at hE
            have HQ := (show Hid _ from take_eq_succ a.dirty b.dirty k hlt hlt2 HTk.out heq)
            clear heq
            go_wp2_with fail
            go_quiet (fail)
            go_wp2
            go_roundw
            case rel => exact ⟨k + 1, by omega, by go_num, HQ.out, below_drewN' HK.out _⟩
            case measure => simp [intOf]; omega
          · rw [decide_eq_false heq] at hE
            have HQ : Hid (decide (a = b) = false) := by
              show _ = _
              exact decide_eq_false (fun e => heq (by subst e; rfl))
            clear heq
            go_wp2_with fail
            go_quiet (fail)
            go_wp2
            go_ret
            exact ⟨by rw [HQ.out]; rfl, box2_below (below_drewN' HK.out _)⟩
        · obtain rfl : k = a.dirty.length := by omega
          have HL6 : Hid (a.dirty = b.dirty) := by
            show _ = _
            have h1 := HTk.out
            rw [List.take_length, HNd.out, List.take_length] at h1
            exact h1
          clear HTk hlt hk
          have HQ : Hid (decide (a = b) = true) := by
            show _ = _
            have e0 := H0.out
            have e1 := H1.out
            have e2 := H2.out
            have e3 := H3.out
            have e4 := H4.out
            have e5 := H5.out
            obtain ⟨e6, e7, e8, e9⟩ := H6.out
            have e10 := HL5.out
            have e11 := HL6.out
            apply decide_eq_true
            cases a
            cases b
            simp_all
          go_wp2
          go_ret
          exact ⟨by rw [HQ.out]; rfl, box2_below HK.out⟩

end Go.Proofs.Ytjhjicokbdloiaa
