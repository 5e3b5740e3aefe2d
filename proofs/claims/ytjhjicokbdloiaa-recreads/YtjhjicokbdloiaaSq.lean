/-
  The walks of slices.Equal over rows, and of Same.
-/
import Derived.Test.YtjhjicokbdloiaaEq
import Derived.Test.YtjhjicokbdloiaaCk
namespace Go.Proofs.Ytjhjicokbdloiaa
open Go.RowKit

theorem take_eq_succ {α : Type} (l m : List α) (k : Nat) (hl : k < l.length) (hm : k < m.length) (h : l.take k = m.take k) (e : l[k] = m[k]) : l.take (k + 1) = m.take (k + 1) := by
  rw [List.take_succ_eq_append_getElem hl, List.take_succ_eq_append_getElem hm, h, e]

set_option maxHeartbeats 1000000 in
theorem equalT_any (a b : Option Addr) (ca cb : Nat) (la lb : List Tx) (w : World) (ha : SlT w a la) (hb : SlT w b lb) (hla : la.length ≤ maxLen) (hlb : lb.length ≤ maxLen) :
    Calls Try.prog 54 #[.slice a la.length ca, .slice b lb.length cb] w fun e w' => e = .returned (.bool (decide (la = lb))) ∧ Below w.heap.size w w' := by
  unfold maxLen at hla hlb
  have hgd := Try.guard71
  by_cases hn : la.length = lb.length
  · go_enter Try.func54, Try.ntmps54
    rw [← hn]
    have HN : Hid (la.length = lb.length) := hn
    clear hn
    go_wp2_with fail
    go_loopw [13] (fun i wr => ∃ k : Nat, k ≤ la.length ∧ i = .int .i64 k ∧ la.take k = lb.take k ∧ Below w.heap.size w wr) (fun i _ => la.length - (intOf i).toNat)
    case atStart => exact ⟨0, Nat.zero_le _, rfl, rfl, Below.refl _ _⟩
    case round =>
      obtain ⟨k, hk, rfl, htk, hB⟩ := hrel
      have HTk := (show Hid _ from htk)
      clear htk
      by_cases hlt : k < la.length
      · have hlt2 : k < lb.length := by have := HN.out; omega
        obtain ⟨ba, oa, rfl, hba, c0, c1, c2⟩ := (ha.below hB).at k hlt
        obtain ⟨bb, ob, rfl, hbb, d0, d1, d2⟩ := (hb.below hB).at k hlt2
        have hE := tx_same la[k] lb[k]
        by_cases heq : la[k] = lb[k]
        · rw [decide_eq_true heq] at hE
          have HQ := (show Hid _ from take_eq_succ la lb k hlt hlt2 HTk.out heq)
          clear heq
          go_wp2_with fail
          go_quiet (fail)
          go_wp2
          go_roundw
          case rel => exact ⟨k + 1, by omega, by go_num, HQ.out, below_drewN' hB _⟩
          case measure => simp [intOf]; omega
        · rw [decide_eq_false heq] at hE
          have HQ : Hid (decide (la = lb) = false) := by
            show _ = _
            exact decide_eq_false (fun e => heq (by subst e; rfl))
          clear heq
          go_wp2_with fail
          go_quiet (fail)
          go_wp2
          go_ret
          exact ⟨by rw [HQ.out]; rfl, below_drewN' hB _⟩
      · obtain rfl : k = la.length := by omega
        have HQ : Hid (decide (la = lb) = true) := by
          show _ = _
          have h1 := HTk.out
          rw [List.take_length, HN.out, List.take_length] at h1
          exact decide_eq_true h1
        go_wp2
        go_ret
        exact ⟨by rw [HQ.out]; rfl, hB⟩
  · have HQ : Hid (decide (la = lb) = false) := by
      show _ = _
      exact decide_eq_false (fun e => hn (by rw [e]))
    have h1 : ((la.length : Int) != (lb.length : Int)) = true := by simp; omega
    clear hn
    go_enter Try.func54, Try.ntmps54
    go_wp2
    go_ret
    exact ⟨by rw [HQ.out]; rfl, Below.refl _ _⟩

set_option maxHeartbeats 1000000 in
theorem equalD_any (a b : Option Addr) (ca cb : Nat) (la lb : List Di) (w : World) (ha : SlD w a la) (hb : SlD w b lb) (hla : la.length ≤ maxLen) (hlb : lb.length ≤ maxLen) :
    Calls Try.prog 55 #[.slice a la.length ca, .slice b lb.length cb] w fun e w' => e = .returned (.bool (decide (la = lb))) ∧ Below w.heap.size w w' := by
  unfold maxLen at hla hlb
  have hgd := Try.guard73
  by_cases hn : la.length = lb.length
  · go_enter Try.func55, Try.ntmps55
    rw [← hn]
    have HN : Hid (la.length = lb.length) := hn
    clear hn
    go_wp2_with fail
    go_loopw [13] (fun i wr => ∃ k : Nat, k ≤ la.length ∧ i = .int .i64 k ∧ la.take k = lb.take k ∧ Below w.heap.size w wr) (fun i _ => la.length - (intOf i).toNat)
    case atStart => exact ⟨0, Nat.zero_le _, rfl, rfl, Below.refl _ _⟩
    case round =>
      obtain ⟨k, hk, rfl, htk, hB⟩ := hrel
      have HTk := (show Hid _ from htk)
      clear htk
      by_cases hlt : k < la.length
      · have hlt2 : k < lb.length := by have := HN.out; omega
        obtain ⟨ba, oa, rfl, hba, c0, c1⟩ := (ha.below hB).at k hlt
        obtain ⟨bb, ob, rfl, hbb, d0, d1⟩ := (hb.below hB).at k hlt2
        have hE := di_same la[k] lb[k]
        by_cases heq : la[k] = lb[k]
        · rw [decide_eq_true heq] at hE
          have HQ := (show Hid _ from take_eq_succ la lb k hlt hlt2 HTk.out heq)
          clear heq
          go_wp2_with fail
          go_quiet (fail)
          go_wp2
          go_roundw
          case rel => exact ⟨k + 1, by omega, by go_num, HQ.out, below_drewN' hB _⟩
          case measure => simp [intOf]; omega
        · rw [decide_eq_false heq] at hE
          have HQ : Hid (decide (la = lb) = false) := by
            show _ = _
            exact decide_eq_false (fun e => heq (by subst e; rfl))
          clear heq
          go_wp2_with fail
          go_quiet (fail)
          go_wp2
          go_ret
          exact ⟨by rw [HQ.out]; rfl, below_drewN' hB _⟩
      · obtain rfl : k = la.length := by omega
        have HQ : Hid (decide (la = lb) = true) := by
          show _ = _
          have h1 := HTk.out
          rw [List.take_length, HN.out, List.take_length] at h1
          exact decide_eq_true h1
        go_wp2
        go_ret
        exact ⟨by rw [HQ.out]; rfl, hB⟩
  · have HQ : Hid (decide (la = lb) = false) := by
      show _ = _
      exact decide_eq_false (fun e => hn (by rw [e]))
    have h1 : ((la.length : Int) != (lb.length : Int)) = true := by simp; omega
    clear hn
    go_enter Try.func55, Try.ntmps55
    go_wp2
    go_ret
    exact ⟨by rw [HQ.out]; rfl, Below.refl _ _⟩

end Go.Proofs.Ytjhjicokbdloiaa
