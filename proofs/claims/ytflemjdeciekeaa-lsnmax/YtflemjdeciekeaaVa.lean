/-
  The walks of the document's Make, of Count, Inst and Valid, and of the document's Valid and See.
-/
import Derived.Test.YtflemjdeciekeaaFn
namespace Go.Proofs.Ytflemjdeciekeaa
open Go.RowKit

theorem refmake_any (n : Nat) (i : Int) (w : World) : Calls Try.prog 10 #[.int .u64 (n : Int), .int .i64 i] w fun e w' => e = .returned (.tuple #[.int .u64 ((mkL n i : Nat) : Int), .int .i64 (mkE n i)]) ∧ w' = w := by
  by_cases h : i < 0 ∨ 7 < i
  · obtain ⟨e1, e2⟩ := mk_badInst (n := n) h
    rw [e1, e2]
    clear e1 e2
    have h' : i < 0 ∨ (¬ (i < 0) ∧ 7 < i) := by omega
    clear h
    rcases h' with h | ⟨h, h3⟩
    all_goals
      go_enter Try.func10, Try.ntmps10
      go_wp2
      refine bodyPost_ret (v := .tuple #[.int .u64 0, .int .i64 1]) (by simp [results, Try.results10, go_sem]) rfl ?_
      exact ⟨rfl, rfl⟩
  · by_cases h2 : n < 1 ∨ 72057594037927936 < n
    · obtain ⟨e1, e2⟩ := mk_badCount h h2
      rw [e1, e2]
      have h3 : ¬ (i < 0) := by omega
      have h4 : ¬ (7 < i) := by omega
      clear h e1 e2
      have h' : n = 0 ∨ (((n : Int) == 0) = false ∧ (72057594037927936 : Int) < (n : Int)) := by
        by_cases hz : n = 0
        · exact .inl hz
        · exact .inr ⟨by simp; omega, by omega⟩
      clear h2
      rcases h' with rfl | ⟨h5, h6⟩
      all_goals
        go_enter Try.func10, Try.ntmps10
        go_wp2
        refine bodyPost_ret (v := .tuple #[.int .u64 0, .int .i64 11]) (by simp [results, Try.results10, go_sem]) rfl ?_
        exact ⟨rfl, rfl⟩
    · obtain ⟨e1, e2⟩ := mk_good h h2
      rw [e1, e2]
      have h3 : ¬ (i < 0) := by omega
      have h4 : ¬ (7 < i) := by omega
      have h5 : ((n : Int) == 0) = false := by simp; omega
      have h6 : ¬ ((72057594037927936 : Int) < (n : Int)) := by omega
      go_enter Try.func10, Try.ntmps10
      go_wp2
      refine bodyPost_ret (v := .tuple #[.int .u64 (16 * (n : Int) + i), .int .i64 0]) (by simp [results, Try.results10, go_sem]) rfl ?_
      exact ⟨by simp; omega, rfl⟩

theorem count_any (l : Nat) (w : World) (hl : l < 18446744073709551616) : Calls Try.prog 13 #[.int .u64 (l : Int)] w fun e w' => e = .returned (.int .u64 ((l / 16 : Nat) : Int)) ∧ w' = w := by
  go_enter Try.func13, Try.ntmps13
  go_wp2
  go_ret
  exact ⟨by simp, rfl⟩

theorem inst_any (l : Nat) (w : World) (hl : l < 18446744073709551616) : Calls Try.prog 14 #[.int .u64 (l : Int)] w fun e w' => e = .returned (.int .i64 ((l % 16 : Nat) : Int)) ∧ w' = w := by
  go_enter Try.func14, Try.ntmps14
  go_wp2
  go_ret
  exact ⟨by simp, rfl⟩

theorem valid_any (l : Nat) (w : World) (hl : l < 18446744073709551616) : Calls Try.prog 11 #[.int .u64 (l : Int)] w fun e w' => e = .returned (.bool (okL l)) ∧ w' = w := by
  have h1 := count_any l w hl
  have h2 := inst_any l w hl
  by_cases hc : l / 16 < 1 ∨ 72057594037927936 < l / 16
  · have h3 := isCount_no (l / 16) w hc
    have e : okL l = false := by simp [okL]; omega
    rw [e]
    go_enter Try.func11, Try.ntmps11
    go_wp2_with (first | (go_at_call 13; go_must (refine h1.mono ?_); rintro e w' ⟨rfl, hw⟩; obtain rfl := hw.symm) | (go_at_call 24; go_must (refine h3.mono ?_); rintro e w' ⟨rfl, hw⟩; obtain rfl := hw.symm))
    go_ret
    exact ⟨rfl, rfl⟩
  · have h3 := isCount_yes (l / 16) w (by omega) (by omega)
    by_cases hi : l % 16 < 8
    · have h4 := isInst_yes ((l % 16 : Nat) : Int) w (by omega) (by omega)
      have e : okL l = true := by simp [okL]; omega
      rw [e]
      clear hc hi e
      go_enter Try.func11, Try.ntmps11
      go_wp2_with (first | (go_at_call 13; go_must (refine h1.mono ?_); rintro e w' ⟨rfl, hw⟩; obtain rfl := hw.symm) | (go_at_call 24; go_must (refine h3.mono ?_); rintro e w' ⟨rfl, hw⟩; obtain rfl := hw.symm) | (go_at_call 14; go_must (refine h2.mono ?_); rintro e w' ⟨rfl, hw⟩; obtain rfl := hw.symm) | (go_at_call 23; go_must (refine h4.mono ?_); rintro e w' ⟨rfl, hw⟩; obtain rfl := hw.symm))
      go_ret
      exact ⟨rfl, rfl⟩
    · have h4 := isInst_no ((l % 16 : Nat) : Int) w (by omega)
      have e : okL l = false := by simp [okL]; omega
      rw [e]
      clear hc hi e
      go_enter Try.func11, Try.ntmps11
      go_wp2_with (first | (go_at_call 13; go_must (refine h1.mono ?_); rintro e w' ⟨rfl, hw⟩; obtain rfl := hw.symm) | (go_at_call 24; go_must (refine h3.mono ?_); rintro e w' ⟨rfl, hw⟩; obtain rfl := hw.symm) | (go_at_call 14; go_must (refine h2.mono ?_); rintro e w' ⟨rfl, hw⟩; obtain rfl := hw.symm) | (go_at_call 23; go_must (refine h4.mono ?_); rintro e w' ⟨rfl, hw⟩; obtain rfl := hw.symm))
      go_ret
      exact ⟨rfl, rfl⟩

theorem refvalid_any (l : Nat) (w : World) (hl : l < 18446744073709551616) : Calls Try.prog 12 #[.int .u64 (l : Int)] w fun e w' => e = .returned (.bool (okL l)) ∧ w' = w := by
  by_cases hc : 1 ≤ l / 16
  · have h1 : (1 : Int) ≤ (l : Int) / 16 := by omega
    by_cases hd : l / 16 ≤ 72057594037927936
    · have h2 : (l : Int) / 16 ≤ 72057594037927936 := by omega
      have e : okL l = decide ((l : Int) % 16 < 8) := by
        unfold okL
        congr 1
        exact propext ⟨fun h => by omega, fun h => ⟨hc, hd, by omega⟩⟩
      rw [e]
      clear hc hd e
      go_enter Try.func12, Try.ntmps12
      go_wp2
      go_ret
      exact ⟨rfl, rfl⟩
    · have h2 : ¬ ((l : Int) / 16 ≤ 72057594037927936) := by omega
      have e : okL l = false := by simp [okL]; omega
      rw [e]
      clear hc hd e
      go_enter Try.func12, Try.ntmps12
      go_wp2
      go_ret
      exact ⟨rfl, rfl⟩
  · have h1 : ¬ ((1 : Int) ≤ (l : Int) / 16) := by omega
    have e : okL l = false := by simp [okL]; omega
    rw [e]
    clear hc e
    go_enter Try.func12, Try.ntmps12
    go_wp2
    go_ret
    exact ⟨rfl, rfl⟩

/-- A clock's count behind a number that it saw. -/
def seeN (c l : Nat) : Nat := if okL l = true then max c (l / 16) else c

theorem refsee_any (c l : Nat) (w : World) (hl : l < 18446744073709551616) : Calls Try.prog 22 #[.int .u64 (c : Int), .int .u64 (l : Int)] w fun e w' => e = .returned (.int .u64 ((seeN c l : Nat) : Int)) ∧ w' = w := by
  have h := refvalid_any l w hl
  cases hv : okL l with
  | false =>
    have e : seeN c l = c := by simp [seeN, hv]
    rw [e]
    rw [hv] at h
    go_enter Try.func22, Try.ntmps22
    go_wp2_with (go_at_call 12; go_must (refine h.mono ?_); rintro e w' ⟨rfl, hw⟩; obtain rfl := hw.symm)
    go_ret
    exact ⟨rfl, rfl⟩
  | true =>
    rw [hv] at h
    by_cases hg : c < l / 16
    · have e : seeN c l = l / 16 := by simp [seeN, hv]; omega
      rw [e]
      have hg' : (c : Int) < (l : Int) / 16 := by omega
      clear e hg
      go_enter Try.func22, Try.ntmps22
      go_wp2_with (go_at_call 12; go_must (refine h.mono ?_); rintro e w' ⟨rfl, hw⟩; obtain rfl := hw.symm)
      go_ret
      exact ⟨by simp, rfl⟩
    · have e : seeN c l = c := by simp [seeN, hv]; omega
      rw [e]
      have hg' : ¬ ((c : Int) < (l : Int) / 16) := by omega
      clear e hg
      go_enter Try.func22, Try.ntmps22
      go_wp2_with (go_at_call 12; go_must (refine h.mono ?_); rintro e w' ⟨rfl, hw⟩; obtain rfl := hw.symm)
      go_ret
      exact ⟨rfl, rfl⟩
end Go.Proofs.Ytflemjdeciekeaa
