/-
  The walks of LsnMakes and LsnOrder.
-/
import Derived.Test.YtflemjdeciekeaaTi
namespace Go.Proofs.Ytflemjdeciekeaa
open Go.RowKit

theorem makes_walk (n : Nat) (i : Int) (l : Nat) (w : World) (hl : l < 18446744073709551616) :
    Calls Try.prog 3 #[.int .u64 (n : Int), .int .i64 i, .int .u64 (l : Int)] w fun e w' => e = .returned (.bool true) ∧ Below w.heap.size w w' := by
  have h1 := make_any n i w
  have h2 := refmake_any n i w
  have h3 := valid_any l w hl
  have h4 := refvalid_any l w hl
  have h5 := count_any l w hl
  have h6 := inst_any l w hl
  generalize mkL n i = x at *
  generalize mkE n i = y at *
  generalize okL l = b at *
  go_enter Try.func3, Try.ntmps3
  go_wp2_with (first | (go_at_call 9; go_must (refine h1.mono ?_); rintro e w' ⟨rfl, hw⟩; obtain rfl := hw.symm) | (go_at_call 10; go_must (refine h2.mono ?_); rintro e w' ⟨rfl, hw⟩; obtain rfl := hw.symm) | (go_at_call 11; go_must (refine h3.mono ?_); rintro e w' ⟨rfl, hw⟩; obtain rfl := hw.symm) | (go_at_call 12; go_must (refine h4.mono ?_); rintro e w' ⟨rfl, hw⟩; obtain rfl := hw.symm) | (go_at_call 13; go_must (refine h5.mono ?_); rintro e w' ⟨rfl, hw⟩; obtain rfl := hw.symm) | (go_at_call 14; go_must (refine h6.mono ?_); rintro e w' ⟨rfl, hw⟩; obtain rfl := hw.symm) | (go_at_call 15; go_must (refine (lives_any _).mono ?_); rintro e w' ⟨rfl, hb⟩))
  go_ret
  exact ⟨rfl, hb⟩

theorem mk_err {n : Nat} {i : Int} (h : mkE n i ≠ 0) : mkL n i = 0 := by
  by_cases h1 : i < 0 ∨ 7 < i
  · exact (mk_badInst h1).1
  · by_cases h2 : n < 1 ∨ 72057594037927936 < n
    · exact (mk_badCount h1 h2).1
    · exact absurd (mk_good h1 h2).2 h

theorem mk_ok {n : Nat} {i : Int} (h : mkE n i = 0) : mkL n i = 16 * n + i.toNat ∧ 1 ≤ n ∧ n ≤ 72057594037927936 ∧ 0 ≤ i ∧ i ≤ 7 := by
  by_cases h1 : i < 0 ∨ 7 < i
  · have := (mk_badInst (n := n) h1).2
    omega
  · by_cases h2 : n < 1 ∨ 72057594037927936 < n
    · have := (mk_badCount h1 h2).2
      omega
    · exact ⟨(mk_good h1 h2).1, by omega, by omega, by omega, by omega⟩

set_option maxHeartbeats 4000000 in
theorem order_walk (c d : Nat) (i k : Int) (w : World) :
    Calls Try.prog 8 #[.int .u64 (c : Int), .int .u64 (d : Int), .int .i64 i, .int .i64 k] w fun e w' => e = .returned (.bool true) ∧ Below w.heap.size w w' := by
  have h1 := make_any c i w
  have h2 := make_any d k w
  by_cases he : mkE c i = 0
  · by_cases hf : mkE d k = 0
    · obtain ⟨e1, a1, a2, a3, a4⟩ := mk_ok he
      obtain ⟨e2, b1, b2, b3, b4⟩ := mk_ok hf
      rw [he, e1] at h1
      rw [hf, e2] at h2
      have h3 := count_any (16 * c + i.toNat) w (by omega)
      have h4 := inst_any (16 * d + k.toNat) w (by omega)
      rw [show (16 * c + i.toNat) / 16 = c by omega] at h3
      rw [show (((16 * d + k.toNat) % 16 : Nat) : Int) = k by omega] at h4
      have hcmp : (c < d ∧ 16 * c + i.toNat < 16 * d + k.toNat) ∨ (c = d ∧ i < k ∧ 16 * c + i.toNat < 16 * d + k.toNat) ∨ (c = d ∧ ¬ i < k ∧ ¬ (16 * c + i.toNat < 16 * d + k.toNat)) ∨ (¬ c < d ∧ c ≠ d ∧ ¬ (16 * c + i.toNat < 16 * d + k.toNat)) := by omega
      generalize 16 * c + i.toNat = x at *
      generalize 16 * d + k.toNat = y at *
      clear e1 e2 a1 a2 a3 a4 b1 b2 b3 b4 he hf
      rcases hcmp with ⟨g1, g2⟩ | ⟨rfl, g1, g2⟩ | ⟨rfl, g1, g2⟩ | ⟨g1, g2, g3⟩
      · have g3 : (c : Int) < (d : Int) := by omega
        have g4 : (x : Int) < (y : Int) := by omega
        clear g1 g2
        go_enter Try.func8, Try.ntmps8
        go_wp2_with fail
        refine h1.mono ?_
        rintro e w0 ⟨rfl, hw⟩
        obtain rfl := hw.symm
        go_wp2_with fail
        refine h2.mono ?_
        rintro e w0 ⟨rfl, hw⟩
        obtain rfl := hw.symm
        go_wp2_with (first | (go_at_call 13; go_must (refine h3.mono ?_); rintro e w' ⟨rfl, hw⟩; obtain rfl := hw.symm) | (go_at_call 14; go_must (refine h4.mono ?_); rintro e w' ⟨rfl, hw⟩; obtain rfl := hw.symm) | (go_at_call 15; go_must (refine (lives_any _).mono ?_); rintro e w' ⟨rfl, hb⟩))
        go_ret
        exact ⟨rfl, hb⟩
      · have g4 : (x : Int) < (y : Int) := by omega
        clear g2
        go_enter Try.func8, Try.ntmps8
        go_wp2_with fail
        refine h1.mono ?_
        rintro e w0 ⟨rfl, hw⟩
        obtain rfl := hw.symm
        go_wp2_with fail
        refine h2.mono ?_
        rintro e w0 ⟨rfl, hw⟩
        obtain rfl := hw.symm
        go_wp2_with (first | (go_at_call 13; go_must (refine h3.mono ?_); rintro e w' ⟨rfl, hw⟩; obtain rfl := hw.symm) | (go_at_call 14; go_must (refine h4.mono ?_); rintro e w' ⟨rfl, hw⟩; obtain rfl := hw.symm) | (go_at_call 15; go_must (refine (lives_any _).mono ?_); rintro e w' ⟨rfl, hb⟩))
        go_ret
        exact ⟨rfl, hb⟩
      · have g4 : ¬ ((x : Int) < (y : Int)) := by omega
        clear g2
        go_enter Try.func8, Try.ntmps8
        go_wp2_with fail
        refine h1.mono ?_
        rintro e w0 ⟨rfl, hw⟩
        obtain rfl := hw.symm
        go_wp2_with fail
        refine h2.mono ?_
        rintro e w0 ⟨rfl, hw⟩
        obtain rfl := hw.symm
        go_wp2_with (first | (go_at_call 13; go_must (refine h3.mono ?_); rintro e w' ⟨rfl, hw⟩; obtain rfl := hw.symm) | (go_at_call 14; go_must (refine h4.mono ?_); rintro e w' ⟨rfl, hw⟩; obtain rfl := hw.symm) | (go_at_call 15; go_must (refine (lives_any _).mono ?_); rintro e w' ⟨rfl, hb⟩))
        go_ret
        exact ⟨rfl, hb⟩
      · have g5 : ¬ ((x : Int) < (y : Int)) := by omega
        have g6 : ¬ ((c : Int) < (d : Int)) := by omega
        have g7 : ((c : Int) == (d : Int)) = false := by simp; omega
        clear g1 g2 g3
        go_enter Try.func8, Try.ntmps8
        go_wp2_with fail
        refine h1.mono ?_
        rintro e w0 ⟨rfl, hw⟩
        obtain rfl := hw.symm
        go_wp2_with fail
        refine h2.mono ?_
        rintro e w0 ⟨rfl, hw⟩
        obtain rfl := hw.symm
        go_wp2_with (first | (go_at_call 13; go_must (refine h3.mono ?_); rintro e w' ⟨rfl, hw⟩; obtain rfl := hw.symm) | (go_at_call 14; go_must (refine h4.mono ?_); rintro e w' ⟨rfl, hw⟩; obtain rfl := hw.symm) | (go_at_call 15; go_must (refine (lives_any _).mono ?_); rintro e w' ⟨rfl, hb⟩))
        go_ret
        exact ⟨rfl, hb⟩
    · have e2 := mk_err hf
      rw [he] at h1
      rw [e2] at h2
      have g1 : (mkE d k == 0) = false := by simp [hf]
      have g2 : (mkE d k != 0) = true := by simp [hf]
      generalize mkE d k = y at *
      generalize mkL c i = x at *
      clear he hf e2
      go_enter Try.func8, Try.ntmps8
      go_wp2_with fail
      refine h1.mono ?_
      rintro e w0 ⟨rfl, hw⟩
      obtain rfl := hw.symm
      go_wp2_with fail
      refine h2.mono ?_
      rintro e w0 ⟨rfl, hw⟩
      obtain rfl := hw.symm
      go_wp2_with (first | (go_at_call 15; go_must (refine (lives_any _).mono ?_); rintro e w' ⟨rfl, hb⟩))
      go_ret
      exact ⟨rfl, hb⟩
  · have e1 := mk_err he
    rw [e1] at h1
    have g1 : (mkE c i == 0) = false := by simp [he]
    have g2 : (mkE c i != 0) = true := by simp [he]
    generalize mkE c i = x at *
    clear e1 he
    by_cases hf : mkE d k = 0
    · rw [hf] at h2
      clear hf
      generalize mkL d k = y at *
      go_enter Try.func8, Try.ntmps8
      go_wp2_with fail
      refine h1.mono ?_
      rintro e w0 ⟨rfl, hw⟩
      obtain rfl := hw.symm
      go_wp2_with fail
      refine h2.mono ?_
      rintro e w0 ⟨rfl, hw⟩
      obtain rfl := hw.symm
      go_wp2_with (first | (go_at_call 15; go_must (refine (lives_any _).mono ?_); rintro e w' ⟨rfl, hb⟩))
      go_ret
      exact ⟨rfl, hb⟩
    · have e2 := mk_err hf
      rw [e2] at h2
      have g3 : (mkE d k == 0) = false := by simp [hf]
      generalize mkE d k = y at *
      clear hf e2
      go_enter Try.func8, Try.ntmps8
      go_wp2_with fail
      refine h1.mono ?_
      rintro e w0 ⟨rfl, hw⟩
      obtain rfl := hw.symm
      go_wp2_with fail
      refine h2.mono ?_
      rintro e w0 ⟨rfl, hw⟩
      obtain rfl := hw.symm
      go_wp2_with (first | (go_at_call 15; go_must (refine (lives_any _).mono ?_); rintro e w' ⟨rfl, hb⟩))
      go_ret
      exact ⟨rfl, hb⟩
end Go.Proofs.Ytflemjdeciekeaa
