/-
  The walk of the document's Join; lives.
-/
import Derived.Test.YticgonloglkooaaRe
namespace Go.Proofs.Yticgonloglkooaa
open Go.RowKit

theorem cov_early (k x y : Nat) (hx : x < 6) (hy : y < 6) (h : k < joinN x y) : covB k x = false ∨ (covB k x = true ∧ covB k y = false) := by
  have hd : ∀ x : Fin 6, ∀ y : Fin 6, ∀ k : Fin 6, k.val < joinN x.val y.val → covB k.val x.val = false ∨ (covB k.val x.val = true ∧ covB k.val y.val = false) := by decide
  have := joinN_lt x y hx hy
  exact hd ⟨x, hx⟩ ⟨y, hy⟩ ⟨k, by omega⟩ h

theorem cov_there (x y : Nat) (hx : x < 6) (hy : y < 6) : covB (joinN x y) x = true ∧ covB (joinN x y) y = true := by
  have hd : ∀ x : Fin 6, ∀ y : Fin 6, covB (joinN x.val y.val) x.val = true ∧ covB (joinN x.val y.val) y.val = true := by decide
  exact hd ⟨x, hx⟩ ⟨y, hy⟩

theorem cnt_nat (k : Nat) (h : k < 6) : cnt (k : Int) = k := by unfold cnt; rw [if_pos (by omega)]; omega

theorem refjoin_any (a b : Int) (w : World) : Calls Try.prog 13 #[.int .i64 a, .int .i64 b] w fun e w' => e = .returned (.int .i64 ((joinN (cnt a) (cnt b) : Nat) : Int)) ∧ w' = w := by
  have hA := cov_early
  have hx := cnt_lt a
  have hy := cnt_lt b
  have H1 : Hid (∀ k : Nat, k < 6 → ∀ W, Calls Try.prog 15 #[.int .i64 (k : Int), .int .i64 a] W fun e w' => e = .returned (.bool (covB k (cnt a))) ∧ w' = W) := by
    show ∀ _, _
    intro k hk W
    have := refcovers_any (k : Int) a W
    rw [cnt_nat k hk] at this
    exact this
  have H2 : Hid (∀ k : Nat, k < 6 → ∀ W, Calls Try.prog 15 #[.int .i64 (k : Int), .int .i64 b] W fun e w' => e = .returned (.bool (covB k (cnt b))) ∧ w' = W) := by
    show ∀ _, _
    intro k hk W
    have := refcovers_any (k : Int) b W
    rw [cnt_nat k hk] at this
    exact this
  have HE : Hid (∀ k, k < joinN (cnt a) (cnt b) → covB k (cnt a) = false ∨ (covB k (cnt a) = true ∧ covB k (cnt b) = false)) := fun k h => cov_early k _ _ hx hy h
  have HT : Hid (covB (joinN (cnt a) (cnt b)) (cnt a) = true ∧ covB (joinN (cnt a) (cnt b)) (cnt b) = true) := cov_there _ _ hx hy
  have hJ := joinN_lt _ _ hx hy
  clear hA hx hy
  generalize joinN (cnt a) (cnt b) = J at *
  generalize cnt a = x at *
  generalize cnt b = y at *
  go_enter Try.func13, Try.ntmps13
  go_wp2
  go_loop [5] (fun m => ∃ k : Nat, k ≤ J ∧ m = .int .i64 k) (fun m => 6 - (intOf m).toNat)
  case atStart => exact ⟨0, by omega, rfl⟩
  case round =>
    obtain ⟨k, hk, rfl⟩ := hrel
    by_cases h5 : k < 5
    · have h1 := H1.out k (by omega)
      have h2 := H2.out k (by omega)
      by_cases hkJ : k = J
      · subst hkJ
        rw [HT.out.1] at h1
        rw [HT.out.2] at h2
        go_wp2_with fail
        refine (h1 _).mono ?_
        rintro e w1 ⟨rfl, hw⟩
        obtain rfl := hw.symm
        go_wp2_with fail
        refine (h2 _).mono ?_
        rintro e w1 ⟨rfl, hw⟩
        obtain rfl := hw.symm
        go_wp2
        go_ret
        exact ⟨rfl, rfl⟩
      · rcases HE.out k (by omega) with h3 | ⟨h3, h4⟩
        · rw [h3] at h1
          clear h3
          go_wp2_with fail
          refine (h1 _).mono ?_
          rintro e w1 ⟨rfl, hw⟩
          obtain rfl := hw.symm
          go_wp2
          go_round
          case rel => exact ⟨k + 1, by omega, by go_num⟩
          case measure => simp [intOf]; omega
        · rw [h3] at h1
          rw [h4] at h2
          clear h3 h4
          go_wp2_with fail
          refine (h1 _).mono ?_
          rintro e w1 ⟨rfl, hw⟩
          obtain rfl := hw.symm
          go_wp2_with fail
          refine (h2 _).mono ?_
          rintro e w1 ⟨rfl, hw⟩
          obtain rfl := hw.symm
          go_wp2
          go_round
          case rel => exact ⟨k + 1, by omega, by go_num⟩
          case measure => simp [intOf]; omega
    · obtain rfl : J = 5 := by omega
      obtain rfl : k = 5 := by omega
      go_wp2
      go_ret
      exact ⟨rfl, rfl⟩

theorem lives_any (w : World) : Calls Try.prog 18 #[] w fun e w' => e = .returned (.bool true) ∧ Below w.heap.size w w' := by
  have h1 := fun W => join_any 2 3 W
  have h2 := fun W => beside_any 2 3 W
  have h3 := fun W => intent_any 3 W
  rw [show joinN (cnt 2) (cnt 3) = 4 from rfl] at h1
  rw [show besB (cnt 2) (cnt 3) = false from rfl] at h2
  rw [show intN (cnt 3) = 1 from rfl] at h3
  go_enter Try.func18, Try.ntmps18
  go_wp2_with fail
  refine (h1 _).mono ?_
  rintro e w1 ⟨rfl, hb1⟩
  go_wp2_with fail
  refine (h2 _).mono ?_
  rintro e w2 ⟨rfl, hb2⟩
  go_wp2_with fail
  refine (h3 _).mono ?_
  rintro e w3 ⟨rfl, hw⟩
  obtain rfl := hw.symm
  go_wp2
  go_ret
  exact ⟨rfl, below_next hb1 hb2⟩
end Go.Proofs.Yticgonloglkooaa
