/-
  The walks of ModeTells and ModeTurned.
-/
import Derived.Test.YticgonloglkooaaRj
namespace Go.Proofs.Yticgonloglkooaa
open Go.RowKit

set_option maxHeartbeats 2000000 in
theorem tells_walk (a b : Int) (w : World) :
    Calls Try.prog 3 #[.int .i64 a, .int .i64 b] w fun e w' => e = .returned (.bool true) ∧ Below w.heap.size w w' := by
  have h9 := known_any a
  have h10 := beside_any a b
  have h11 := refbeside_any a b
  have h12 := join_any a b
  have h13 := refjoin_any a b
  have h14 := covers_any a b
  have h15 := refcovers_any a b
  have h16 := intent_any a
  have h17 := refintent_any a
  have hk : (knB a = true ∧ 0 ≤ a ∧ a ≤ 5) ∨ (knB a = false ∧ ¬ (0 ≤ a)) ∨ (knB a = false ∧ 0 ≤ a ∧ decide (a ≤ 5) = false) := by
    by_cases h : 0 ≤ a ∧ a ≤ 5
    · exact .inl ⟨by simp [knB]; omega, h.1, h.2⟩
    · by_cases h0 : 0 ≤ a
      · exact .inr (.inr ⟨by simp [knB]; omega, h0, by simp; omega⟩)
      · exact .inr (.inl ⟨by simp [knB]; omega, h0⟩)
  generalize besB (cnt a) (cnt b) = b1 at *
  generalize joinN (cnt a) (cnt b) = J at *
  generalize covB (cnt a) (cnt b) = b2 at *
  generalize intN (cnt a) = N at *
  rcases hk with ⟨hk, k1, k2⟩ | ⟨hk, k1⟩ | ⟨hk, k1, k2⟩
  all_goals
    rw [hk] at h9
    clear hk
    go_enter Try.func3, Try.ntmps3
    go_wp2_with (first | (go_at_call 9; go_must (refine (h9 _).mono ?_); rintro e w' ⟨rfl, hw⟩; obtain rfl := hw.symm) | (go_at_call 10; go_must (refine (h10 _).mono ?_); rintro e w1 ⟨rfl, hb1⟩) | (go_at_call 11; go_must (refine (h11 _).mono ?_); rintro e w' ⟨rfl, hw⟩; obtain rfl := hw.symm) | (go_at_call 12; go_must (refine (h12 _).mono ?_); rintro e w2 ⟨rfl, hb2⟩) | (go_at_call 13; go_must (refine (h13 _).mono ?_); rintro e w' ⟨rfl, hw⟩; obtain rfl := hw.symm) | (go_at_call 14; go_must (refine (h14 _).mono ?_); rintro e w3 ⟨rfl, hb3⟩) | (go_at_call 15; go_must (refine (h15 _).mono ?_); rintro e w' ⟨rfl, hw⟩; obtain rfl := hw.symm) | (go_at_call 16; go_must (refine (h16 _).mono ?_); rintro e w' ⟨rfl, hw⟩; obtain rfl := hw.symm) | (go_at_call 17; go_must (refine (h17 _).mono ?_); rintro e w' ⟨rfl, hw⟩; obtain rfl := hw.symm) | (go_at_call 18; go_must (refine (lives_any _).mono ?_); rintro e w4 ⟨rfl, hb4⟩))
    go_ret
    exact ⟨rfl, below_next (below_next (below_next hb1 hb2) hb3) hb4⟩

theorem bes_turn (x y : Nat) (hx : x < 6) (hy : y < 6) : besB y x = besB x y := by
  have hd : ∀ x : Fin 6, ∀ y : Fin 6, besB y.val x.val = besB x.val y.val := by decide
  exact hd ⟨x, hx⟩ ⟨y, hy⟩
theorem join_turn (x y : Nat) (hx : x < 6) (hy : y < 6) : joinN y x = joinN x y := by
  have hd : ∀ x : Fin 6, ∀ y : Fin 6, joinN y.val x.val = joinN x.val y.val := by decide
  exact hd ⟨x, hx⟩ ⟨y, hy⟩
theorem join_self (x : Nat) : joinN x x = x := by unfold joinN; rw [if_neg (by omega)]; omega
theorem join_none (x : Nat) : joinN x 0 = x := by unfold joinN; rw [if_neg (by omega)]; omega

set_option maxHeartbeats 2000000 in
theorem turned_walk (a b : Int) (w : World) :
    Calls Try.prog 6 #[.int .i64 a, .int .i64 b] w fun e w' => e = .returned (.bool true) ∧ Below w.heap.size w w' := by
  have h9 := known_any a
  have h10 := beside_any a b
  have h10' := beside_any b a
  have h12 := join_any a b
  have h12' := join_any b a
  have h12s := join_any a a
  have h12n := join_any a 0
  rw [bes_turn _ _ (cnt_lt a) (cnt_lt b)] at h10'
  rw [join_turn _ _ (cnt_lt a) (cnt_lt b)] at h12'
  rw [join_self] at h12s
  rw [show cnt 0 = 0 from rfl, join_none] at h12n
  have hk : (knB a = true ∧ ((cnt a : Nat) : Int) = a) ∨ knB a = false := by
    by_cases h : 0 ≤ a ∧ a < 6
    · exact .inl ⟨by simp [knB]; omega, cnt_yes h.1 h.2⟩
    · exact .inr (by simp [knB]; omega)
  generalize besB (cnt a) (cnt b) = b1 at *
  generalize joinN (cnt a) (cnt b) = J at *
  rcases hk with ⟨hk, hc⟩ | hk
  · rw [hk] at h9
    rw [hc] at h12s h12n
    clear hk hc
    go_enter Try.func6, Try.ntmps6
    go_wp2_with fail
    refine (h10 _).mono ?_
    rintro e w1 ⟨rfl, hb1⟩
    go_wp2_with fail
    refine (h10' _).mono ?_
    rintro e w2 ⟨rfl, hb2⟩
    go_wp2_with fail
    refine (h12 _).mono ?_
    rintro e w3 ⟨rfl, hb3⟩
    go_wp2_with fail
    refine (h12' _).mono ?_
    rintro e w4 ⟨rfl, hb4⟩
    go_wp2_with (go_at_call 9; go_must (refine (h9 _).mono ?_); rintro e w' ⟨rfl, hw⟩; obtain rfl := hw.symm)
    refine (h12s _).mono ?_
    rintro e w5 ⟨rfl, hb5⟩
    go_wp2_with fail
    refine (h12n _).mono ?_
    rintro e w6 ⟨rfl, hb6⟩
    go_wp2_with (go_at_call 18; go_must (refine (lives_any _).mono ?_); rintro e w7 ⟨rfl, hb7⟩)
    go_ret
    exact ⟨rfl, below_next (below_next (below_next (below_next (below_next (below_next hb1 hb2) hb3) hb4) hb5) hb6) hb7⟩
  · rw [hk] at h9
    clear hk
    go_enter Try.func6, Try.ntmps6
    go_wp2_with fail
    refine (h10 _).mono ?_
    rintro e w1 ⟨rfl, hb1⟩
    go_wp2_with fail
    refine (h10' _).mono ?_
    rintro e w2 ⟨rfl, hb2⟩
    go_wp2_with fail
    refine (h12 _).mono ?_
    rintro e w3 ⟨rfl, hb3⟩
    go_wp2_with fail
    refine (h12' _).mono ?_
    rintro e w4 ⟨rfl, hb4⟩
    go_wp2_with (first | (go_at_call 9; go_must (refine (h9 _).mono ?_); rintro e w' ⟨rfl, hw⟩; obtain rfl := hw.symm) | (go_at_call 18; go_must (refine (lives_any _).mono ?_); rintro e w7 ⟨rfl, hb7⟩))
    go_ret
    exact ⟨rfl, below_next (below_next (below_next (below_next hb1 hb2) hb3) hb4) hb7⟩
end Go.Proofs.Yticgonloglkooaa
