/-
  The walks of Intent, lives and ModeAbove.
-/
import Derived.Test.YticgonloglkooabJo
namespace Go.Proofs.Yticgonloglkooab
open Go.RowKit

/-- What is needed above. -/
def intN (x : Nat) : Nat := if x = 0 then 0 else if x = 1 ∨ x = 3 then 1 else 2

theorem six_of {x : Nat} (h : x < 6) : x = 0 ∨ x = 1 ∨ x = 2 ∨ x = 3 ∨ x = 4 ∨ x = 5 := by omega
theorem below_next {w w1 w2 : World} (h : Below w.heap.size w w1) (h2 : Below w1.heap.size w1 w2) : Below w.heap.size w w2 := h.trans (h2.mono h.size)
theorem cnt_nat (k : Nat) (h : k < 6) : cnt (k : Int) = k := by unfold cnt; rw [if_pos (by omega)]; omega

theorem intent_any (a : Int) (w : World) : Calls Try.prog 5 #[.int .i64 a] w fun e w' => e = .returned (.int .i64 ((intN (cnt a) : Nat) : Int)) ∧ w' = w := by
  have h1 := counted_any a w
  have hx := cnt_lt a
  generalize cnt a = x at *
  obtain rfl | rfl | rfl | rfl | rfl | rfl := six_of hx
  all_goals
    clear hx
    go_enter Try.func5, Try.ntmps5
    go_wp2_with (go_at_call 9; go_must (refine h1.mono ?_); rintro e w' ⟨rfl, hw⟩; obtain rfl := hw.symm)
    go_ret
    exact ⟨rfl, rfl⟩

theorem lives_any (w : World) : Calls Try.prog 7 #[] w fun e w' => e = .returned (.bool true) ∧ Below w.heap.size w w' := by
  have h1 := fun W => join_any 2 3 W
  have h2 := fun W => beside_any 2 3 W
  have h3 := fun W => intent_any 3 W
  rw [show joinN (cnt 2) (cnt 3) = 4 from rfl] at h1
  rw [show besB (cnt 2) (cnt 3) = false from rfl] at h2
  rw [show intN (cnt 3) = 1 from rfl] at h3
  go_enter Try.func7, Try.ntmps7
  go_wp2_with fail
  refine (h1 _).mono ?_
  rintro e w1 ⟨rfl, hb1⟩
  go_wp2_with fail
  refine (h2 _).mono ?_
  rintro e w2 ⟨rfl, hb2⟩
  go_wp2_with fail
  refine (h3 _).mono ?_
  rintro e w3 ⟨rfl, hw⟩
  obtain rfl := hw.symm
  go_wp2
  go_ret
  exact ⟨rfl, below_next hb1 hb2⟩

theorem intN_le (x : Nat) : intN x ≤ 2 := by
  unfold intN
  split
  · omega
  · split <;> omega
theorem bes_above (p q : Nat) (hp : p ≤ 2) (hq : q ≤ 2) : besB p q = true := by
  have hd : ∀ p : Fin 3, ∀ q : Fin 3, besB p.val q.val = true := by decide
  exact hd ⟨p, by omega⟩ ⟨q, by omega⟩
theorem intN_other (a : Int) (h0 : a ≠ 0) (h1 : a ≠ 1) (h3 : a ≠ 3) : intN (cnt a) = 2 := by
  have : cnt a ≠ 0 ∧ cnt a ≠ 1 ∧ cnt a ≠ 3 := by
    unfold cnt
    split <;> omega
  unfold intN
  rw [if_neg this.1, if_neg (by omega)]

set_option maxHeartbeats 4000000 in
theorem above_walk (a b : Int) (w : World) :
    Calls Try.prog 3 #[.int .i64 a, .int .i64 b] w fun e w' => e = .returned (.bool true) ∧ Below w.heap.size w w' := by
  have h1 := intent_any a
  have h2 := intent_any b
  have h3 := beside_any ((intN (cnt a) : Nat) : Int) ((intN (cnt b) : Nat) : Int)
  have h4 := beside_any 3 ((intN (cnt a) : Nat) : Int)
  have h5 := join_any ((intN (cnt a) : Nat) : Int) 1
  have hp := intN_le (cnt a)
  have hq := intN_le (cnt b)
  rw [cnt_nat _ (by omega : intN (cnt a) < 6), cnt_nat _ (by omega : intN (cnt b) < 6), bes_above _ _ hp hq] at h3
  have hc : (a = 0 ∧ intN (cnt a) = 0) ∨ (a = 1 ∧ intN (cnt a) = 1) ∨ (a = 3 ∧ intN (cnt a) = 1) ∨ ((a == 0) = false ∧ (a == 1) = false ∧ (a == 3) = false ∧ intN (cnt a) = 2) := by
    by_cases e0 : a = 0
    · subst e0
      exact .inl ⟨rfl, rfl⟩
    · by_cases e1 : a = 1
      · subst e1
        exact .inr (.inl ⟨rfl, rfl⟩)
      · by_cases e3 : a = 3
        · subst e3
          exact .inr (.inr (.inl ⟨rfl, rfl⟩))
        · exact .inr (.inr (.inr ⟨by simp [e0], by simp [e1], by simp [e3], intN_other a e0 e1 e3⟩))
  clear hp hq
  generalize intN (cnt a) = P at *
  generalize intN (cnt b) = Q at *
  obtain ⟨k1, k2, k3, J, r, hJ, hr, hs, hk⟩ : ∃ (k1 k2 k3 : Bool) (J : Nat) (r : Bool), joinN (cnt ((P : Nat) : Int)) (cnt 1) = J ∧ besB (cnt 3) (cnt ((P : Nat) : Int)) = r ∧ besB (cnt 5) (cnt ((J : Nat) : Int)) = false ∧ ((a = 0 ∧ r = true) ∨ (a = 1 ∧ r = true) ∨ (a = 3 ∧ r = true) ∨ ((a == 0) = false ∧ (a == 1) = false ∧ (a == 3) = false ∧ r = false)) := by
    rcases hc with ⟨e, rfl⟩ | ⟨e, rfl⟩ | ⟨e, rfl⟩ | ⟨e0, e1, e3, rfl⟩
    · exact ⟨true, true, true, 1, true, rfl, rfl, rfl, .inl ⟨e, rfl⟩⟩
    · exact ⟨true, true, true, 1, true, rfl, rfl, rfl, .inr (.inl ⟨e, rfl⟩)⟩
    · exact ⟨true, true, true, 1, true, rfl, rfl, rfl, .inr (.inr (.inl ⟨e, rfl⟩))⟩
    · exact ⟨true, true, true, 2, false, rfl, rfl, rfl, .inr (.inr (.inr ⟨e0, e1, e3, rfl⟩))⟩
  clear k1 k2 k3 hc
  have h6 := beside_any 5 ((J : Nat) : Int)
  rw [hJ] at h5
  rw [hr] at h4
  rw [hs] at h6
  clear hJ hr hs
  rcases hk with ⟨rfl, rfl⟩ | ⟨rfl, rfl⟩ | ⟨rfl, rfl⟩ | ⟨e0, e1, e3, rfl⟩
  all_goals
    go_enter Try.func3, Try.ntmps3
    go_wp2_with fail
    refine (h1 _).mono ?_
    rintro e w0 ⟨rfl, hw⟩
    obtain rfl := hw.symm
    go_wp2_with fail
    refine (h2 _).mono ?_
    rintro e w0 ⟨rfl, hw⟩
    obtain rfl := hw.symm
    go_wp2_with fail
    refine (h3 _).mono ?_
    rintro e w1 ⟨rfl, hb1⟩
    go_wp2_with fail
    refine (h1 _).mono ?_
    rintro e w0 ⟨rfl, hw⟩
    obtain rfl := hw.symm
    go_wp2_with fail
    refine (h4 _).mono ?_
    rintro e w2 ⟨rfl, hb2⟩
    go_wp2_with fail
    refine (h1 _).mono ?_
    rintro e w0 ⟨rfl, hw⟩
    obtain rfl := hw.symm
    go_wp2_with fail
    refine (h5 _).mono ?_
    rintro e w3 ⟨rfl, hb3⟩
    go_wp2_with fail
    refine (h6 _).mono ?_
    rintro e w4 ⟨rfl, hb4⟩
    go_wp2_with (go_at_call 7; go_must (refine (lives_any _).mono ?_); rintro e w5 ⟨rfl, hb5⟩)
    go_ret
    exact ⟨rfl, below_next (below_next (below_next (below_next hb1 hb2) hb3) hb4) hb5⟩
end Go.Proofs.Yticgonloglkooab
