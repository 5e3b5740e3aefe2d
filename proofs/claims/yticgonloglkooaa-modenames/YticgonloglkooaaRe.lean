/-
  The walks of Covers and Intent, and of the document's Sure, Beside, Covers, Join and Intent; lives.
-/
import Derived.Test.YticgonloglkooaaJo
namespace Go.Proofs.Yticgonloglkooaa
open Go.RowKit

/-- Is x as strong as y? -/
def covB (x y : Nat) : Bool := decide (joinN x y = x)
/-- What is needed above. -/
def intN (x : Nat) : Nat := if x = 0 then 0 else if x = 1 ∨ x = 3 then 1 else 2

theorem six_of {x : Nat} (h : x < 6) : x = 0 ∨ x = 1 ∨ x = 2 ∨ x = 3 ∨ x = 4 ∨ x = 5 := by omega

theorem below_next {w w1 w2 : World} (h : Below w.heap.size w w1) (h2 : Below w1.heap.size w1 w2) : Below w.heap.size w w2 := h.trans (h2.mono h.size)

theorem covers_any (a b : Int) (w : World) : Calls Try.prog 14 #[.int .i64 a, .int .i64 b] w fun e w' => e = .returned (.bool (covB (cnt a) (cnt b))) ∧ Below w.heap.size w w' := by
  have hE : Hid (((((joinN (cnt a) (cnt b) : Nat) : Int) == ((cnt a : Nat) : Int)) : Bool) = covB (cnt a) (cnt b)) := by
    show _ = _
    unfold covB
    rw [Bool.eq_iff_iff]
    simp
    omega
  have h1 := join_any a b w
  have h2 := counted_any a
  generalize joinN (cnt a) (cnt b) = J at *
  generalize covB (cnt a) (cnt b) = c at *
  generalize cnt a = x at *
  go_enter Try.func14, Try.ntmps14
  go_wp2_with fail
  refine h1.mono ?_
  rintro e w1 ⟨rfl, hb1⟩
  go_wp2_with fail
  refine (h2 _).mono ?_
  rintro e w2 ⟨rfl, hw⟩
  obtain rfl := hw.symm
  go_wp2
  go_ret
  exact ⟨by rw [← hE.out]; rfl, hb1⟩

theorem intent_any (a : Int) (w : World) : Calls Try.prog 16 #[.int .i64 a] w fun e w' => e = .returned (.int .i64 ((intN (cnt a) : Nat) : Int)) ∧ w' = w := by
  have h1 := counted_any a w
  have hx := cnt_lt a
  generalize cnt a = x at *
  obtain rfl | rfl | rfl | rfl | rfl | rfl := six_of hx
  all_goals
    clear hx
    go_enter Try.func16, Try.ntmps16
    go_wp2_with (go_at_call 30; go_must (refine h1.mono ?_); rintro e w' ⟨rfl, hw⟩; obtain rfl := hw.symm)
    go_ret
    exact ⟨rfl, rfl⟩

theorem sure_any (m : Int) (w : World) : Calls Try.prog 28 #[.int .i64 m] w fun e w' => e = .returned (.int .i64 ((cnt m : Nat) : Int)) ∧ w' = w := by
  by_cases h : 0 ≤ m ∧ m < 6
  · rw [cnt_yes h.1 h.2]
    have h1 : ¬ (m < 0) := by omega
    have h2 : ¬ (5 < m) := by omega
    clear h
    go_enter Try.func28, Try.ntmps28
    go_wp2
    go_ret
    exact ⟨rfl, rfl⟩
  · rw [cnt_no (by omega)]
    have h' : m < 0 ∨ (¬ (m < 0) ∧ 5 < m) := by omega
    clear h
    rcases h' with h1 | ⟨h1, h2⟩
    all_goals
      go_enter Try.func28, Try.ntmps28
      go_wp2
      go_ret
      exact ⟨rfl, rfl⟩

theorem refbeside_any (a b : Int) (w : World) : Calls Try.prog 11 #[.int .i64 a, .int .i64 b] w fun e w' => e = .returned (.bool (besB (cnt a) (cnt b))) ∧ w' = w := by
  have h1 := sure_any a
  have h2 := sure_any b
  have hx := cnt_lt a
  have hy := cnt_lt b
  generalize cnt a = x at *
  generalize cnt b = y at *
  obtain rfl | rfl | rfl | rfl | rfl | rfl := six_of hx
  all_goals
    clear hx
    obtain rfl | rfl | rfl | rfl | rfl | rfl := six_of hy
    all_goals
      clear hy
      go_enter Try.func11, Try.ntmps11
      go_wp2_with fail
      refine (h1 _).mono ?_
      rintro e w1 ⟨rfl, hw⟩
      obtain rfl := hw.symm
      go_wp2_with fail
      refine (h2 _).mono ?_
      rintro e w1 ⟨rfl, hw⟩
      obtain rfl := hw.symm
      go_wp2
      go_ret
      exact ⟨rfl, rfl⟩

theorem refcovers_any (a b : Int) (w : World) : Calls Try.prog 15 #[.int .i64 a, .int .i64 b] w fun e w' => e = .returned (.bool (covB (cnt a) (cnt b))) ∧ w' = w := by
  have h1 := sure_any a
  have h2 := sure_any b
  have hx := cnt_lt a
  have hy := cnt_lt b
  generalize cnt a = x at *
  generalize cnt b = y at *
  obtain rfl | rfl | rfl | rfl | rfl | rfl := six_of hx
  all_goals
    clear hx
    obtain rfl | rfl | rfl | rfl | rfl | rfl := six_of hy
    all_goals
      clear hy
      go_enter Try.func15, Try.ntmps15
      go_wp2_with fail
      refine (h1 _).mono ?_
      rintro e w1 ⟨rfl, hw⟩
      obtain rfl := hw.symm
      go_wp2_with fail
      refine (h2 _).mono ?_
      rintro e w1 ⟨rfl, hw⟩
      obtain rfl := hw.symm
      go_wp2
      go_ret
      exact ⟨rfl, rfl⟩

theorem refintent_any (a : Int) (w : World) : Calls Try.prog 17 #[.int .i64 a] w fun e w' => e = .returned (.int .i64 ((intN (cnt a) : Nat) : Int)) ∧ w' = w := by
  have h1 := sure_any a w
  have hx := cnt_lt a
  generalize cnt a = x at *
  obtain rfl | rfl | rfl | rfl | rfl | rfl := six_of hx
  all_goals
    clear hx
    go_enter Try.func17, Try.ntmps17
    go_wp2_with (go_at_call 28; go_must (refine h1.mono ?_); rintro e w' ⟨rfl, hw⟩; obtain rfl := hw.symm)
    go_ret
    exact ⟨rfl, rfl⟩
end Go.Proofs.Yticgonloglkooaa
