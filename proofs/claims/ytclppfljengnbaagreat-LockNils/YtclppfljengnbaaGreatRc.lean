/-
  The document's Covers and Beside (layer 4).
-/
import Derived.Test.YtclppfljengnbaaGreatLf
namespace Go.Proofs.YtclppfljengnbaaGreat
open Go.RowKit

/-- Is x as strong as y? -/
def covB (x y : Nat) : Bool := decide (joinN x y = x)
/-- What is needed above. -/
def intN (x : Nat) : Nat := if x = 0 then 0 else if x = 1 ∨ x = 3 then 1 else 2

theorem six_of {x : Nat} (h : x < 6) : x = 0 ∨ x = 1 ∨ x = 2 ∨ x = 3 ∨ x = 4 ∨ x = 5 := by omega


theorem sure_any (m : Int) (w : World) : Calls Tryz.prog 62 #[.int .i64 m] w fun e w' => e = .returned (.int .i64 ((cnt m : Nat) : Int)) ∧ w' = w := by
  by_cases h : 0 ≤ m ∧ m < 6
  · rw [cnt_yes h.1 h.2]
    have h1 : ¬ (m < 0) := by omega
    have h2 : ¬ (5 < m) := by omega
    clear h
    go_enter Tryz.func62, Tryz.ntmps62
    go_wp2
    go_ret
    exact ⟨rfl, rfl⟩
  · rw [cnt_no (by omega)]
    have h' : m < 0 ∨ (¬ (m < 0) ∧ 5 < m) := by omega
    clear h
    rcases h' with h1 | ⟨h1, h2⟩
    all_goals
      go_enter Tryz.func62, Tryz.ntmps62
      go_wp2
      go_ret
      exact ⟨rfl, rfl⟩


theorem refbeside_any (a b : Int) (w : World) : Calls Tryz.prog 36 #[.int .i64 a, .int .i64 b] w fun e w' => e = .returned (.bool (besB (cnt a) (cnt b))) ∧ w' = w := by
  have h1 := sure_any a
  have h2 := sure_any b
  have hx := cnt_lt a
  have hy := cnt_lt b
  generalize cnt a = x at *
  generalize cnt b = y at *
  obtain rfl | rfl | rfl | rfl | rfl | rfl := six_of hx
  all_goals
    clear hx
    obtain rfl | rfl | rfl | rfl | rfl | rfl := six_of hy
    all_goals
      clear hy
      go_enter Tryz.func36, Tryz.ntmps36
      go_wp2_with fail
      refine (h1 _).mono ?_
      rintro e w1 ⟨rfl, hw⟩
      obtain rfl := hw.symm
      go_wp2_with fail
      refine (h2 _).mono ?_
      rintro e w1 ⟨rfl, hw⟩
      obtain rfl := hw.symm
      go_wp2
      go_ret
      exact ⟨rfl, rfl⟩


theorem refcovers_any (a b : Int) (w : World) : Calls Tryz.prog 53 #[.int .i64 a, .int .i64 b] w fun e w' => e = .returned (.bool (covB (cnt a) (cnt b))) ∧ w' = w := by
  have h1 := sure_any a
  have h2 := sure_any b
  have hx := cnt_lt a
  have hy := cnt_lt b
  generalize cnt a = x at *
  generalize cnt b = y at *
  obtain rfl | rfl | rfl | rfl | rfl | rfl := six_of hx
  all_goals
    clear hx
    obtain rfl | rfl | rfl | rfl | rfl | rfl := six_of hy
    all_goals
      clear hy
      go_enter Tryz.func53, Tryz.ntmps53
      go_wp2_with fail
      refine (h1 _).mono ?_
      rintro e w1 ⟨rfl, hw⟩
      obtain rfl := hw.symm
      go_wp2_with fail
      refine (h2 _).mono ?_
      rintro e w1 ⟨rfl, hw⟩
      obtain rfl := hw.symm
      go_wp2
      go_ret
      exact ⟨rfl, rfl⟩


theorem cov_join : ∀ x y : Fin 6, joinN x.val y.val = y.val → covB y.val x.val = true := by decide
theorem cov_of {x y : Nat} (hx : x < 6) (hy : y < 6) (h : joinN x y = y) : covB y x = true := cov_join ⟨x, hx⟩ ⟨y, hy⟩ h
theorem cov_not : ∀ x y : Fin 6, joinN x.val y.val ≠ x.val → covB x.val y.val = false := by decide
theorem not_cov {x y : Nat} (hx : x < 6) (hy : y < 6) (h : joinN x y ≠ x) : covB x y = false := cov_not ⟨x, hx⟩ ⟨y, hy⟩ h

end Go.Proofs.YtclppfljengnbaaGreat
