/-
  The walk of inBoth: what stands in both of two rows.
-/
import Derived.Test.YtclppfljengnbaaGreatFn
namespace Go.Proofs.YtclppfljengnbaaGreat
open Go.RowKit

/-- The row behind k rounds. -/
def rowK (k : Nat) (f : Nat → Bool) : Array Value := rowF fun j => decide (j < k) && f j

theorem rowF_at (f : Nat → Bool) (j : Nat) (h : j < 6) : (rowF f)[j]? = some (.bool (f j)) := by
  obtain rfl | rfl | rfl | rfl | rfl | rfl : j = 0 ∨ j = 1 ∨ j = 2 ∨ j = 3 ∨ j = 4 ∨ j = 5 := by omega
  all_goals rfl
theorem rowF_size (f : Nat → Bool) : (rowF f).size = 6 := rfl
theorem rowK_zero (f : Nat → Bool) : rowK 0 f = #[.bool false, .bool false, .bool false, .bool false, .bool false, .bool false] := rfl
theorem rowK_six (f : Nat → Bool) : rowK 6 f = rowF f := rfl
theorem rowK_set (k : Nat) (f : Nat → Bool) (h : k < 6) : (rowK k f).setIfInBounds k (.bool (f k)) = rowK (k + 1) f := by
  obtain rfl | rfl | rfl | rfl | rfl | rfl : k = 0 ∨ k = 1 ∨ k = 2 ∨ k = 3 ∨ k = 4 ∨ k = 5 := by omega
  all_goals rfl

theorem inBoth_any (f g : Nat → Bool) (w : World) : Calls Tryz.prog 123 #[.agg (rowF f), .agg (rowF g)] w fun e w' => e = .returned (.agg (rowF fun j => f j && g j)) ∧ Below w.heap.size w w' := by
  obtain ⟨A, HA, hA⟩ : ∃ A, Hid (A = rowF f) ∧ ∀ j, j < 6 → A[j]? = some (.bool (f j)) := ⟨_, rfl, rowF_at f⟩
  obtain ⟨B, HB, hB⟩ : ∃ B, Hid (B = rowF g) ∧ ∀ j, j < 6 → B[j]? = some (.bool (g j)) := ⟨_, rfl, rowF_at g⟩
  rw [← HA.out, ← HB.out]
  go_enter Tryz.func123, Tryz.ntmps123
  go_wp2_with fail
  go_loopw [7] (fun i ws => ∃ k : Nat, k ≤ 6 ∧ i = .int .i64 k ∧ ws = (((w.alloc (.cells A 162)).alloc (.cells B 162)).alloc (.cells (rowK 0 fun j => f j && g j) 162)).alloc (.cells (rowK k fun j => f j && g j) 162)) (fun i _ => 6 - (intOf i).toNat)
  case atStart => exact ⟨0, by omega, rfl, by rw [rowK_zero]⟩
  case round =>
    obtain ⟨k, hk, rfl, rfl⟩ := hrel
    by_cases hlt : k < 6
    · obtain ⟨T, HT, hT⟩ : ∃ T, Hid (T = rowK k fun j => f j && g j) ∧ T[k]? = some (.bool false) := ⟨_, rfl, by rw [rowK, rowF_at _ k hlt]; simp⟩
      obtain ⟨Z, HZ⟩ : ∃ Z, Hid (Z = rowK 0 fun j => f j && g j) := ⟨_, rfl⟩
      rw [← HT.out, ← HZ.out]
      have hAk := hA k hlt
      have hBk := hB k hlt
      have HS := rowK_set k (fun j => f j && g j) hlt
      rw [← HT.out] at HS
      replace HS : Hid _ := HS
      clear hA hB
      cases hf : f k with
      | true =>
        rw [hf] at hAk
        go_wp2
        go_roundw
        case rel => exact ⟨k + 1, by omega, by go_num, by rw [← HS.out]; simp [hf]⟩
        case measure => simp [intOf]; omega
      | false =>
        rw [hf] at hAk
        go_wp2
        go_roundw
        case rel => exact ⟨k + 1, by omega, by go_num, by rw [← HS.out]; simp [hf]⟩
        case measure => simp [intOf]; omega
    · obtain rfl : k = 6 := by omega
      rw [rowK_six, rowK_zero]
      unfold rowF
      go_wp2
      refine bodyPost_ret (v := .agg (rowF fun j => f j && g j)) ?_ rfl ⟨rfl, ?_⟩
      · exact results_cell_row (P := Tryz.prog) Tryz.results123 _ _ (w.heap.size + 2) 162 (rowF fun j => f j && g j) (0, 0) _ rfl (by rw [show w.heap.size + 2 = ((w.alloc (.cells A 162)).alloc (.cells B 162)).heap.size by simp]; exact heap_alloc2_old _ _ _) Tryz.underlying162 rfl (by kernel_rfl)
      · exact ((((Below.refl _ _).alloc (Nat.le_refl _) _).alloc (by simp) _).alloc (by simp; omega) _).alloc (by simp; omega) _
end Go.Proofs.YtclppfljengnbaaGreat
