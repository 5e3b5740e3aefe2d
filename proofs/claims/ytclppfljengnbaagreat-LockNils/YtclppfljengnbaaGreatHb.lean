/-
  has (14): has a transaction anything on a name?
-/
import Derived.Test.YtclppfljengnbaaGreatWs
namespace Go.Proofs.YtclppfljengnbaaGreat
open Go.RowKit Go.Maps Go.Sort Go.Shelf

section
variable {KT KN : List Lit} {w : World} {σ : Sg} {Q : Name → List Nat} {t : Int}

set_option maxRecDepth 100000 in
set_option maxHeartbeats 4000000 in
theorem has14 (h : Mem KT KN w σ) (G : Good σ Q (fun _ => False) (fun _ => False)) (ht : (Lit.int .i64 t).wf = true) (n : Name) :
    Calls Tryz.prog 19 #[.pointer (some ⟨σ.T, 0, none⟩), .int .i64 t, nmV n] w fun e w' => e = .returned (.bool (decide (σ.ph t n ≠ 0))) ∧ Below w.heap.size w w' := by
  have hh := held_at h G ht (B := w.heap.size) (Nat.le_refl _)
  clear h G
  go_enter Tryz.func19, Tryz.ntmps19
  go_wp2_with (first | (go_at_call 23; refine hh.mono ?_; rintro e w5 ⟨a5, c5, ks5, rfl, r5, b5, _⟩; have R5 := toHid r5; have B5 := toHid b5; have hkl5 := r5.few; clear r5 b5))
  go_loopw [8] (fun kv W => ∃ k : Nat, k ≤ ks5.length ∧ kv = .int .i64 k ∧ Hid (Below w5.heap.size w5 W ∧ ∀ j (hj : j < ks5.length), j < k → ks5[j] ≠ n)) (fun kv _ => ks5.length - (intOf kv).toNat)
  case atStart => exact ⟨0, Nat.zero_le _, rfl, toHid ⟨Below.refl _ _, fun j _ hj => by omega⟩⟩
  case round =>
    rename World => W1
    obtain ⟨k, hk, rfl, B1⟩ := hrel
    have hq0 : 0 ≤ (k : Int) := by omega
    by_cases hlt : k < ks5.length
    · have hq1 : (k : Int) < (ks5.length : Int) := by omega
      obtain ⟨g5, rfl, y0, _, yl⟩ := R5.out.at hlt
      obtain ⟨kx, hkx⟩ : ∃ kx, ks5[k] = kx := ⟨_, rfl⟩
      rw [hkx] at y0
      have y0 := (B1.out.1.cell (p := ⟨g5, k * 2, none⟩) yl).trans y0
      by_cases hkk : kx = n
      · subst hkk
        have HD := toHid (show decide (σ.ph t kx ≠ 0) = true from by rw [decide_eq_true_eq, ← R5.out.mem, ← hkx]; exact List.getElem_mem hlt)
        clear hkx
        go_wp2_with fail
        go_ret
        rw [HD.out]
        exact ⟨rfl, bnext B5.out B1.out.1⟩
      · have he2 : (kx == n) = false := by simp [hkk]
        have HN := toHid (show ∀ j (hj : j < ks5.length), j < k + 1 → ks5[j] ≠ n from fun j hj hjk => by
          by_cases e : j = k
          · subst e; rw [hkx]; exact hkk
          · exact B1.out.2 j hj (by omega))
        clear hkx
        go_wp2_with fail
        go_roundw
        case rel => exact ⟨k + 1, by omega, by simp, toHid ⟨B1.out.1, HN.out⟩⟩
        case measure => first | omega | (simp only [intOf]; omega)
    · obtain rfl : k = ks5.length := by omega
      have HD := toHid (show decide (σ.ph t n ≠ 0) = false from by
        rw [decide_eq_false_iff_not, ← R5.out.mem]
        intro hm
        obtain ⟨j, hj, e⟩ := List.getElem_of_mem hm
        exact B1.out.2 j hj hj e)
      go_wp2_with fail
      go_ret
      rw [HD.out]
      exact ⟨rfl, bnext B5.out B1.out.1⟩

end

end Go.Proofs.YtclppfljengnbaaGreat
