/-
  Do the locks of two go beside one another?
-/
import Derived.Test.YtclppfljengnbaaWs
import Derived.BigQuiet
namespace Go.Proofs.Ytclppfljengnbaa
open Go.RowKit Go.Maps Go.Sort Go.Shelf

set_option maxRecDepth 100000 in
set_option maxHeartbeats 4000000 in
theorem beside11 {w : World} {B1 B2 : Nat} {σ : Sg} {a1 a2 : Option Addr} {c1 c2 : Nat} {k1 k2 : List Name} {f1 f2 : Name → Nat} (h1 : HeldR B1 w σ (.slice a1 k1.length c1) k1 f1) (h2 : HeldR B2 w σ (.slice a2 k2.length c2) k2 f2) (hb : ∀ k, besB (f1 k) (f2 k) = true) :
    Calls Try.prog 11 #[.slice a1 k1.length c1, .slice a2 k2.length c2] w fun e w' => e = .returned (.bool true) ∧ Below w.heap.size w w' := by
  have hl1 := h1.few
  have hl2 := h2.few
  have HBs := toHid (show ∀ k W, Calls Try.prog 27 #[.int .i64 ((f1 k : Nat) : Int), .int .i64 ((f2 k : Nat) : Int)] W fun e w' => e = .returned (.bool true) ∧ w' = W from fun k W => by
    have := refbeside_any ((f1 k : Nat) : Int) ((f2 k : Nat) : Int) W
    rw [cnt_nat (h1.low k), cnt_nat (h2.low k), hb] at this
    exact this)
  have H1 := toHid h1
  have H2 := toHid h2
  clear h1 h2 hb
  go_enter Try.func11, Try.ntmps11
  go_wp2_with fail
  go_loopw [5] (fun k W => ∃ i : Nat, i ≤ k1.length ∧ k = .int .i64 i ∧ Hid (Below w.heap.size w W)) (fun k _ => k1.length - (intOf k).toNat)
  case atStart => exact ⟨0, Nat.zero_le _, rfl, toHid (Below.refl _ _)⟩
  case round =>
    rename World => W1
    obtain ⟨i, hi, rfl, B1'⟩ := hrel
    have hq0 : 0 ≤ (i : Int) := by omega
    by_cases hlt : i < k1.length
    · have hq1 : (i : Int) < (k1.length : Int) := by omega
      obtain ⟨g1, rfl, x0, x1, xl⟩ := H1.out.at hlt
      obtain ⟨kx, hkx⟩ : ∃ kx, k1[i] = kx := ⟨_, rfl⟩
      rw [hkx] at x0 x1
      have XC := toHid (show ∀ W, Below w.heap.size w W → W.cell? ⟨g1, i * 2, none⟩ = some (nmV kx) ∧ W.cell? ⟨g1, i * 2 + 1, none⟩ = some (.int .i64 ((f1 kx : Nat) : Int)) from fun W hW => ⟨(hW.cell (p := ⟨g1, _, none⟩) xl).trans x0, (hW.cell (p := ⟨g1, _, none⟩) xl).trans x1⟩)
      clear x0 x1 hkx
      go_wp2_with fail
      go_loopw [6] (fun k W => ∃ j : Nat, j ≤ k2.length ∧ k = .int .i64 j ∧ Hid (Below w.heap.size w W)) (fun k _ => k2.length - (intOf k).toNat)
      case atStart => exact ⟨0, Nat.zero_le _, rfl, B1'⟩
      case round =>
        rename World => W2
        obtain ⟨j, hj, rfl, B2'⟩ := hrel
        have hr0 : 0 ≤ (j : Int) := by omega
        by_cases hlt2 : j < k2.length
        · have hr1 : (j : Int) < (k2.length : Int) := by omega
          obtain ⟨g2, rfl, y0, y1, yl⟩ := H2.out.at hlt2
          obtain ⟨ky, hky⟩ : ∃ ky, k2[j] = ky := ⟨_, rfl⟩
          rw [hky] at y0 y1
          have y0 := (B2'.out.cell (p := ⟨g2, j * 2, none⟩) yl).trans y0
          have y1 := (B2'.out.cell (p := ⟨g2, j * 2 + 1, none⟩) yl).trans y1
          obtain ⟨x0, x1⟩ := XC.out _ B2'.out
          have HBq := toHid (show ∀ n, Below w.heap.size w (W2.drewN n) from fun n => B2'.out.trans (Go.Joins.below_draws _ _ _))
          clear hky
          by_cases hkk : kx = ky
          · subst hkk
            go_wp2_with fail
            go_quiet ((go_at_call 27; exact Calls.quiet_of_same (HBs.out _ _)))
            go_wp2_with fail
            go_roundw
            case rel => exact ⟨j + 1, by omega, by simp, toHid (HBq.out _)⟩
            case measure => first | omega | (simp only [intOf]; omega)
          · have he2 : decide (kx = ky) = false := by simp [hkk]
            go_wp2_with fail
            go_quiet (fail)
            go_wp2_with fail
            go_roundw
            case rel => exact ⟨j + 1, by omega, by simp, toHid (HBq.out _)⟩
            case measure => first | omega | (simp only [intOf]; omega)
        · obtain rfl : j = k2.length := by omega
          go_wp2_with fail
          go_roundw
          case rel => exact ⟨i + 1, by omega, by simp, B2'⟩
          case measure => first | omega | (simp only [intOf]; omega)
    · obtain rfl : i = k1.length := by omega
      go_wp2_with fail
      go_ret
      exact ⟨rfl, B1'.out⟩

end Go.Proofs.Ytclppfljengnbaa
