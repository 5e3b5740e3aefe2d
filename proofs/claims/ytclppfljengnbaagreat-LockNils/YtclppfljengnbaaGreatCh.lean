/-
  Is a lock idle?
-/
import Derived.Test.YtclppfljengnbaaGreatCf
namespace Go.Proofs.YtclppfljengnbaaGreat
open Go.RowKit Go.Maps

noncomputable def idleB (lh : Nat → Int → Bool) : Bool := @decide (∀ m, m < 6 → ∀ s, lh m s = false) (Classical.propDecidable _)

set_option maxRecDepth 100000 in
set_option maxHeartbeats 4000000 in
theorem idle64 {KT KN : List Lit} {w : World} {σ : Sg} {n : Name} {b : Nat} (h : Mem KT KN w σ) (hb : σ.lb n = some b) :
    Calls Tryz.prog 93 #[.pointer (some ⟨b, 0, none⟩)] w fun e w' => e = .returned (.bool (idleB (σ.lh n))) ∧ w' = w := by
  have hl := h.hL n b hb
  obtain ⟨c0', c1, c2, c3, c4, c5, c6, c7', c8'⟩ := hl.cells
  clear c0' c7' c8'
  have HL := toHid (show ∀ m, ∃ k : Nat, (∀ ty, (Builtin.len_ #[123] ty #[.map (σ.lm n m)]).run Tryz.prog w = .ok (.int .i64 k) w) ∧ k ≤ 1000 ∧ (0 < k ↔ ∃ s, σ.lh n m s = true) from fun m => by
    obtain ⟨k, k1, k2, k3, _⟩ := lenO (hl.maps m) h.kt
    exact ⟨k, fun ty => k1 w ty fun _ _ => rfl, k2, k3⟩)
  clear hl h hb
  generalize σ.lm n = lm at *
  generalize σ.lh n = lh at *
  have hidx := idx93 lm
  go_enter Tryz.func93, Tryz.ntmps93
  go_wp2_with fail
  go_loop [9] (fun k => ∃ i : Nat, i ≤ 6 ∧ k = .int .i64 i ∧ Hid (∀ m, m < i → ∀ s, lh m s = false)) (fun k => 6 - (intOf k).toNat)
  case atStart => exact ⟨0, by omega, rfl, toHid fun m hm => absurd hm (by omega)⟩
  case round =>
    obtain ⟨i, hi, rfl, HI⟩ := hrel
    have hq0 : 0 ≤ (i : Int) := by omega
    by_cases hlt : i < 6
    · have hq1 : (i : Int) < 6 := by omega
      have hidx1 := hidx i hlt w
      obtain ⟨k, hlen, k2, k3⟩ := HL.out i
      by_cases hk : 0 < k
      · have hc2 : 0 < ((k : Nat) : Int) := by omega
        have HX := toHid (show idleB lh = false from by
          obtain ⟨s, hs⟩ := k3.1 hk
          simp only [idleB, decide_eq_false_iff_not]
          intro hg
          rw [hg i hlt s] at hs
          cases hs)
        clear k3 hk
        go_wp2_with fail
        go_ret
        exact ⟨by rw [HX.out]; rfl, rfl⟩
      · have hc2 : ¬ (0 < ((k : Nat) : Int)) := by omega
        have HX := toHid (show ∃ j : Nat, j ≤ 6 ∧ (.int .i64 ((i : Int) + 1) : Value) = .int .i64 j ∧ Hid (∀ m, m < j → ∀ s, lh m s = false) from
          ⟨i + 1, by omega, by simp, toHid fun m hm s => (Nat.lt_succ_iff_lt_or_eq.1 hm).elim (fun h1 => HI.out m h1 s) (fun h1 => by
            cases e : lh m s
            · rfl
            · exact absurd (k3.2 ⟨s, by rw [← h1]; exact e⟩) hk)⟩)
        clear k3 hk
        go_wp2_with fail
        go_round
        case rel => exact HX.out
        case measure => first | omega | (simp only [intOf]; omega)
    · obtain rfl : i = 6 := by omega
      go_wp2_with fail
      go_ret
      exact ⟨by rw [show idleB lh = true from by simp only [idleB, decide_eq_true_eq]; exact HI.out]; rfl, rfl⟩

end Go.Proofs.YtclppfljengnbaaGreat
