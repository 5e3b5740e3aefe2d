/-
  Does what one would have go beside what the others have; is a lock idle.
-/
import Derived.Test.YtclppfljengnbaaGreatCc
import Derived.Test.YtclppfljengnbaaGreatCd
namespace Go.Proofs.YtclppfljengnbaaGreat
open Go.RowKit Go.Maps

theorem lhF_some {g : Int → Bool} {x : Lit} (h : lhF g x ≠ none) : ∃ s, x = .int .i64 s ∧ g s = true := by
  cases x with
  | int k s =>
    cases k
    case i64 =>
      refine ⟨s, rfl, ?_⟩
      cases e : g s
      · simp [lhF, e] at h
      · rfl
    all_goals exact absurd rfl h
  | _ => exact absurd rfl h
theorem lhF_ne {g : Int → Bool} {s : Int} (h : g s = true) : lhF g (.int .i64 s) ≠ none := by simp [lhF, h]

/-- How many have a mode. -/
theorem lenO {KT : List Lit} {w : World} {o : Option Nat} {g : Int → Bool} (h : MapO Tryz.prog 3 w o KT (lhF g)) (hk : KT.length ≤ 1000) :
    ∃ k : Nat, (∀ W ty, (∀ c, o = some c → W.heap[c]? = w.heap[c]?) → (Builtin.len_ #[123] ty #[.map o]).run Tryz.prog W = .ok (.int .i64 k) W) ∧ k ≤ 1000 ∧ (0 < k ↔ ∃ s, g s = true) ∧ ∀ t, g t = true → (1 < k ↔ ∃ s, s ≠ t ∧ g s = true) := by
  cases o with
  | none =>
    have hf : ∀ s, g s = false := lhF_none h
    exact ⟨0, fun W ty _ => Maps.len_nil Tryz.underlying123 ty, by omega, ⟨fun h => by omega, fun ⟨s, hs⟩ => by rw [hf s] at hs; cases hs⟩, fun t ht => by rw [hf t] at ht; cases ht⟩
  | some c =>
    obtain ⟨k, h1, h2, h3, h4⟩ := MapV.len h lawI Tryz.underlying123
    refine ⟨k, fun W ty hW => ?_, by omega, h3.trans ⟨fun ⟨x, hx⟩ => ?_, fun ⟨s, hs⟩ => ⟨_, lhF_ne hs⟩⟩, fun t ht => (h4 _ (lhF_ne ht)).trans ⟨fun ⟨y, hy, hfy⟩ => ?_, fun ⟨s, hs, hg⟩ => ⟨_, fun e => hs (by injection e), lhF_ne hg⟩⟩⟩
    · exact h1 W ty (hW c rfl)
    · obtain ⟨s, _, hs⟩ := lhF_some hx
      exact ⟨s, hs⟩
    · obtain ⟨s, rfl, hs⟩ := lhF_some hfy
      exact ⟨s, fun e => hy (by rw [e]), hs⟩

theorem idx93 (lm : Nat → Option Nat) (i : Nat) (hi : i < 6) (w : World) : (Instr.index 124 (.agg #[.map (lm 0), .map (lm 1), .map (lm 2), .map (lm 3), .map (lm 4), .map (lm 5)]) (.int .i64 (i : Int))).run Tryz.prog w = .ok (.map (lm i)) w := by
  obtain rfl | rfl | rfl | rfl | rfl | rfl : i = 0 ∨ i = 1 ∨ i = 2 ∨ i = 3 ∨ i = 4 ∨ i = 5 := by omega
  all_goals kernel_rfl

/-- Does it go in? -/
def GoesIn (lh : Nat → Int → Bool) (t : Int) (wd : Nat) : Prop := ∀ m, m < 6 → (∃ s, s ≠ t ∧ lh m s = true) → besB m wd = true
noncomputable def goesB (lh : Nat → Int → Bool) (t : Int) (wd : Nat) : Bool := @decide (GoesIn lh t wd) (Classical.propDecidable _)

set_option maxRecDepth 100000 in
set_option maxHeartbeats 4000000 in
theorem goesIn42 {KT KN : List Lit} {w : World} {σ : Sg} {n : Name} {b z : Nat} (h : Mem KT KN w σ) (hb : σ.lb n = some b) (hz : IsW (σ.own z)) (hm : (σ.nd z).m < 6) (hh : (σ.nd z).had < 6)
    (h0 : ∀ s, σ.lh n 0 s = false) (h1 : (σ.nd z).had ≠ 0 → σ.lh n (σ.nd z).had (σ.nd z).t = true) (h2 : ∀ m, m ≠ (σ.nd z).had → σ.lh n m (σ.nd z).t = false) :
    Calls Tryz.prog 74 #[.pointer (some ⟨b, 0, none⟩), .pointer (some ⟨z, 0, none⟩)] w fun e w' => e = .returned (.bool (goesB (σ.lh n) (σ.nd z).t (joinN (σ.nd z).had (σ.nd z).m))) ∧ Below w.heap.size w w' := by
  have hl := h.hL n b hb
  obtain ⟨c0', c1, c2, c3, c4, c5, c6, c7', c8'⟩ := hl.cells
  clear c0' c7' c8'
  have hwz := h.hW z hz
  have hzlt := lt_of_heap hwz
  have HL := toHid (show ∀ m, ∃ k : Nat, (∀ W ty, (∀ c, σ.lm n m = some c → W.heap[c]? = w.heap[c]?) → (Builtin.len_ #[123] ty #[.map (σ.lm n m)]).run Tryz.prog W = .ok (.int .i64 k) W) ∧ k ≤ 1000 ∧ (0 < k ↔ ∃ s, σ.lh n m s = true) ∧ ∀ t, σ.lh n m t = true → (1 < k ↔ ∃ s, s ≠ t ∧ σ.lh n m s = true) from fun m => lenO (hl.maps m) h.kt)
  have HB := toHid (show ∀ m c, σ.lm n m = some c → c < w.heap.size from fun m c hc => h.lt c (by rw [hl.tagm m c hc]; simp))
  have HZ := toHid hwz
  have H0 := toHid h0
  have H1 := toHid h1
  have H2 := toHid h2
  clear hwz h0 h1 h2 hl h hb hz
  generalize σ.nd z = x at *
  generalize σ.lm n = lm at *
  generalize σ.lh n = lh at *
  generalize σ.ah z = ax at *
  generalize σ.bh z = bx at *
  obtain ⟨xt, xn, xm, xh⟩ := x
  simp only at *
  have hidx := idx93 lm
  go_enter Tryz.func74, Tryz.ntmps74
  go_wp2_with fail
  go_loopw [12] (fun k W => ∃ i : Nat, i ≤ 6 ∧ k = .int .i64 i ∧ Hid (∀ m, m < i → (∃ s, s ≠ xt ∧ lh m s = true) → besB m (joinN xh xm) = true) ∧ Hid (Below w.heap.size w W)) (fun k _ => 6 - (intOf k).toNat)
  case atStart => exact ⟨0, by omega, rfl, toHid fun m hm => absurd hm (by omega), toHid (Below.refl _ _)⟩
  case round =>
    obtain ⟨i, hi, rfl, HI, HW⟩ := hrel
    have hq0 : 0 ≤ (i : Int) := by omega
    by_cases hlt : i < 6
    · have hq1 : (i : Int) < 6 := by omega
      have hidx1 := hidx i hlt wr
      obtain ⟨k, k1, k2, k3, k4⟩ := HL.out i
      have hlen := fun ty => k1 wr ty (fun c hc => HW.out.block c (HB.out i c hc))
      have K3 := toHid k3
      have K4 := toHid k4
      clear k1 k3 k4
      have HZr := toHid (show WaitOk wr z ⟨xt, xn, xm, xh⟩ ax bx from (HW.out.block z hzlt).trans HZ.out)
      obtain ⟨_, _, _, z3, _⟩ := HZr.out.cells
      have hbes := fun W => beside_any ((i : Nat) : Int) ((joinN xh xm : Nat) : Int) W
      rw [cnt_nat hlt, cnt_nat (joinN_lt _ _ hh hm)] at hbes
      have HV := toHid (show (∃ s, s ≠ xt ∧ lh i s = true) ↔ (if i = xh then 1 < k else 0 < k) from by
        by_cases e : i = xh
        · rw [if_pos e]
          by_cases e0 : xh = 0
          · have : k = 0 := by
              refine Nat.eq_zero_of_not_pos fun hk => ?_
              obtain ⟨s, hs⟩ := K3.out.1 hk
              rw [e, e0, H0.out s] at hs
              cases hs
            constructor
            · rintro ⟨s, _, hs⟩
              rw [e, e0, H0.out s] at hs
              cases hs
            · intro; omega
          · exact (K4.out xt (by rw [e]; exact H1.out e0)).symm
        · rw [if_neg e]
          exact ⟨fun ⟨s, _, hs⟩ => K3.out.2 ⟨s, hs⟩, fun hk => by
            obtain ⟨s, hs⟩ := K3.out.1 hk
            refine ⟨s, fun e1 => ?_, hs⟩
            rw [e1, H2.out i e] at hs
            cases hs⟩)
      have HR := toHid (show ∀ W, Below w.heap.size w W → besB i (joinN xh xm) = true → ∃ j : Nat, j ≤ 6 ∧ (.int .i64 ((i : Int) + 1) : Value) = .int .i64 j ∧ Hid (∀ m, m < j → (∃ s, s ≠ xt ∧ lh m s = true) → besB m (joinN xh xm) = true) ∧ Hid (Below w.heap.size w W) from fun W hW hb1 =>
        ⟨i + 1, by omega, by simp, toHid fun m hm he => (Nat.lt_succ_iff_lt_or_eq.1 hm).elim (fun h1 => HI.out m h1 he) (fun h1 => by rw [h1]; exact hb1), toHid hW⟩)
      have HS := toHid (show ∀ W, Below w.heap.size w W → ¬ (∃ s, s ≠ xt ∧ lh i s = true) → ∃ j : Nat, j ≤ 6 ∧ (.int .i64 ((i : Int) + 1) : Value) = .int .i64 j ∧ Hid (∀ m, m < j → (∃ s, s ≠ xt ∧ lh m s = true) → besB m (joinN xh xm) = true) ∧ Hid (Below w.heap.size w W) from fun W hW hb1 =>
        ⟨i + 1, by omega, by simp, toHid fun m hm he => (Nat.lt_succ_iff_lt_or_eq.1 hm).elim (fun h1 => HI.out m h1 he) (fun h1 => absurd (by rw [h1] at he; exact he) hb1), toHid hW⟩)
      have HF := toHid (show (∃ s, s ≠ xt ∧ lh i s = true) → besB i (joinN xh xm) = false → goesB lh xt (joinN xh xm) = false from fun he hb1 => by
        simp only [goesB, decide_eq_false_iff_not]
        intro hg
        rw [hg i hlt he] at hb1
        cases hb1)
      have hwd := would61 HZr.out hm hh
      simp only at hwd
      clear K3 K4 HI H0 H1 H2 HL hidx
      by_cases he : i = xh
      · rw [if_pos he] at HV
        subst he
        by_cases hk : 1 < k
        · have hc2 : 0 < ((k : Nat) : Int) - 1 := by omega
          have hc3 : IntKind.wrap .i64 (((k : Nat) : Int) - 1) = ((k : Nat) : Int) - 1 := by rw [IntKind.wrap_i64]; omega
          have HE := toHid (HV.out.2 hk)
          clear hk HV HS
          rcases Bool.eq_false_or_eq_true (besB i (joinN i xm)) with hbb | hbb
          · rw [hbb] at hbes
            have HX := toHid (fun W hW => HR.out W hW hbb)
            clear hbb
            go_wp2_with (first
              | (go_at_call 85; refine hwd.mono ?_; rintro e w2 ⟨rfl, hb2⟩; have HW2 := toHid (bnext HW.out hb2); clear hb2)
              | (go_at_call 84; refine (hbes _).mono ?_; rintro e w3 ⟨rfl, hb3⟩; have HW3 := toHid (bnext HW2.out hb3); clear hb3))
            go_roundw
            case rel => exact HX.out _ HW3.out
            case measure => first | omega | (simp only [intOf]; omega)
          · rw [hbb] at hbes
            have HX := toHid (HF.out HE.out hbb)
            clear hbb
            go_wp2_with (first
              | (go_at_call 85; refine hwd.mono ?_; rintro e w2 ⟨rfl, hb2⟩; have HW2 := toHid (bnext HW.out hb2); clear hb2)
              | (go_at_call 84; refine (hbes _).mono ?_; rintro e w3 ⟨rfl, hb3⟩; have HW3 := toHid (bnext HW2.out hb3); clear hb3))
            go_ret
            exact ⟨by rw [HX.out]; rfl, HW3.out⟩
        · have hc2 : ¬ (0 < ((k : Nat) : Int) - 1) := by omega
          have hc3 : IntKind.wrap .i64 (((k : Nat) : Int) - 1) = ((k : Nat) : Int) - 1 := by rw [IntKind.wrap_i64]; omega
          have HE := toHid (fun h1 => hk (HV.out.1 h1))
          clear hk HV HR
          have HX := toHid (HS.out wr HW.out HE.out)
          go_wp2_with fail
          go_roundw
          case rel => exact HX.out
          case measure => first | omega | (simp only [intOf]; omega)
      · have hc1 : ¬ (((i : Nat) : Int) = ((xh : Nat) : Int)) := by omega
        rw [if_neg he] at HV
        by_cases hk : 0 < k
        · have hc2 : 0 < ((k : Nat) : Int) := by omega
          have HE := toHid (HV.out.2 hk)
          clear hk HV HS
          rcases Bool.eq_false_or_eq_true (besB i (joinN xh xm)) with hbb | hbb
          · rw [hbb] at hbes
            have HX := toHid (fun W hW => HR.out W hW hbb)
            clear hbb
            go_wp2_with (first
              | (go_at_call 85; refine hwd.mono ?_; rintro e w2 ⟨rfl, hb2⟩; have HW2 := toHid (bnext HW.out hb2); clear hb2)
              | (go_at_call 84; refine (hbes _).mono ?_; rintro e w3 ⟨rfl, hb3⟩; have HW3 := toHid (bnext HW2.out hb3); clear hb3))
            go_roundw
            case rel => exact HX.out _ HW3.out
            case measure => first | omega | (simp only [intOf]; omega)
          · rw [hbb] at hbes
            have HX := toHid (HF.out HE.out hbb)
            clear hbb
            go_wp2_with (first
              | (go_at_call 85; refine hwd.mono ?_; rintro e w2 ⟨rfl, hb2⟩; have HW2 := toHid (bnext HW.out hb2); clear hb2)
              | (go_at_call 84; refine (hbes _).mono ?_; rintro e w3 ⟨rfl, hb3⟩; have HW3 := toHid (bnext HW2.out hb3); clear hb3))
            go_ret
            exact ⟨by rw [HX.out]; rfl, HW3.out⟩
        · have hc2 : ¬ (0 < ((k : Nat) : Int)) := by omega
          have HE := toHid (fun h1 => hk (HV.out.1 h1))
          clear hk HV HR
          have HX := toHid (HS.out wr HW.out HE.out)
          go_wp2_with fail
          go_roundw
          case rel => exact HX.out
          case measure => first | omega | (simp only [intOf]; omega)
    · obtain rfl : i = 6 := by omega
      go_wp2_with fail
      go_ret
      exact ⟨by rw [show goesB lh xt (joinN xh xm) = true from by simp only [goesB, decide_eq_true_eq]; exact HI.out]; rfl, HW.out⟩

end Go.Proofs.YtclppfljengnbaaGreat
