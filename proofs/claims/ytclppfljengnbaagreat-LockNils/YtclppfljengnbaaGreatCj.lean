/-
  Somebody gets what it would have.
-/
import Derived.Test.YtclppfljengnbaaGreatCg
import Derived.Test.YtclppfljengnbaaGreatCf
namespace Go.Proofs.YtclppfljengnbaaGreat
open Go.RowKit Go.Maps

section
variable {KT KN : List Lit} {w : World} {σ : Sg} {n : Name} {b z p : Nat}

/-- Who has which mode of a name, when somebody has turned from one to another one. -/
noncomputable def swapH (lh : Nat → Int → Bool) (t : Int) (a c : Nat) : Nat → Int → Bool := upd (upd lh a (upd (lh a) t false)) c (upd (upd lh a (upd (lh a) t false) c) t true)
/-- Somebody has got what it would have. -/
noncomputable def giveS (σ : Sg) (n : Name) (z : Nat) (own : Nat → Tag) (lm : Name → Nat → Option Nat) : Sg :=
  { σ with own := own, lm := lm, lh := upd σ.lh n (swapH (σ.lh n) (σ.nd z).t (σ.nd z).had (joinN (σ.nd z).had (σ.nd z).m)), ph := upd σ.ph (σ.nd z).t (upd (σ.ph (σ.nd z).t) n (joinN (σ.nd z).had (σ.nd z).m)) }

theorem joinN_pos {x y : Nat} (hy : 1 ≤ y) : joinN x y ≠ 0 := by unfold joinN; split <;> omega

set_option maxRecDepth 100000 in
set_option maxHeartbeats 4000000 in
theorem give45 (h : Mem KT KN w σ) (hb : σ.lb n = some b) (hn : n.length ≤ 16) (hz : IsW (σ.own z)) (hm1 : 1 ≤ (σ.nd z).m) (hm : (σ.nd z).m < 6) (hh : (σ.nd z).had < 6) (ht : (Lit.int .i64 (σ.nd z).t).wf = true) (hp : σ.pb (σ.nd z).t = some p) :
    Calls Tryz.prog 77 #[.pointer (some ⟨σ.T, 0, none⟩), .pointer (some ⟨b, 0, none⟩), .pointer (some ⟨z, 0, none⟩)] w fun e w' => e = .returned (.tuple #[]) ∧ ∃ own lm, Mem KT KN w' (giveS σ n z own lm) ∧ Step w σ w' (giveS σ n z own lm) := by
  have hKT : Lit.int .i64 (σ.nd z).t ∈ KT := by
    obtain ⟨D, _, hD⟩ := h.hB
    refine hD.keys _ ?_
    simp [ptF, hp]
  have hKN : Lit.string n ∈ KN := by
    obtain ⟨D, _, hD⟩ := h.hA
    refine hD.keys _ ?_
    simp [lkF, hb]
  have hkn : KN.length < maxLen := by have := h.kn; simp [maxLen]; omega
  obtain ⟨x, hx⟩ : ∃ x, σ.nd z = x := ⟨_, rfl⟩
  have HG := toHid (show ∀ own lm, giveS σ n z own lm = { σ with own := own, lm := lm, lh := upd σ.lh n (swapH (σ.lh n) x.t x.had (joinN x.had x.m)), ph := upd σ.ph x.t (upd (σ.ph x.t) n (joinN x.had x.m)) } from fun own lm => by unfold giveS; rw [hx])
  rw [hx] at hm1 hm hh ht hp hKT
  obtain ⟨j, hj⟩ : ∃ j, joinN x.had x.m = j := ⟨_, rfl⟩
  have hj6 : j < 6 := by rw [← hj]; exact joinN_lt _ _ hh hm
  have hj0 : j ≠ 0 := by rw [← hj]; exact joinN_pos hm1
  have HC := toHid (show ∀ W σ', Mem KT KN W σ' → σ'.nd z = x → IsW (σ'.own z) → W.cell? ⟨z, 3, none⟩ = some (.int .i64 ((x.had : Nat) : Int)) ∧ W.cell? ⟨z, 0, none⟩ = some (.int .i64 x.t) from fun W σ' h' e1 e2 => by
    obtain ⟨c0, _, _, c3, _⟩ := (h'.hW z e2).cells
    rw [e1] at c0 c3
    exact ⟨c3, c0⟩)
  have HWd := toHid (show ∀ W σ', Mem KT KN W σ' → σ'.nd z = x → IsW (σ'.own z) → Calls Tryz.prog 85 #[.pointer (some ⟨z, 0, none⟩)] W fun e w' => e = .returned (.int .i64 ((j : Nat) : Int)) ∧ Below W.heap.size W w' from fun W σ' h' e1 e2 => by
    have := would61 (h'.hW z e2) (by rw [e1]; exact hm) (by rw [e1]; exact hh)
    rw [e1, hj] at this
    exact this)
  rw [hj] at HG
  have hd : Below w.heap.size w w.drew := (Below.refl _ _).drew
  have hM0 := toHid (h.below hd)
  have hS0 := toHid (Step.quiet (σ := σ) hd)
  have hc0 := HC.out _ _ hM0.out hx hz
  have HS := toHid (show ∀ W σ', Mem KT KN W σ' → σ'.nd z = x → IsW (σ'.own z) → σ'.T = σ.T → σ'.B = σ.B → σ'.pb = σ.pb → σ'.pm = σ.pm → σ'.lb = σ.lb →
      W.cell? ⟨σ.T, 1, none⟩ = some (.map (some σ.B)) ∧ W.cell? ⟨z, 0, none⟩ = some (.int .i64 x.t) ∧ (Instr.lookup 65 (.map (some σ.B)) (.int .i64 x.t) false).run Tryz.prog W = .ok (.pointer (some ⟨p, 0, none⟩)) W ∧ W.cell? ⟨p, 0, none⟩ = some (.map (some (σ.pm x.t))) ∧ W.cell? ⟨b, 0, none⟩ = some (nmV n) from fun W σ' h' e1 e2 e3 e4 e5 e6 e7 => by
    obtain ⟨c0, _⟩ := (h'.hW z e2).cells
    have hL := h'.hB.look lawI Tryz.underlying65 zero61 (keyI ht)
    have hPt := (h'.hP x.t p (by rw [e5]; exact hp)).cells.1
    have hLn := (h'.hL n b (by rw [e7]; exact hb)).cells.1
    rw [e1] at c0
    rw [e4, e5] at hL
    rw [show ptF σ.pb (.int .i64 x.t) = some (ptr (some p)) from by simp [ptF, hp]] at hL
    rw [e6] at hPt
    refine ⟨?_, c0, hL, hPt, hLn⟩
    have := h'.cellsT.2
    rw [e3, e4] at this
    exact this)
  have HB := toHid hb
  have HX := toHid hx
  have HZ := toHid hz
  have HP := toHid hp
  have HZ2 := toHid (show ∀ W σ', Step w σ W σ' → IsW (σ'.own z) from fun W σ' s => by rw [s.tag z (fun e => by have := HZ.out; rw [e] at this; exact this)]; exact HZ.out)
  clear h hd hx hz hp hm1 hm hb hj
  have hu6 := hh
  clear hh
  generalize x.had = u at *
  generalize x.t = t at *
  go_enter Tryz.func77, Tryz.ntmps77
  go_wp2_with fail
  go_region_held3 (fun W => W.cell? ⟨z, 3, none⟩ = some (.int .i64 ((u : Nat) : Int)) ∧ W.cell? ⟨z, 0, none⟩ = some (.int .i64 t)) (assumption) (first | (go_at_call 45; refine (part34 hM0.out HB.out hu6 ht).mono ?_; rintro e w1 ⟨rfl, m1, s1⟩; have hM1 := toHid m1; have hS1 := toHid (hS0.out.trans s1); clear m1 s1; have hc1 := HC.out _ _ hM1.out HX.out HZ.out))
  clear hc0 hM0 hS0
  have hd1 : Below w1.heap.size w1 w1.drew := (Below.refl _ _).drew
  have hM1d := toHid (hM1.out.below hd1)
  have hS1d := toHid (hS1.out.trans (Step.quiet hd1))
  have hc1d := HC.out _ _ hM1d.out HX.out HZ.out
  clear hd1 hM1 hS1 hc1
  go_wp2_with fail
  go_region_held3 (fun W => W.cell? ⟨z, 3, none⟩ = some (.int .i64 ((u : Nat) : Int)) ∧ W.cell? ⟨z, 0, none⟩ = some (.int .i64 t)) (assumption) (first
    | (go_at_call 85; refine (HWd.out _ _ hM1d.out HX.out HZ.out).mono ?_; rintro e w2 ⟨rfl, b2⟩; have hM2 := toHid (hM1d.out.below b2); have hS2 := toHid (hS1d.out.trans (Step.quiet b2)); clear b2; have hc2 := HC.out _ _ hM2.out HX.out HZ.out)
    | (go_at_call 94; refine (join62 hM2.out HB.out hj6 ht hKT).mono ?_; rintro e w3 ⟨rfl, own, lm, m3, s3⟩; have hM3 := toHid m3; have hS3 := toHid (hS2.out.trans s3); clear m3 s3; have hc3 := HC.out _ _ hM3.out HX.out (HZ2.out _ _ hS3.out)))
  clear hM1d hS1d hc1d hM2 hS2 hc2 hc3
  have hd3 : Below w3.heap.size w3 w3.drew := (Below.refl _ _).drew
  have hM3d := toHid (hM3.out.below hd3)
  have hS3d := toHid (hS3.out.trans (Step.quiet hd3))
  have hc3d := HS.out _ _ hM3d.out HX.out (HZ2.out _ _ hS3.out) rfl rfl rfl rfl rfl
  clear hd3 hM3 hS3
  go_wp2_with fail
  go_region_held3 (fun W => W.cell? ⟨σ.T, 1, none⟩ = some (.map (some σ.B)) ∧ W.cell? ⟨z, 0, none⟩ = some (.int .i64 t) ∧ (Instr.lookup 65 (.map (some σ.B)) (.int .i64 t) false).run Tryz.prog W = .ok (.pointer (some ⟨p, 0, none⟩)) W ∧ W.cell? ⟨p, 0, none⟩ = some (.map (some (σ.pm t))) ∧ W.cell? ⟨b, 0, none⟩ = some (nmV n)) (assumption) (first
    | (go_at_call 85; refine (HWd.out _ _ hM3d.out HX.out (HZ2.out _ _ hS3d.out)).mono ?_; rintro e w4 ⟨rfl, b4⟩; have hM4 := toHid (hM3d.out.below b4); have hS4 := toHid (hS3d.out.trans (Step.quiet b4)); clear b4; have hc4 := HS.out _ _ hM4.out HX.out (HZ2.out _ _ hS4.out) rfl rfl rfl rfl rfl; obtain ⟨w5, r1, r2, r3⟩ := MapV.store (hM4.out.hP t p HP.out).map lawS Tryz.underlying95 hkn (keyS hn) hKN (.int .i64 ((j : Nat) : Int)); have R2 := toHid r2; have R3 := toHid r3; clear r2 r3; have M5 := toHid (hM4.out.chPM (q := t) (b := p) HP.out (Turn.of_map R3.out) (R2.out.congr fun x => phF_put _ n j hj0 x)); have hz4 : IsW (own z) := HZ2.out _ _ hS4.out; have hc5 := HS.out _ _ M5.out HX.out hz4 rfl rfl rfl rfl rfl))
  all_goals
    try go_wp2_with fail
    go_end0
    refine ⟨rfl, own, lm, ?_⟩
    rw [HG.out]
    have hm5 := M5.out
    have e1 : ∀ f : Name → Nat → Int → Bool, upd (upd f n (upd (f n) u (upd (f n u) t false))) n (upd (upd f n (upd (f n) u (upd (f n u) t false)) n) j (upd (upd f n (upd (f n) u (upd (f n u) t false)) n j) t true)) = upd f n (swapH (f n) t u j) := fun f => by
      funext y
      by_cases e : y = n
      · subst e
        rw [upd_same, upd_same, upd_same]
        rfl
      · rw [upd_other _ _ e, upd_other _ _ e, upd_other _ _ e]
    have hs5 := hS4.out.trans (Step.of_turn (i := σ.pm t) (by rw [(hM4.out.hP t p HP.out).tagm]; simp) (Turn.of_map R3.out) (σ' := { σ with own := own, lm := lm, lh := upd (upd σ.lh n (upd (σ.lh n) u (upd (σ.lh n u) t false))) n (upd (upd σ.lh n (upd (σ.lh n) u (upd (σ.lh n u) t false)) n) j (upd (upd σ.lh n (upd (σ.lh n) u (upd (σ.lh n u) t false)) n j) t true)), ph := upd σ.ph t (upd (σ.ph t) n j) }) rfl rfl)
    simp only [e1] at hm5 hs5
    exact ⟨hm5, hs5⟩
end

end Go.Proofs.YtclppfljengnbaaGreat
