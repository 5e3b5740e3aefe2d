/-
  LockStays: the walk.
-/
import Derived.Test.YtclppfljengnbaaWs
import Derived.BigQuiet
namespace Go.Proofs.Ytclppfljengnbaa
open Go.RowKit Go.Maps Go.Sort Go.Shelf

set_option maxRecDepth 100000 in
set_option maxHeartbeats 8000000 in
theorem stays_walk {w : World} {a a2 : Option Addr} {c c2 : Nat} {l more : List OpL} {t : Int} (h1 : SlO w a l) (hl : l.length ≤ maxLen) (h2 : SlO w a2 more) (hl2 : more.length ≤ maxLen) (htw : (Lit.int .i64 t).wf = true) :
    Calls Try.prog 5 #[.slice a l.length c, .slice a2 more.length c2, .int .i64 t] w fun e w' => e = .returned (.bool true) ∧ Below w.heap.size w w' := by
  obtain ⟨KT, hKT⟩ : ∃ KT, KT = (l.take 60).map (fun o => Lit.int .i64 o.txn) ++ (more.take 40).map (fun o => Lit.int .i64 o.txn) := ⟨_, rfl⟩
  obtain ⟨KN, hKN⟩ : ∃ KN, KN = (l.take 60).map (fun o => Lit.string o.name) ++ (more.take 40).map (fun o => Lit.string o.name) := ⟨_, rfl⟩
  have hled := led6 (KT := KT) (KN := KN) (c := c) h1 hl (by rw [hKT]; simp; omega) (by rw [hKN]; simp; omega) (fun i hi h6 => by
    have hm : l[i] ∈ l.take 60 := by rw [List.mem_take_iff_getElem]; exact ⟨i, by omega, rfl⟩
    exact ⟨by rw [hKT]; exact List.mem_append_left _ (List.mem_map.2 ⟨_, hm, rfl⟩), by rw [hKN]; exact List.mem_append_left _ (List.mem_map.2 ⟨_, hm, rfl⟩)⟩)
  have HIn := toHid (show ∀ i (hi : i < more.length), i < 40 → Lit.int .i64 more[i].txn ∈ KT ∧ Lit.string more[i].name ∈ KN from fun i hi h6 => by
    have hm : more[i] ∈ more.take 40 := by rw [List.mem_take_iff_getElem]; exact ⟨i, by omega, rfl⟩
    exact ⟨by rw [hKT]; exact List.mem_append_right _ (List.mem_map.2 ⟨_, hm, rfl⟩), by rw [hKN]; exact List.mem_append_right _ (List.mem_map.2 ⟨_, hm, rfl⟩)⟩)
  have hlm2 : more.length ≤ 9223372036854775807 := by unfold maxLen at hl2; omega
  have HL := toHid h2
  have hlv := lives12
  clear hKT hKN h1 h2 hl hl2
  have tok8 : True := trivial
  go_enter Try.func5, Try.ntmps5
  go_wp2_with (first
    | (go_at_call 6; refine hled.mono ?_; rintro e w1 ⟨σ1, Q1, rfl, m1, g1, b1, o1⟩; have ST1 := toHid (show Stp KT KN w σ1.T w1 σ1 Q1 from ⟨m1, g1, b1, o1, rfl⟩); have hh := held_at m1 g1 htw (B := w.heap.size) b1.size; clear m1 g1 b1 o1)
    | (go_at_call 8; have _t := tok8; refine hh.mono ?_; rintro e w2 ⟨a8, c8, ks, rfl, r2, b2, _⟩; have ST2 := toHid (ST1.out.quiet b2); have R2 := toHid r2; clear r2 b2 tok8))
  obtain ⟨T, hT⟩ : ∃ T, σ1.T = T := ⟨_, rfl⟩
  rw [hT] at ST2 ⊢
  clear hh ST1 hled
  go_loopw [8, 9] (fun v k W => ∃ (i : Nat) (σ : Sg) (Q : Name → List Nat) (a8 : Option Addr) (c8 : Nat) (ks : List Name), i ≤ more.length ∧ i ≤ 40 ∧ v = .slice a8 ks.length c8 ∧ k = .int .i64 i ∧ Hid (Stp KT KN w T W σ Q) ∧ Hid (HeldR w.heap.size W σ (.slice a8 ks.length c8) ks (σ.ph t))) (fun _ k _ => more.length - (intOf k).toNat)
  case atStart => exact ⟨0, σ1, Q1, a8, c8, ks, Nat.zero_le _, by omega, rfl, rfl, ST2, R2⟩
  case round =>
    rename World => W1
    obtain ⟨i0, σ, Q, a8, c8, ks, hi, h40, rfl, rfl, ST, R⟩ := hrel
    clear ST2 R2
    have hq2 : 0 ≤ (i0 : Int) := by omega
    by_cases hlt : i0 < more.length
    · have hq1 : (i0 : Int) < (more.length : Int) := by omega
      by_cases h4 : i0 < 40
      · have hq3 : (i0 : Int) < 40 := by omega
        obtain ⟨b, o, rfl, _⟩ := HL.out.at_ i0 hlt
        have HC := toHid (show ∀ W, Below w.heap.size w W → W.cell? ⟨b, o + i0 * 4, none⟩ = some (.int .i64 more[i0].kind) ∧ W.cell? ⟨b, o + i0 * 4 + 1, none⟩ = some (.int .i64 more[i0].txn) ∧ W.cell? ⟨b, o + i0 * 4 + 2, none⟩ = some (nmV more[i0].name) ∧ W.cell? ⟨b, o + i0 * 4 + 3, none⟩ = some (.int .i64 more[i0].mode) from fun W hW => by
          obtain ⟨b', o', e, c0, c1, c2, c3⟩ := (HL.out.below hW rfl).at_ i0 hlt
          injection e with e
          injection e with e1 e2 e3
          subst e1
          subst e2
          exact ⟨c0, c1, c2, c3⟩)
        have hwf := HL.out.wf more[i0] (List.getElem_mem hlt)
        obtain ⟨hkt1, hkn1⟩ := HIn.out i0 hlt h4
        generalize more[i0] = op at *
        obtain ⟨c0, c1, c2, c3⟩ := HC.out W1 ST.out.bel
        have hsh := short13 op W1
        have hat := hwf.txn
        have HCW := toHid (show ∀ W, Below W1.heap.size W1 W → W.cell? ⟨b, o + i0 * 4, none⟩ = some (.int .i64 op.kind) ∧ W.cell? ⟨b, o + i0 * 4 + 1, none⟩ = some (.int .i64 op.txn) ∧ W.cell? ⟨b, o + i0 * 4 + 2, none⟩ = some (nmV op.name) ∧ W.cell? ⟨b, o + i0 * 4 + 3, none⟩ = some (.int .i64 op.mode) from fun W hW => HC.out W (bnext ST.out.bel hW))
        have HCB := toHid (show ∀ W, Below w.heap.size w W → W.cell? ⟨b, o + i0 * 4 + 1, none⟩ = some (.int .i64 op.txn) ∧ W.cell? ⟨b, o + i0 * 4 + 2, none⟩ = some (nmV op.name) ∧ W.cell? ⟨b, o + i0 * 4 + 3, none⟩ = some (.int .i64 op.mode) from fun W hW => (HC.out W hW).2)
        have HSk := toHid (show ∀ W, Below W1.heap.size W1 W → ∃ (i : Nat) (σ : Sg) (Q : Name → List Nat) (a' : Option Addr) (c' : Nat) (ks' : List Name), i ≤ more.length ∧ i ≤ 40 ∧ (Value.slice a8 ks.length c8) = .slice a' ks'.length c' ∧ (Value.int .i64 ((i0 : Int) + 1)) = .int .i64 i ∧ Hid (Stp KT KN w T W σ Q) ∧ Hid (HeldR w.heap.size W σ (.slice a' ks'.length c') ks' (σ.ph t)) from fun W hW =>
          ⟨i0 + 1, σ, Q, a8, c8, ks, by omega, by omega, rfl, by simp, toHid (ST.out.quiet hW), toHid (R.out.step (Step.quiet hW))⟩)
        by_cases hs : op.name.length ≤ 1000
        · rw [show decide (op.name.length ≤ 1000) = true from by simp [hs]] at hsh
          by_cases k0 : op.kind = 0
          · rw [k0] at hsh c0 HCW
            go_wp2_with (first
              | (go_at_call 13; refine hsh.mono ?_; rintro e w2 ⟨rfl, b2⟩; have B2 := toHid b2; obtain ⟨d0, d1, d2, d3⟩ := HCW.out w2 b2; clear b2))
            have hd2 : Below W1.heap.size W1 w2.drew := B2.out.drew
            have hc2 := (HCW.out _ hd2).2
            have hask := stp_ask (ST.out.quiet hd2) (n := op.name) (md := op.mode) hat hkt1 hkn1
            obtain ⟨f0, hf0⟩ : ∃ f0, σ.ph t = f0 := ⟨_, rfl⟩
            have RX := toHid (show HeldR w.heap.size w2.drew σ (.slice a8 ks.length c8) ks f0 from by rw [← hf0]; exact R.out.step (Step.quiet hd2))
            have HF0 := toHid hf0
            clear hd2 hf0
            go_region_held3 (fun W => W.cell? ⟨b, o + i0 * 4 + 1, none⟩ = some (.int .i64 op.txn) ∧ W.cell? ⟨b, o + i0 * 4 + 2, none⟩ = some (nmV op.name) ∧ W.cell? ⟨b, o + i0 * 4 + 3, none⟩ = some (.int .i64 op.mode)) (assumption) (first
              | (go_at_call 15; refine hask.mono ?_; rintro e w4 ⟨g, er, rfl, σ4, Q4, st4, s4, kp4⟩; have hc4 := HCB.out _ st4.bel; have ST4 := toHid st4; have R4 := toHid (show HeldR w.heap.size w4 σ4 (.slice a8 ks.length c8) ks f0 from (RX.out).step s4); have KP := toHid (show ∀ n, joinN (f0 n) (σ4.ph t n) = σ4.ph t n from fun n => by rw [← HF0.out]; exact kp4 t n); clear st4 s4 kp4))
            all_goals
              clear hc2 hc4 d0 d1 d2 d3 c0 c1 c2 c3 hsh hask HSk HCW HCB HC
              have hh5 := held_at ST4.out.mem ST4.out.good htw (B := w.heap.size) ST4.out.bel.size
              rw [ST4.out.top] at hh5
              go_wp2_with (first
                | (go_at_call 8; refine hh5.mono ?_; rintro e w5 ⟨a5, c5, ks5, rfl, r5, b5, _⟩; have ST5 := toHid (ST4.out.quiet b5); have R5 := toHid r5; have RW := toHid (R4.out.step (Step.quiet (σ := σ4) b5)); clear r5 b5))
              have hkl := RW.out.few
              have hkl5 := R5.out.few
              go_loopw [11] (fun k W => ∃ i2 : Nat, i2 ≤ ks.length ∧ k = .int .i64 i2 ∧ Hid (Below w5.heap.size w5 W)) (fun k _ => ks.length - (intOf k).toNat)
              case atStart => exact ⟨0, Nat.zero_le _, rfl, toHid (Below.refl _ _)⟩
              case round =>
                rename World => W2
                obtain ⟨i2, hi2, rfl, B2⟩ := hrel
                have hp2 : 0 ≤ (i2 : Int) := by omega
                by_cases hlt2 : i2 < ks.length
                · have hp1 : (i2 : Int) < (ks.length : Int) := by omega
                  obtain ⟨g8, rfl, x0, x1, xl⟩ := RW.out.at hlt2
                  obtain ⟨kn, hkn'⟩ : ∃ kn, ks[i2] = kn := ⟨_, rfl⟩
                  rw [hkn'] at x0 x1
                  have hkin : kn ∈ ks := by rw [← hkn']; exact List.getElem_mem hlt2
                  have XC := toHid (show ∀ W, Below w5.heap.size w5 W → W.cell? ⟨g8, i2 * 2, none⟩ = some (nmV kn) ∧ W.cell? ⟨g8, i2 * 2 + 1, none⟩ = some (.int .i64 ((f0 kn : Nat) : Int)) from fun W hW => ⟨(hW.cell (p := ⟨g8, _, none⟩) xl).trans x0, (hW.cell (p := ⟨g8, _, none⟩) xl).trans x1⟩)
                  have HIn := toHid (show kn ∈ ks5 from (R5.out.mem kn).2 (fun e => by
                    have h1 := KP.out kn
                    rw [e] at h1
                    have h2 := (RW.out.mem kn).1 hkin
                    unfold joinN at h1
                    split at h1 <;> omega))
                  have HCv := toHid (show ∀ W, Calls Try.prog 10 #[.int .i64 ((σ4.ph t kn : Nat) : Int), .int .i64 ((f0 kn : Nat) : Int)] W fun e w' => e = .returned (.bool true) ∧ w' = W from fun W => by
                    have := refcovers_any ((σ4.ph t kn : Nat) : Int) ((f0 kn : Nat) : Int) W
                    rw [cnt_nat (R5.out.low kn), cnt_nat (RW.out.low kn), cov_of (RW.out.low kn) (R5.out.low kn) (KP.out kn)] at this
                    exact this)
                  clear x0 x1 hkn' hkin
                  go_wp2_with fail
                  go_loopw [12, 13] (fun kv k W => ∃ i3 : Nat, i3 ≤ ks5.length ∧ k = .int .i64 i3 ∧ Hid (Below w5.heap.size w5 W) ∧ ∃ kb : Bool, kv = .bool kb ∧ Hid (kn ∈ ks5.take i3 → kb = true)) (fun _ k _ => ks5.length - (intOf k).toNat)
                  case atStart => exact ⟨0, Nat.zero_le _, rfl, B2, false, rfl, toHid (by simp)⟩
                  case round =>
                    rename World => W3
                    obtain ⟨i3, hi3, rfl, B3, kb, rfl, KB⟩ := hrel
                    have hr2 : 0 ≤ (i3 : Int) := by omega
                    by_cases hlt3 : i3 < ks5.length
                    · have hr1 : (i3 : Int) < (ks5.length : Int) := by omega
                      obtain ⟨g5, rfl, y0, y1, yl⟩ := R5.out.at hlt3
                      obtain ⟨kj, hkj⟩ : ∃ kj, ks5[i3] = kj := ⟨_, rfl⟩
                      rw [hkj] at y0 y1
                      have YC := toHid (show ∀ W, Below w5.heap.size w5 W → W.cell? ⟨g5, i3 * 2, none⟩ = some (nmV kj) ∧ W.cell? ⟨g5, i3 * 2 + 1, none⟩ = some (.int .i64 ((σ4.ph t kj : Nat) : Int)) from fun W hW => ⟨(hW.cell (p := ⟨g5, _, none⟩) yl).trans y0, (hW.cell (p := ⟨g5, _, none⟩) yl).trans y1⟩)
                      have HTk := toHid (show ks5.take (i3 + 1) = ks5.take i3 ++ [kj] from by rw [List.take_add_one, List.getElem?_eq_getElem hlt3, hkj]; rfl)
                      clear y0 y1 hkj
                      obtain ⟨x0, x1⟩ := XC.out _ B3.out
                      obtain ⟨y0, y1⟩ := YC.out _ B3.out
                      have HBq := toHid (show ∀ n, Below w5.heap.size w5 (W3.drewN n) from fun n => B3.out.trans (Go.Joins.below_draws _ _ _))
                      cases kb with
                      | true =>
                        go_wp2_with fail
                        go_quiet (fail)
                        go_wp2_with fail
                        go_roundw
                        case rel => exact ⟨i3 + 1, by omega, by simp, toHid (HBq.out _), true, rfl, toHid fun _ => rfl⟩
                        case measure => first | omega | (simp only [intOf]; omega)
                      | false =>
                        by_cases hkk : kj = kn
                        · subst hkk
                          go_wp2_with fail
                          go_quiet ((go_at_call 10; exact Calls.quiet_of_same (HCv.out _)))
                          go_wp2_with fail
                          go_roundw
                          case rel => exact ⟨i3 + 1, by omega, by simp, toHid (HBq.out _), true, rfl, toHid fun _ => rfl⟩
                          case measure => first | omega | (simp only [intOf]; omega)
                        · have he2 : decide (kj = kn) = false := by simp [hkk]
                          go_wp2_with fail
                          go_quiet (fail)
                          go_wp2_with fail
                          go_roundw
                          case rel => exact ⟨i3 + 1, by omega, by simp, toHid (HBq.out _), false, rfl, toHid fun hh => by rw [HTk.out] at hh; simp at hh; exact hh.elim (fun e => KB.out e) (fun e => absurd e.symm hkk)⟩
                          case measure => first | omega | (simp only [intOf]; omega)
                    · obtain rfl : i3 = ks5.length := by omega
                      obtain rfl : kb = true := KB.out (by rw [List.take_length]; exact HIn.out)
                      go_wp2_with fail
                      go_roundw
                      case rel => exact ⟨i2 + 1, by omega, by simp, B3⟩
                      case measure => first | omega | (simp only [intOf]; omega)
                · obtain rfl : i2 = ks.length := by omega
                  have HNx := toHid (show ∃ (i : Nat) (σ : Sg) (Q : Name → List Nat) (a8 : Option Addr) (c8 : Nat) (ks : List Name), i ≤ more.length ∧ i ≤ 40 ∧ (Value.slice a5 ks5.length c5) = .slice a8 ks.length c8 ∧ (Value.int .i64 ((i0 : Int) + 1)) = .int .i64 i ∧ Hid (Stp KT KN w T W2 σ Q) ∧ Hid (HeldR w.heap.size W2 σ (.slice a8 ks.length c8) ks (σ.ph t)) from
                    ⟨i0 + 1, σ4, Q4, a5, c5, ks5, by omega, by omega, rfl, by simp, toHid (ST5.out.quiet B2.out), toHid (R5.out.step (Step.quiet B2.out))⟩)
                  go_wp2_with fail
                  go_roundw
                  case rel => exact HNx.out
                  case measure => first | omega | (simp only [intOf]; omega)
          · by_cases k1 : op.kind = 1
            · by_cases hself : op.txn = t
              · rw [k1] at hsh c0 HCW
                rw [hself] at hsh c1 HCW
                go_wp2_with (first | (go_at_call 13; refine hsh.mono ?_; rintro e w2 ⟨rfl, b2⟩; have B2 := toHid b2; obtain ⟨d0, d1, d2, d3⟩ := HCW.out w2 b2; clear b2))
                have HR := toHid (HSk.out _ B2.out)
                go_roundw
                case rel => exact HR.out
                case measure => first | omega | (simp only [intOf]; omega)
              · rw [k1] at hsh c0 HCW
                have hcl := toHid (fun W (hW : Below W1.heap.size W1 W) => stp_free (t := op.txn) (ST.out.quiet hW) hat)
                obtain ⟨f0, hf0⟩ : ∃ f0, σ.ph t = f0 := ⟨_, rfl⟩
                have HF0 := toHid hf0
                clear hf0
                go_wp2_with (first
                  | (go_at_call 13; refine hsh.mono ?_; rintro e w2 ⟨rfl, b2⟩; have B2 := toHid b2; obtain ⟨d0, d1, d2, d3⟩ := HCW.out w2 b2; clear b2)
                  | (go_at_call 18; refine (hcl.out _ B2.out).mono ?_; rintro e w4 ⟨v, rfl, σ4, Q4, st4, s4, kp4⟩; have RX := toHid (show HeldR w.heap.size w2 σ (.slice a8 ks.length c8) ks f0 from by rw [← HF0.out]; exact R.out.step (Step.quiet B2.out)); have ST4 := toHid st4; have R4 := toHid (show HeldR w.heap.size w4 σ4 (.slice a8 ks.length c8) ks f0 from (RX.out).step s4); have KP := toHid (show ∀ n, joinN (f0 n) (σ4.ph t n) = σ4.ph t n from fun n => by rw [← HF0.out]; exact kp4 t n (Ne.symm hself)); clear st4 s4 kp4))
                clear d0 d1 d2 d3 c0 c1 c2 c3 hsh hcl HSk HCW HCB HC

                have hh5 := held_at ST4.out.mem ST4.out.good htw (B := w.heap.size) ST4.out.bel.size
                rw [ST4.out.top] at hh5
                go_wp2_with (first
                  | (go_at_call 8; refine hh5.mono ?_; rintro e w5 ⟨a5, c5, ks5, rfl, r5, b5, _⟩; have ST5 := toHid (ST4.out.quiet b5); have R5 := toHid r5; have RW := toHid (R4.out.step (Step.quiet (σ := σ4) b5)); clear r5 b5))
                have hkl := RW.out.few
                have hkl5 := R5.out.few
                go_loopw [11] (fun k W => ∃ i2 : Nat, i2 ≤ ks.length ∧ k = .int .i64 i2 ∧ Hid (Below w5.heap.size w5 W)) (fun k _ => ks.length - (intOf k).toNat)
                case atStart => exact ⟨0, Nat.zero_le _, rfl, toHid (Below.refl _ _)⟩
                case round =>
                  rename World => W2
                  obtain ⟨i2, hi2, rfl, B2⟩ := hrel
                  have hp2 : 0 ≤ (i2 : Int) := by omega
                  by_cases hlt2 : i2 < ks.length
                  · have hp1 : (i2 : Int) < (ks.length : Int) := by omega
                    obtain ⟨g8, rfl, x0, x1, xl⟩ := RW.out.at hlt2
                    obtain ⟨kn, hkn'⟩ : ∃ kn, ks[i2] = kn := ⟨_, rfl⟩
                    rw [hkn'] at x0 x1
                    have hkin : kn ∈ ks := by rw [← hkn']; exact List.getElem_mem hlt2
                    have XC := toHid (show ∀ W, Below w5.heap.size w5 W → W.cell? ⟨g8, i2 * 2, none⟩ = some (nmV kn) ∧ W.cell? ⟨g8, i2 * 2 + 1, none⟩ = some (.int .i64 ((f0 kn : Nat) : Int)) from fun W hW => ⟨(hW.cell (p := ⟨g8, _, none⟩) xl).trans x0, (hW.cell (p := ⟨g8, _, none⟩) xl).trans x1⟩)
                    have HIn := toHid (show kn ∈ ks5 from (R5.out.mem kn).2 (fun e => by
                      have h1 := KP.out kn
                      rw [e] at h1
                      have h2 := (RW.out.mem kn).1 hkin
                      unfold joinN at h1
                      split at h1 <;> omega))
                    have HCv := toHid (show ∀ W, Calls Try.prog 10 #[.int .i64 ((σ4.ph t kn : Nat) : Int), .int .i64 ((f0 kn : Nat) : Int)] W fun e w' => e = .returned (.bool true) ∧ w' = W from fun W => by
                      have := refcovers_any ((σ4.ph t kn : Nat) : Int) ((f0 kn : Nat) : Int) W
                      rw [cnt_nat (R5.out.low kn), cnt_nat (RW.out.low kn), cov_of (RW.out.low kn) (R5.out.low kn) (KP.out kn)] at this
                      exact this)
                    clear x0 x1 hkn' hkin
                    go_wp2_with fail
                    go_loopw [12, 13] (fun kv k W => ∃ i3 : Nat, i3 ≤ ks5.length ∧ k = .int .i64 i3 ∧ Hid (Below w5.heap.size w5 W) ∧ ∃ kb : Bool, kv = .bool kb ∧ Hid (kn ∈ ks5.take i3 → kb = true)) (fun _ k _ => ks5.length - (intOf k).toNat)
                    case atStart => exact ⟨0, Nat.zero_le _, rfl, B2, false, rfl, toHid (by simp)⟩
                    case round =>
                      rename World => W3
                      obtain ⟨i3, hi3, rfl, B3, kb, rfl, KB⟩ := hrel
                      have hr2 : 0 ≤ (i3 : Int) := by omega
                      by_cases hlt3 : i3 < ks5.length
                      · have hr1 : (i3 : Int) < (ks5.length : Int) := by omega
                        obtain ⟨g5, rfl, y0, y1, yl⟩ := R5.out.at hlt3
                        obtain ⟨kj, hkj⟩ : ∃ kj, ks5[i3] = kj := ⟨_, rfl⟩
                        rw [hkj] at y0 y1
                        have YC := toHid (show ∀ W, Below w5.heap.size w5 W → W.cell? ⟨g5, i3 * 2, none⟩ = some (nmV kj) ∧ W.cell? ⟨g5, i3 * 2 + 1, none⟩ = some (.int .i64 ((σ4.ph t kj : Nat) : Int)) from fun W hW => ⟨(hW.cell (p := ⟨g5, _, none⟩) yl).trans y0, (hW.cell (p := ⟨g5, _, none⟩) yl).trans y1⟩)
                        have HTk := toHid (show ks5.take (i3 + 1) = ks5.take i3 ++ [kj] from by rw [List.take_add_one, List.getElem?_eq_getElem hlt3, hkj]; rfl)
                        clear y0 y1 hkj
                        obtain ⟨x0, x1⟩ := XC.out _ B3.out
                        obtain ⟨y0, y1⟩ := YC.out _ B3.out
                        have HBq := toHid (show ∀ n, Below w5.heap.size w5 (W3.drewN n) from fun n => B3.out.trans (Go.Joins.below_draws _ _ _))
                        cases kb with
                        | true =>
                          go_wp2_with fail
                          go_quiet (fail)
                          go_wp2_with fail
                          go_roundw
                          case rel => exact ⟨i3 + 1, by omega, by simp, toHid (HBq.out _), true, rfl, toHid fun _ => rfl⟩
                          case measure => first | omega | (simp only [intOf]; omega)
                        | false =>
                          by_cases hkk : kj = kn
                          · subst hkk
                            go_wp2_with fail
                            go_quiet ((go_at_call 10; exact Calls.quiet_of_same (HCv.out _)))
                            go_wp2_with fail
                            go_roundw
                            case rel => exact ⟨i3 + 1, by omega, by simp, toHid (HBq.out _), true, rfl, toHid fun _ => rfl⟩
                            case measure => first | omega | (simp only [intOf]; omega)
                          · have he2 : decide (kj = kn) = false := by simp [hkk]
                            go_wp2_with fail
                            go_quiet (fail)
                            go_wp2_with fail
                            go_roundw
                            case rel => exact ⟨i3 + 1, by omega, by simp, toHid (HBq.out _), false, rfl, toHid fun hh => by rw [HTk.out] at hh; simp at hh; exact hh.elim (fun e => KB.out e) (fun e => absurd e.symm hkk)⟩
                            case measure => first | omega | (simp only [intOf]; omega)
                      · obtain rfl : i3 = ks5.length := by omega
                        obtain rfl : kb = true := KB.out (by rw [List.take_length]; exact HIn.out)
                        go_wp2_with fail
                        go_roundw
                        case rel => exact ⟨i2 + 1, by omega, by simp, B3⟩
                        case measure => first | omega | (simp only [intOf]; omega)
                  · obtain rfl : i2 = ks.length := by omega
                    have HNx := toHid (show ∃ (i : Nat) (σ : Sg) (Q : Name → List Nat) (a8 : Option Addr) (c8 : Nat) (ks : List Name), i ≤ more.length ∧ i ≤ 40 ∧ (Value.slice a5 ks5.length c5) = .slice a8 ks.length c8 ∧ (Value.int .i64 ((i0 : Int) + 1)) = .int .i64 i ∧ Hid (Stp KT KN w T W2 σ Q) ∧ Hid (HeldR w.heap.size W2 σ (.slice a8 ks.length c8) ks (σ.ph t)) from
                      ⟨i0 + 1, σ4, Q4, a5, c5, ks5, by omega, by omega, rfl, by simp, toHid (ST5.out.quiet B2.out), toHid (R5.out.step (Step.quiet B2.out))⟩)
                    go_wp2_with fail
                    go_roundw
                    case rel => exact HNx.out
                    case measure => first | omega | (simp only [intOf]; omega)
            · by_cases k2 : op.kind = 2
              · rw [k2] at hsh c0 HCW
                have hcl := toHid (fun W (hW : Below W1.heap.size W1 W) => stp_cancel (t := op.txn) (ST.out.quiet hW) hat)
                obtain ⟨f0, hf0⟩ : ∃ f0, σ.ph t = f0 := ⟨_, rfl⟩
                have HF0 := toHid hf0
                clear hf0
                go_wp2_with (first
                  | (go_at_call 13; refine hsh.mono ?_; rintro e w2 ⟨rfl, b2⟩; have B2 := toHid b2; obtain ⟨d0, d1, d2, d3⟩ := HCW.out w2 b2; clear b2)
                  | (go_at_call 19; refine (hcl.out _ B2.out).mono ?_; rintro e w4 ⟨v, rfl, σ4, Q4, st4, s4, kp4⟩; have RX := toHid (show HeldR w.heap.size w2 σ (.slice a8 ks.length c8) ks f0 from by rw [← HF0.out]; exact R.out.step (Step.quiet B2.out)); have ST4 := toHid st4; have R4 := toHid (show HeldR w.heap.size w4 σ4 (.slice a8 ks.length c8) ks f0 from (RX.out).step s4); have KP := toHid (show ∀ n, joinN (f0 n) (σ4.ph t n) = σ4.ph t n from fun n => by rw [← HF0.out]; exact kp4 t n); clear st4 s4 kp4))
                clear d0 d1 d2 d3 c0 c1 c2 c3 hsh hcl HSk HCW HCB HC

                have hh5 := held_at ST4.out.mem ST4.out.good htw (B := w.heap.size) ST4.out.bel.size
                rw [ST4.out.top] at hh5
                go_wp2_with (first
                  | (go_at_call 8; refine hh5.mono ?_; rintro e w5 ⟨a5, c5, ks5, rfl, r5, b5, _⟩; have ST5 := toHid (ST4.out.quiet b5); have R5 := toHid r5; have RW := toHid (R4.out.step (Step.quiet (σ := σ4) b5)); clear r5 b5))
                have hkl := RW.out.few
                have hkl5 := R5.out.few
                go_loopw [11] (fun k W => ∃ i2 : Nat, i2 ≤ ks.length ∧ k = .int .i64 i2 ∧ Hid (Below w5.heap.size w5 W)) (fun k _ => ks.length - (intOf k).toNat)
                case atStart => exact ⟨0, Nat.zero_le _, rfl, toHid (Below.refl _ _)⟩
                case round =>
                  rename World => W2
                  obtain ⟨i2, hi2, rfl, B2⟩ := hrel
                  have hp2 : 0 ≤ (i2 : Int) := by omega
                  by_cases hlt2 : i2 < ks.length
                  · have hp1 : (i2 : Int) < (ks.length : Int) := by omega
                    obtain ⟨g8, rfl, x0, x1, xl⟩ := RW.out.at hlt2
                    obtain ⟨kn, hkn'⟩ : ∃ kn, ks[i2] = kn := ⟨_, rfl⟩
                    rw [hkn'] at x0 x1
                    have hkin : kn ∈ ks := by rw [← hkn']; exact List.getElem_mem hlt2
                    have XC := toHid (show ∀ W, Below w5.heap.size w5 W → W.cell? ⟨g8, i2 * 2, none⟩ = some (nmV kn) ∧ W.cell? ⟨g8, i2 * 2 + 1, none⟩ = some (.int .i64 ((f0 kn : Nat) : Int)) from fun W hW => ⟨(hW.cell (p := ⟨g8, _, none⟩) xl).trans x0, (hW.cell (p := ⟨g8, _, none⟩) xl).trans x1⟩)
                    have HIn := toHid (show kn ∈ ks5 from (R5.out.mem kn).2 (fun e => by
                      have h1 := KP.out kn
                      rw [e] at h1
                      have h2 := (RW.out.mem kn).1 hkin
                      unfold joinN at h1
                      split at h1 <;> omega))
                    have HCv := toHid (show ∀ W, Calls Try.prog 10 #[.int .i64 ((σ4.ph t kn : Nat) : Int), .int .i64 ((f0 kn : Nat) : Int)] W fun e w' => e = .returned (.bool true) ∧ w' = W from fun W => by
                      have := refcovers_any ((σ4.ph t kn : Nat) : Int) ((f0 kn : Nat) : Int) W
                      rw [cnt_nat (R5.out.low kn), cnt_nat (RW.out.low kn), cov_of (RW.out.low kn) (R5.out.low kn) (KP.out kn)] at this
                      exact this)
                    clear x0 x1 hkn' hkin
                    go_wp2_with fail
                    go_loopw [12, 13] (fun kv k W => ∃ i3 : Nat, i3 ≤ ks5.length ∧ k = .int .i64 i3 ∧ Hid (Below w5.heap.size w5 W) ∧ ∃ kb : Bool, kv = .bool kb ∧ Hid (kn ∈ ks5.take i3 → kb = true)) (fun _ k _ => ks5.length - (intOf k).toNat)
                    case atStart => exact ⟨0, Nat.zero_le _, rfl, B2, false, rfl, toHid (by simp)⟩
                    case round =>
                      rename World => W3
                      obtain ⟨i3, hi3, rfl, B3, kb, rfl, KB⟩ := hrel
                      have hr2 : 0 ≤ (i3 : Int) := by omega
                      by_cases hlt3 : i3 < ks5.length
                      · have hr1 : (i3 : Int) < (ks5.length : Int) := by omega
                        obtain ⟨g5, rfl, y0, y1, yl⟩ := R5.out.at hlt3
                        obtain ⟨kj, hkj⟩ : ∃ kj, ks5[i3] = kj := ⟨_, rfl⟩
                        rw [hkj] at y0 y1
                        have YC := toHid (show ∀ W, Below w5.heap.size w5 W → W.cell? ⟨g5, i3 * 2, none⟩ = some (nmV kj) ∧ W.cell? ⟨g5, i3 * 2 + 1, none⟩ = some (.int .i64 ((σ4.ph t kj : Nat) : Int)) from fun W hW => ⟨(hW.cell (p := ⟨g5, _, none⟩) yl).trans y0, (hW.cell (p := ⟨g5, _, none⟩) yl).trans y1⟩)
                        have HTk := toHid (show ks5.take (i3 + 1) = ks5.take i3 ++ [kj] from by rw [List.take_add_one, List.getElem?_eq_getElem hlt3, hkj]; rfl)
                        clear y0 y1 hkj
                        obtain ⟨x0, x1⟩ := XC.out _ B3.out
                        obtain ⟨y0, y1⟩ := YC.out _ B3.out
                        have HBq := toHid (show ∀ n, Below w5.heap.size w5 (W3.drewN n) from fun n => B3.out.trans (Go.Joins.below_draws _ _ _))
                        cases kb with
                        | true =>
                          go_wp2_with fail
                          go_quiet (fail)
                          go_wp2_with fail
                          go_roundw
                          case rel => exact ⟨i3 + 1, by omega, by simp, toHid (HBq.out _), true, rfl, toHid fun _ => rfl⟩
                          case measure => first | omega | (simp only [intOf]; omega)
                        | false =>
                          by_cases hkk : kj = kn
                          · subst hkk
                            go_wp2_with fail
                            go_quiet ((go_at_call 10; exact Calls.quiet_of_same (HCv.out _)))
                            go_wp2_with fail
                            go_roundw
                            case rel => exact ⟨i3 + 1, by omega, by simp, toHid (HBq.out _), true, rfl, toHid fun _ => rfl⟩
                            case measure => first | omega | (simp only [intOf]; omega)
                          · have he2 : decide (kj = kn) = false := by simp [hkk]
                            go_wp2_with fail
                            go_quiet (fail)
                            go_wp2_with fail
                            go_roundw
                            case rel => exact ⟨i3 + 1, by omega, by simp, toHid (HBq.out _), false, rfl, toHid fun hh => by rw [HTk.out] at hh; simp at hh; exact hh.elim (fun e => KB.out e) (fun e => absurd e.symm hkk)⟩
                            case measure => first | omega | (simp only [intOf]; omega)
                      · obtain rfl : i3 = ks5.length := by omega
                        obtain rfl : kb = true := KB.out (by rw [List.take_length]; exact HIn.out)
                        go_wp2_with fail
                        go_roundw
                        case rel => exact ⟨i2 + 1, by omega, by simp, B3⟩
                        case measure => first | omega | (simp only [intOf]; omega)
                  · obtain rfl : i2 = ks.length := by omega
                    have HNx := toHid (show ∃ (i : Nat) (σ : Sg) (Q : Name → List Nat) (a8 : Option Addr) (c8 : Nat) (ks : List Name), i ≤ more.length ∧ i ≤ 40 ∧ (Value.slice a5 ks5.length c5) = .slice a8 ks.length c8 ∧ (Value.int .i64 ((i0 : Int) + 1)) = .int .i64 i ∧ Hid (Stp KT KN w T W2 σ Q) ∧ Hid (HeldR w.heap.size W2 σ (.slice a8 ks.length c8) ks (σ.ph t)) from
                      ⟨i0 + 1, σ4, Q4, a5, c5, ks5, by omega, by omega, rfl, by simp, toHid (ST5.out.quiet B2.out), toHid (R5.out.step (Step.quiet B2.out))⟩)
                    go_wp2_with fail
                    go_roundw
                    case rel => exact HNx.out
                    case measure => first | omega | (simp only [intOf]; omega)
              · obtain ⟨f0, hf0⟩ : ∃ f0, σ.ph t = f0 := ⟨_, rfl⟩
                have HH5 := toHid (show ∀ W, Below W1.heap.size W1 W → Calls Try.prog 8 #[.pointer (some ⟨T, 0, none⟩), .int .i64 t] W fun e w' => ∃ a c ks, e = .returned (.slice a (List.length ks) c) ∧ HeldR w.heap.size w' σ (.slice a (List.length ks) c) ks (σ.ph t) ∧ Below W.heap.size W w' ∧ ks.Pairwise (· < ·) from fun W hW => by
                  have := held_at (ST.out.quiet hW).mem ST.out.good htw (B := w.heap.size) (ST.out.quiet hW).bel.size
                  rw [ST.out.top] at this
                  exact this)
                have KP := toHid (show ∀ n, joinN (f0 n) (σ.ph t n) = σ.ph t n from fun n => by rw [hf0]; exact joinN_self)
                have R4 := toHid (show HeldR w.heap.size W1 σ (.slice a8 ks.length c8) ks f0 from by rw [← hf0]; exact R.out)
                clear hf0 HSk HCB R HC
                go_wp2_with (first
                  | (go_at_call 13; refine hsh.mono ?_; rintro e w2 ⟨rfl, b2⟩; have B2 := toHid b2; obtain ⟨d0, d1, d2, d3⟩ := HCW.out w2 b2; clear b2)
                  | (go_at_call 8; refine (HH5.out _ B2.out).mono ?_; rintro e w5 ⟨a5, c5, ks5, rfl, r5, b5, _⟩; have ST5 := toHid ((ST.out.quiet B2.out).quiet b5); have R5 := toHid r5; have RW := toHid (R4.out.step (Step.quiet (σ := σ) (bnext B2.out b5))); clear r5 b5))
                clear d0 d1 d2 d3 c0 c1 c2 c3 hsh HCW HH5
                have hkl := RW.out.few
                have hkl5 := R5.out.few
                go_loopw [11] (fun k W => ∃ i2 : Nat, i2 ≤ ks.length ∧ k = .int .i64 i2 ∧ Hid (Below w5.heap.size w5 W)) (fun k _ => ks.length - (intOf k).toNat)
                case atStart => exact ⟨0, Nat.zero_le _, rfl, toHid (Below.refl _ _)⟩
                case round =>
                  rename World => W2
                  obtain ⟨i2, hi2, rfl, B2⟩ := hrel
                  have hp2 : 0 ≤ (i2 : Int) := by omega
                  by_cases hlt2 : i2 < ks.length
                  · have hp1 : (i2 : Int) < (ks.length : Int) := by omega
                    obtain ⟨g8, rfl, x0, x1, xl⟩ := RW.out.at hlt2
                    obtain ⟨kn, hkn'⟩ : ∃ kn, ks[i2] = kn := ⟨_, rfl⟩
                    rw [hkn'] at x0 x1
                    have hkin : kn ∈ ks := by rw [← hkn']; exact List.getElem_mem hlt2
                    have XC := toHid (show ∀ W, Below w5.heap.size w5 W → W.cell? ⟨g8, i2 * 2, none⟩ = some (nmV kn) ∧ W.cell? ⟨g8, i2 * 2 + 1, none⟩ = some (.int .i64 ((f0 kn : Nat) : Int)) from fun W hW => ⟨(hW.cell (p := ⟨g8, _, none⟩) xl).trans x0, (hW.cell (p := ⟨g8, _, none⟩) xl).trans x1⟩)
                    have HIn := toHid (show kn ∈ ks5 from (R5.out.mem kn).2 (fun e => by
                      have h1 := KP.out kn
                      rw [e] at h1
                      have h2 := (RW.out.mem kn).1 hkin
                      unfold joinN at h1
                      split at h1 <;> omega))
                    have HCv := toHid (show ∀ W, Calls Try.prog 10 #[.int .i64 ((σ.ph t kn : Nat) : Int), .int .i64 ((f0 kn : Nat) : Int)] W fun e w' => e = .returned (.bool true) ∧ w' = W from fun W => by
                      have := refcovers_any ((σ.ph t kn : Nat) : Int) ((f0 kn : Nat) : Int) W
                      rw [cnt_nat (R5.out.low kn), cnt_nat (RW.out.low kn), cov_of (RW.out.low kn) (R5.out.low kn) (KP.out kn)] at this
                      exact this)
                    clear x0 x1 hkn' hkin
                    go_wp2_with fail
                    go_loopw [12, 13] (fun kv k W => ∃ i3 : Nat, i3 ≤ ks5.length ∧ k = .int .i64 i3 ∧ Hid (Below w5.heap.size w5 W) ∧ ∃ kb : Bool, kv = .bool kb ∧ Hid (kn ∈ ks5.take i3 → kb = true)) (fun _ k _ => ks5.length - (intOf k).toNat)
                    case atStart => exact ⟨0, Nat.zero_le _, rfl, B2, false, rfl, toHid (by simp)⟩
                    case round =>
                      rename World => W3
                      obtain ⟨i3, hi3, rfl, B3, kb, rfl, KB⟩ := hrel
                      have hr2 : 0 ≤ (i3 : Int) := by omega
                      by_cases hlt3 : i3 < ks5.length
                      · have hr1 : (i3 : Int) < (ks5.length : Int) := by omega
                        obtain ⟨g5, rfl, y0, y1, yl⟩ := R5.out.at hlt3
                        obtain ⟨kj, hkj⟩ : ∃ kj, ks5[i3] = kj := ⟨_, rfl⟩
                        rw [hkj] at y0 y1
                        have YC := toHid (show ∀ W, Below w5.heap.size w5 W → W.cell? ⟨g5, i3 * 2, none⟩ = some (nmV kj) ∧ W.cell? ⟨g5, i3 * 2 + 1, none⟩ = some (.int .i64 ((σ.ph t kj : Nat) : Int)) from fun W hW => ⟨(hW.cell (p := ⟨g5, _, none⟩) yl).trans y0, (hW.cell (p := ⟨g5, _, none⟩) yl).trans y1⟩)
                        have HTk := toHid (show ks5.take (i3 + 1) = ks5.take i3 ++ [kj] from by rw [List.take_add_one, List.getElem?_eq_getElem hlt3, hkj]; rfl)
                        clear y0 y1 hkj
                        obtain ⟨x0, x1⟩ := XC.out _ B3.out
                        obtain ⟨y0, y1⟩ := YC.out _ B3.out
                        have HBq := toHid (show ∀ n, Below w5.heap.size w5 (W3.drewN n) from fun n => B3.out.trans (Go.Joins.below_draws _ _ _))
                        cases kb with
                        | true =>
                          go_wp2_with fail
                          go_quiet (fail)
                          go_wp2_with fail
                          go_roundw
                          case rel => exact ⟨i3 + 1, by omega, by simp, toHid (HBq.out _), true, rfl, toHid fun _ => rfl⟩
                          case measure => first | omega | (simp only [intOf]; omega)
                        | false =>
                          by_cases hkk : kj = kn
                          · subst hkk
                            go_wp2_with fail
                            go_quiet ((go_at_call 10; exact Calls.quiet_of_same (HCv.out _)))
                            go_wp2_with fail
                            go_roundw
                            case rel => exact ⟨i3 + 1, by omega, by simp, toHid (HBq.out _), true, rfl, toHid fun _ => rfl⟩
                            case measure => first | omega | (simp only [intOf]; omega)
                          · have he2 : decide (kj = kn) = false := by simp [hkk]
                            go_wp2_with fail
                            go_quiet (fail)
                            go_wp2_with fail
                            go_roundw
                            case rel => exact ⟨i3 + 1, by omega, by simp, toHid (HBq.out _), false, rfl, toHid fun hh => by rw [HTk.out] at hh; simp at hh; exact hh.elim (fun e => KB.out e) (fun e => absurd e.symm hkk)⟩
                            case measure => first | omega | (simp only [intOf]; omega)
                      · obtain rfl : i3 = ks5.length := by omega
                        obtain rfl : kb = true := KB.out (by rw [List.take_length]; exact HIn.out)
                        go_wp2_with fail
                        go_roundw
                        case rel => exact ⟨i2 + 1, by omega, by simp, B3⟩
                        case measure => first | omega | (simp only [intOf]; omega)
                  · obtain rfl : i2 = ks.length := by omega
                    have HNx := toHid (show ∃ (i : Nat) (σ : Sg) (Q : Name → List Nat) (a8 : Option Addr) (c8 : Nat) (ks : List Name), i ≤ more.length ∧ i ≤ 40 ∧ (Value.slice a5 ks5.length c5) = .slice a8 ks.length c8 ∧ (Value.int .i64 ((i0 : Int) + 1)) = .int .i64 i ∧ Hid (Stp KT KN w T W2 σ Q) ∧ Hid (HeldR w.heap.size W2 σ (.slice a8 ks.length c8) ks (σ.ph t)) from
                      ⟨i0 + 1, σ, Q, a5, c5, ks5, by omega, by omega, rfl, by simp, toHid (ST5.out.quiet B2.out), toHid (R5.out.step (Step.quiet B2.out))⟩)
                    go_wp2_with fail
                    go_roundw
                    case rel => exact HNx.out
                    case measure => first | omega | (simp only [intOf]; omega)
        · rw [show decide (op.name.length ≤ 1000) = false from by simp [hs]] at hsh
          go_wp2_with (first | (go_at_call 13; refine hsh.mono ?_; rintro e w2 ⟨rfl, b2⟩; have HR := toHid (HSk.out w2 b2); clear b2))
          go_roundw
          case rel => exact HR.out
          case measure => first | omega | (simp only [intOf]; omega)
      · obtain rfl : i0 = 40 := by omega
        have HB := toHid ST.out.bel
        clear h4
        go_wp2_with (first | (go_at_call 12; refine (hlv _).mono ?_; rintro e w9 ⟨rfl, b9⟩; have B9 := toHid (bnext HB.out b9); clear b9))
        go_ret
        exact ⟨rfl, B9.out⟩
    · obtain rfl : i0 = more.length := by omega
      have HB := toHid ST.out.bel
      clear hlt h40
      go_wp2_with (first | (go_at_call 12; refine (hlv _).mono ?_; rintro e w9 ⟨rfl, b9⟩; have B9 := toHid (bnext HB.out b9); clear b9))
      go_ret
      exact ⟨rfl, B9.out⟩

end Go.Proofs.Ytclppfljengnbaa
