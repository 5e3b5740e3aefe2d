/-
  led: the walk.
-/
import Derived.Test.YtclppfljengnbaaGreatLe
namespace Go.Proofs.YtclppfljengnbaaGreat
open Go.RowKit Go.Maps Go.Sort Go.Shelf

theorem belowStep {w W W' : World} {σ σ' : Sg} (hB : Below w.heap.size w W) (hs : Step W σ W' σ') (ho : ∀ i, σ.own i ≠ .no → w.heap.size ≤ i) : Below w.heap.size w W' ∧ ∀ i, σ'.own i ≠ .no → w.heap.size ≤ i :=
  ⟨hB.trans ⟨hs.turn.os, hs.turn.tape, hs.turn.output, hs.turn.size, fun i hi => hs.turn.block i (Nat.lt_of_lt_of_le hi hB.size) (fun e => absurd (ho i e) (by omega))⟩, fun i hi => (hs.own i hi).elim (ho i) fun h => Nat.le_trans hB.size h⟩

section
variable {KT KN : List Lit} {w : World} {a : Option Addr} {c : Nat} {l : List OpL}

set_option maxRecDepth 100000 in
set_option maxHeartbeats 4000000 in
theorem led6 (h : SlO w a l) (hl : l.length ≤ maxLen) (hkt : KT.length ≤ 1000) (hkn : KN.length ≤ 1000) (hin : ∀ i (hi : i < l.length), i < 60 → Lit.int .i64 l[i].txn ∈ KT ∧ Lit.string l[i].name ∈ KN) :
    Calls Tryz.prog 14 #[.slice a l.length c] w fun e w' => ∃ σ Q, e = .returned (.pointer (some ⟨σ.T, 0, none⟩)) ∧ Mem KT KN w' σ ∧ Good σ Q (fun _ => False) (fun _ => False) ∧ Below w.heap.size w w' ∧ ∀ i, σ.own i ≠ .no → w.heap.size ≤ i := by
  have hnew := new20 KT KN hkt hkn w
  have hlm : l.length ≤ 9223372036854775807 := by unfold maxLen at hl; omega
  have HL := toHid h
  have HIn := toHid hin
  obtain ⟨T, hT⟩ : ∃ T, w.heap.size + 2 = T := ⟨_, rfl⟩
  rw [hT] at hnew
  have HT := toHid hT
  clear h hin hT hl
  go_enter Tryz.func14, Tryz.ntmps14
  go_wp2_with (first
    | (go_at_call 6; refine hnew.mono ?_; rintro e w1 ⟨rfl, b1, m1⟩; have B1 := toHid b1; have M1 := toHid m1; clear b1 m1))
  go_loopw [4] (fun k W => ∃ (i : Nat) (σ : Sg) (Q : Name → List Nat), i ≤ l.length ∧ i ≤ 60 ∧ k = .int .i64 i ∧ Hid (Mem KT KN W σ) ∧ Hid (Good σ Q (fun _ => False) (fun _ => False)) ∧ Hid (Below w.heap.size w W) ∧ Hid (∀ i, σ.own i ≠ .no → w.heap.size ≤ i) ∧ Hid (σ.T = T)) (fun k _ => l.length - (intOf k).toNat)
  case atStart => exact ⟨0, sg0 w.heap.size, fun _ => [], Nat.zero_le _, by omega, rfl, M1, toHid (good0 _), B1, toHid fun i hi => own0 hi, HT⟩
  case round =>
    obtain ⟨i, σ, Q, hi, h60, rfl, M, G, B, W0, T0⟩ := hrel
    clear M1 B1 hnew
    have hq2 : 0 ≤ (i : Int) := by omega
    by_cases hlt : i < l.length
    · have hq1 : (i : Int) < (l.length : Int) := by omega
      by_cases h6 : i < 60
      · have hq3 : (i : Int) < 60 := by omega
        obtain ⟨b, o, rfl, _⟩ := HL.out.at_ i hlt
        have HC := toHid (show ∀ W, Below w.heap.size w W → W.cell? ⟨b, o + i * 4, none⟩ = some (.int .i64 l[i].kind) ∧ W.cell? ⟨b, o + i * 4 + 1, none⟩ = some (.int .i64 l[i].txn) ∧ W.cell? ⟨b, o + i * 4 + 2, none⟩ = some (nmV l[i].name) ∧ W.cell? ⟨b, o + i * 4 + 3, none⟩ = some (.int .i64 l[i].mode) from fun W hW => by
          obtain ⟨b', o', e, c0, c1, c2, c3⟩ := (HL.out.below hW rfl).at_ i hlt
          injection e with e
          injection e with e1 e2 e3
          subst e1
          subst e2
          exact ⟨c0, c1, c2, c3⟩)
        have hwf := HL.out.wf l[i] (List.getElem_mem hlt)
        obtain ⟨hkt1, hkn1⟩ := HIn.out i hlt h6
        generalize l[i] = op at *
        obtain ⟨c0, c1, c2, c3⟩ := HC.out wr B.out
        have hsh := short13 op wr
        have hat := hwf.txn
        by_cases hs : op.name.length ≤ 1000
        · rw [show decide (op.name.length ≤ 1000) = true from by simp [hs]] at hsh
          have HB1 := toHid (show ∀ W, Below wr.heap.size wr W → Below w.heap.size w W from fun W hW => bnext B.out hW)
          have HAsk := toHid (show ∀ W, Below wr.heap.size wr W → Calls Tryz.prog 21 #[.pointer (some ⟨T, 0, none⟩), .int .i64 op.txn, .agg #[nmV op.name, .int .i64 op.mode]] W fun e w' => ∃ g er, e = .returned (.tuple #[.bool g, .int .i64 er]) ∧ ∃ σ' Q', Mem KT KN w' σ' ∧ Good σ' Q' (fun _ => False) (fun _ => False) ∧ Below w.heap.size w w' ∧ (∀ i, σ'.own i ≠ .no → w.heap.size ≤ i) ∧ σ'.T = T from fun W hW => by
            have := ask_all (t := op.txn) (n := op.name) (md := op.mode) (M.out.below hW) G.out hat hkt1 hkn1
            rw [T0.out] at this
            refine this.mono ?_
            rintro e w' ⟨g, er, rfl, σ', Q', m', s', g', _, _⟩
            obtain ⟨x1, x2⟩ := belowStep (HB1.out W hW) s' W0.out
            exact ⟨g, er, rfl, σ', Q', m', g', x1, x2, s'.top.trans T0.out⟩)
          have HFr := toHid (show ∀ W, Below wr.heap.size wr W → Calls Tryz.prog 18 #[.pointer (some ⟨T, 0, none⟩), .int .i64 op.txn] W fun e w' => ∃ v, e = .returned v ∧ ∃ σ' Q', Mem KT KN w' σ' ∧ Good σ' Q' (fun _ => False) (fun _ => False) ∧ Below w.heap.size w w' ∧ (∀ i, σ'.own i ≠ .no → w.heap.size ≤ i) ∧ σ'.T = T from fun W hW => by
            have := free18 (t := op.txn) (M.out.below hW) G.out hat
            rw [T0.out] at this
            refine this.mono ?_
            rintro e w' ⟨v, rfl, σ', Q', l', ns, m', g', _, _, s', _⟩
            obtain ⟨x1, x2⟩ := belowStep (HB1.out W hW) s' W0.out
            exact ⟨v, rfl, σ', Q', m', g', x1, x2, s'.top.trans T0.out⟩)
          have HCa := toHid (show ∀ W, Below wr.heap.size wr W → Calls Tryz.prog 22 #[.pointer (some ⟨T, 0, none⟩), .int .i64 op.txn] W fun e w' => ∃ v, e = .returned v ∧ ∃ σ' Q', Mem KT KN w' σ' ∧ Good σ' Q' (fun _ => False) (fun _ => False) ∧ Below w.heap.size w w' ∧ (∀ i, σ'.own i ≠ .no → w.heap.size ≤ i) ∧ σ'.T = T from fun W hW => by
            have := cancel19 (t := op.txn) (M.out.below hW) G.out hat
            rw [T0.out] at this
            refine this.mono ?_
            rintro e w' ⟨v, rfl, σ', Q', l', ns, m', g', _, _, s', _⟩
            obtain ⟨x1, x2⟩ := belowStep (HB1.out W hW) s' W0.out
            exact ⟨v, rfl, σ', Q', m', g', x1, x2, s'.top.trans T0.out⟩)
          have HK := toHid (show ∀ W, Below wr.heap.size wr W → ∃ σ' Q', Mem KT KN W σ' ∧ Good σ' Q' (fun _ => False) (fun _ => False) ∧ Below w.heap.size w W ∧ (∀ i, σ'.own i ≠ .no → w.heap.size ≤ i) ∧ σ'.T = T from fun W hW => ⟨σ, Q, M.out.below hW, G.out, HB1.out W hW, W0.out, T0.out⟩)
          have HCW := toHid (show ∀ W, Below wr.heap.size wr W → W.cell? ⟨b, o + i * 4, none⟩ = some (.int .i64 op.kind) ∧ W.cell? ⟨b, o + i * 4 + 1, none⟩ = some (.int .i64 op.txn) ∧ W.cell? ⟨b, o + i * 4 + 2, none⟩ = some (nmV op.name) ∧ W.cell? ⟨b, o + i * 4 + 3, none⟩ = some (.int .i64 op.mode) from fun W hW => HC.out W (HB1.out W hW))
          have HCB := toHid (show ∀ W, Below w.heap.size w W → W.cell? ⟨b, o + i * 4 + 1, none⟩ = some (.int .i64 op.txn) ∧ W.cell? ⟨b, o + i * 4 + 2, none⟩ = some (nmV op.name) ∧ W.cell? ⟨b, o + i * 4 + 3, none⟩ = some (.int .i64 op.mode) from fun W hW => (HC.out W hW).2)
          clear M G B W0 T0 HC hwf hat hkt1 hkn1 hs HL HIn HB1
          by_cases k0 : op.kind = 0
          · rw [k0] at hsh c0 HCW
            go_wp2_with (first
              | (go_at_call 7; refine hsh.mono ?_; rintro e w2 ⟨rfl, b2⟩; have B2 := toHid b2; obtain ⟨d0, d1, d2, d3⟩ := HCW.out w2 b2; clear b2))
            have hd2 : Below wr.heap.size wr w2.drew := B2.out.drew
            have hc2 := (HCW.out _ hd2).2
            have HA := toHid (HAsk.out _ hd2)
            clear hd2
            go_region_held3 (fun W => W.cell? ⟨b, o + i * 4 + 1, none⟩ = some (.int .i64 op.txn) ∧ W.cell? ⟨b, o + i * 4 + 2, none⟩ = some (nmV op.name) ∧ W.cell? ⟨b, o + i * 4 + 3, none⟩ = some (.int .i64 op.mode)) (assumption) (first
              | (go_at_call 21; refine HA.out.mono ?_; rintro e w4 ⟨g, er, rfl, hq⟩; have HR := toHid hq; obtain ⟨_, _, _, _, b4, _, _⟩ := hq; have hc4 := HCB.out _ b4))
            all_goals
              try go_wp2_with fail
              obtain ⟨σ9, Q9, r1, r2, r3, r4, r5⟩ := HR.out
              have M9 := toHid r1; have G9 := toHid r2; have B9 := toHid r3; have W9 := toHid r4; have T9 := toHid r5
              clear r1 r2 r3 r4 r5 HR
              go_roundw
              case rel => exact ⟨i + 1, σ9, Q9, by omega, by omega, by simp, M9, G9, B9, W9, T9⟩
              case measure => first | omega | (simp only [intOf]; omega)
          · by_cases k1 : op.kind = 1
            · rw [k1] at hsh c0 HCW
              go_wp2_with (first
                | (go_at_call 7; refine hsh.mono ?_; rintro e w2 ⟨rfl, b2⟩; have B2 := toHid b2; obtain ⟨d0, d1, d2, d3⟩ := HCW.out w2 b2; clear b2)
                | (go_at_call 18; refine (HFr.out _ B2.out).mono ?_; rintro e w4 ⟨v, rfl, hq⟩; have HR := toHid hq; clear hq))
              obtain ⟨σ9, Q9, r1, r2, r3, r4, r5⟩ := HR.out
              have M9 := toHid r1; have G9 := toHid r2; have B9 := toHid r3; have W9 := toHid r4; have T9 := toHid r5
              clear r1 r2 r3 r4 r5 HR
              go_roundw
              case rel => exact ⟨i + 1, σ9, Q9, by omega, by omega, by simp, M9, G9, B9, W9, T9⟩
              case measure => first | omega | (simp only [intOf]; omega)
            · by_cases k2 : op.kind = 2
              · rw [k2] at hsh c0 HCW
                go_wp2_with (first
                  | (go_at_call 7; refine hsh.mono ?_; rintro e w2 ⟨rfl, b2⟩; have B2 := toHid b2; obtain ⟨d0, d1, d2, d3⟩ := HCW.out w2 b2; clear b2)
                  | (go_at_call 22; refine (HCa.out _ B2.out).mono ?_; rintro e w4 ⟨v, rfl, hq⟩; have HR := toHid hq; clear hq))
                obtain ⟨σ9, Q9, r1, r2, r3, r4, r5⟩ := HR.out
                have M9 := toHid r1; have G9 := toHid r2; have B9 := toHid r3; have W9 := toHid r4; have T9 := toHid r5
                clear r1 r2 r3 r4 r5 HR
                go_roundw
                case rel => exact ⟨i + 1, σ9, Q9, by omega, by omega, by simp, M9, G9, B9, W9, T9⟩
                case measure => first | omega | (simp only [intOf]; omega)
              · go_wp2_with (first
                  | (go_at_call 7; refine hsh.mono ?_; rintro e w2 ⟨rfl, b2⟩; have B2 := toHid b2; obtain ⟨d0, d1, d2, d3⟩ := HCW.out w2 b2; clear b2))
                have HR := toHid (HK.out _ B2.out)
                obtain ⟨σ9, Q9, r1, r2, r3, r4, r5⟩ := HR.out
                have M9 := toHid r1; have G9 := toHid r2; have B9 := toHid r3; have W9 := toHid r4; have T9 := toHid r5
                clear r1 r2 r3 r4 r5 HR
                go_roundw
                case rel => exact ⟨i + 1, σ9, Q9, by omega, by omega, by simp, M9, G9, B9, W9, T9⟩
                case measure => first | omega | (simp only [intOf]; omega)
        · rw [show decide (op.name.length ≤ 1000) = false from by simp [hs]] at hsh
          have HK := toHid (show ∀ W, Below wr.heap.size wr W → ∃ σ' Q', Mem KT KN W σ' ∧ Good σ' Q' (fun _ => False) (fun _ => False) ∧ Below w.heap.size w W ∧ (∀ i, σ'.own i ≠ .no → w.heap.size ≤ i) ∧ σ'.T = T from fun W hW => ⟨σ, Q, M.out.below hW, G.out, bnext B.out hW, W0.out, T0.out⟩)
          clear M G B W0 T0 HC hwf hat hkt1 hkn1 hs HL HIn
          go_wp2_with (first | (go_at_call 7; refine hsh.mono ?_; rintro e w2 ⟨rfl, b2⟩; have HR := toHid (HK.out w2 b2); clear b2))
          obtain ⟨σ9, Q9, r1, r2, r3, r4, r5⟩ := HR.out
          have M9 := toHid r1; have G9 := toHid r2; have B9 := toHid r3; have W9 := toHid r4; have T9 := toHid r5
          clear r1 r2 r3 r4 r5 HR
          go_roundw
          case rel => exact ⟨i + 1, σ9, Q9, by omega, by omega, by simp, M9, G9, B9, W9, T9⟩
          case measure => first | omega | (simp only [intOf]; omega)
      · obtain rfl : i = 60 := by omega
        have hq3 : ((60 : Nat) : Int) < (l.length : Int) := hq1
        have HR := toHid (show ∃ σ Q, T = σ.T ∧ Mem KT KN wr σ ∧ Good σ Q (fun _ => False) (fun _ => False) ∧ Below w.heap.size w wr ∧ ∀ i, σ.own i ≠ .no → w.heap.size ≤ i from ⟨σ, Q, T0.out.symm, M.out, G.out, B.out, W0.out⟩)
        clear M G B W0 T0 HL HIn h6
        go_wp2_with fail
        go_ret
        obtain ⟨σ9, Q9, rfl, r1⟩ := HR.out
        exact ⟨σ9, Q9, rfl, r1⟩
    · obtain rfl : i = l.length := by omega
      have HR := toHid (show ∃ σ Q, T = σ.T ∧ Mem KT KN wr σ ∧ Good σ Q (fun _ => False) (fun _ => False) ∧ Below w.heap.size w wr ∧ ∀ i, σ.own i ≠ .no → w.heap.size ≤ i from ⟨σ, Q, T0.out.symm, M.out, G.out, B.out, W0.out⟩)
      clear M G B W0 T0 HL HIn hlt h60
      go_wp2_with fail
      go_ret
      obtain ⟨σ9, Q9, rfl, r1⟩ := HR.out
      exact ⟨σ9, Q9, rfl, r1⟩
end

end Go.Proofs.YtclppfljengnbaaGreat
