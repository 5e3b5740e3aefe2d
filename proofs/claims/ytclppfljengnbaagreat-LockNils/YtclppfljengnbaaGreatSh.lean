/-
  A lock is given to the first of its row, as long as that one goes in.
-/
import Derived.Test.YtclppfljengnbaaGreatTa
import Derived.Deep.LoopGhost
namespace Go.Proofs.YtclppfljengnbaaGreat
open Go.RowKit Go.Maps

/-- Who has what, and the rows: told without places. -/
structure AS where
  H : Int → Name → Nat
  R : Name → List (Int × Nat)
def absS (σ : Sg) (Q : Name → List Nat) : AS := ⟨σ.ph, fun k => (Q k).map fun z => ((σ.nd z).t, (σ.nd z).m)⟩
/-- Somebody has got what it would have. -/
noncomputable def AS.give (s : AS) (t : Int) (n : Name) (m : Nat) : AS := ⟨upd s.H t (upd (s.H t) n (joinN (s.H t n) m)), s.R⟩
/-- As long as the first of the row goes in, it waits no more, and has what it would have. -/
inductive ShiftA (n : Name) : AS → AS → List Gr → Prop
  | stop {s : AS} : (∀ t m r, s.R n = (t, m) :: r → ¬ Goes s.H t n m) → ShiftA n s s []
  | step {s s' : AS} {t : Int} {m : Nat} {r : List (Int × Nat)} {l : List Gr} : s.R n = (t, m) :: r → Goes s.H t n m → ShiftA n ((⟨s.H, upd s.R n r⟩ : AS).give t n m) s' l → ShiftA n s s' ((t, n, m) :: l)

theorem absS_eq {σ σ' : Sg} {Q Q' : Name → List Nat} (h1 : σ'.ph = σ.ph) (h2 : ∀ k, (Q' k).map (fun z => ((σ'.nd z).t, (σ'.nd z).m)) = (Q k).map (fun z => ((σ.nd z).t, (σ.nd z).m))) : absS σ' Q' = absS σ Q := by
  unfold absS
  rw [h1, funext h2]

section
variable {KT KN : List Lit} {w w0 : World} {σ σ0 : Sg} {Q : Name → List Nat} {X X' : Name → Prop} {n : Name} {b g0 : Nat} {l : List Gr}

theorem first_row {W : World} {σ : Sg} {Q : Name → List Nat} {Y : Int → Prop} (hW : Mem KT KN W σ) (G : Good σ Q X Y) (hb : σ.lb n = some b) :
    Calls Tryz.prog 76 #[.pointer (some ⟨b, 7, none⟩)] W fun e w' => e = .returned (ptr (Q n).head?) ∧ Below W.heap.size W w' := by
  have hr := G.ring n b hb
  have hbh := hr.ring.head
  have hmemH : headOr (σ.eb n) (Q n) ∈ σ.eb n :: Q n := by
    rcases headOr_mem (σ.eb n) (Q n) with h | h
    · rw [h]; exact List.mem_cons_self
    · exact List.mem_cons_of_mem _ h
  have h2 := hW.hW (σ.eb n) (G.tagW hb List.mem_cons_self)
  have h3 := hW.hW (headOr (σ.eb n) (Q n)) (G.tagW hb hmemH)
  rw [hbh] at h2
  have := first44 (b := b) (e := σ.eb n) (hW.hL n b hb).cells.2.2.2.2.2.2.2.1 h2 h3
  rw [frst_head (G.nodup hb)] at this
  exact this

theorem goes_row {W : World} {σ : Sg} {Q : Name → List Nat} {Y : Int → Prop} {z : Nat} (hW : Mem KT KN W σ) (G : Good σ Q X Y) (hb : σ.lb n = some b) (hz : z ∈ Q n) :
    Calls Tryz.prog 74 #[.pointer (some ⟨b, 0, none⟩), .pointer (some ⟨z, 0, none⟩)] W fun e w' => e = .returned (.bool (goesB (σ.lh n) (σ.nd z).t (joinN (σ.nd z).had (σ.nd z).m))) ∧ Below W.heap.size W w' := by
  have hn := G.node n z hz
  exact goesIn42 hW hb (by rw [hn.tag]; exact trivial) hn.m6 (by rw [hn.had]; exact G.low _ _) (fun s => by
      cases e : σ.lh n 0 s
      · rfl
      · exact absurd rfl ((G.lhm n b hb 0 s).1 e).1) (fun h0 => (G.lhm n b hb _ _).2 ⟨h0, hn.had.symm⟩) (fun m' hm' => by
      cases e : σ.lh n m' (σ.nd z).t
      · rfl
      · exact absurd (((G.lhm n b hb m' _).1 e).2.symm.trans hn.had.symm) hm')

/-- One step of the loop: the first goes in, stops waiting, and gets what it asked for. -/
theorem Good.shift {Q : Name → List Nat} {σ : Sg} {z : Nat} {r : List Nat} {x y : Nat} {own : Nat → Tag} {lm : Name → Nat → Option Nat} (G : Good σ Q X (fun _ => False)) (hb : σ.lb n = some b) (hX : X n) (hq : Q n = z :: r)
    (hg : GoesIn (σ.lh n) (σ.nd z).t (joinN (σ.nd z).had (σ.nd z).m)) (hx : σ.ah z = some x) (hy : σ.bh z = some y) (ho : ∀ i, σ.own i ≠ .no → own i = σ.own i) :
    Good (giveS (stopS σ n (σ.nd z).t z x y) n z own lm) (upd Q n r) X (fun _ => False) ∧ absS (giveS (stopS σ n (σ.nd z).t z x y) n z own lm) (upd Q n r) = (⟨σ.ph, upd (absS σ Q).R n (r.map fun z => ((σ.nd z).t, (σ.nd z).m))⟩ : AS).give (σ.nd z).t n (σ.nd z).m := by
  have hz : z ∈ Q n := by rw [hq]; simp
  have hn := G.node n z hz
  obtain ⟨q1, q2, e12, g1, g2, _, _, _, GS⟩ := G.stop (X' := X) (Y' := fun s => s = (σ.nd z).t) hz rfl (fun k hk => hk.elim id fun e => by rw [e]; exact hX) (fun s hs => hs.elim (fun f => f.elim) id)
  have hq1 : q1 = [] := by
    cases q1 with
    | nil => rfl
    | cons u q1 =>
      rw [hq] at e12
      simp at e12
      have := (G.ring n b hb).nd
      rw [hq, e12.2] at this
      simp at this
  subst hq1
  have hq2 : q2 = r := by rw [hq] at e12; simpa using e12.symm
  subst hq2
  rw [hx] at g1
  rw [hy] at g2
  obtain rfl := Option.some.inj g1
  obtain rfl := Option.some.inj g2
  obtain ⟨p, hp⟩ := G.pbOf (t := (σ.nd z).t) (by rw [hn.pw]; simp)
  constructor
  · refine GS.give (t := (σ.nd z).t) (p := p) (b := b) ho lm hb hp (upd_same _ _ _) rfl hn.had hn.m1 hn.m6 ?_ (fun k hk => .inr ⟨fun e => hk (by rw [e]; exact hX), hk⟩) (fun s hs => .inl hs)
    show GoesIn (σ.lh n) (σ.nd z).t (joinN (σ.ph (σ.nd z).t n) (σ.nd z).m)
    rw [← hn.had]
    exact hg
  · unfold AS.give absS
    simp only [AS.mk.injEq]
    constructor
    · show upd σ.ph (σ.nd z).t (upd (σ.ph (σ.nd z).t) n (joinN (σ.nd z).had (σ.nd z).m)) = _
      rw [hn.had]
    · funext k
      show ((upd Q n q2) k).map (fun z => ((σ.nd z).t, (σ.nd z).m)) = _
      by_cases e : k = n
      · subst e; rw [upd_same, upd_same]
      · rw [upd_other _ _ e, upd_other _ _ e]

theorem Good.unX {Y : Int → Prop} (G : Good σ Q X Y) (hX : ∀ k, X k → k = n ∨ X' k) (hn : (∃ t, σ.ph t n ≠ 0) ∧ ∀ z r, Q n = z :: r → ¬ GoesIn (σ.lh n) (σ.nd z).t (joinN (σ.nd z).had (σ.nd z).m)) : Good σ Q X' Y :=
  ⟨G.dead, G.wf, G.nm, G.low, G.lhm, G.gone, fun k c hk hx => by
    by_cases e : k = n
    · subst e; exact hn
    · exact G.held k c hk fun e1 => (hX k e1).elim e hx, G.par, G.ring, G.node, G.wait, G.bes⟩
theorem Good.idle {Y : Int → Prop} (G : Good σ Q X Y) (hb : σ.lb n = some b) : idleB (σ.lh n) = true ↔ ∀ t, σ.ph t n = 0 := by
  simp only [idleB, decide_eq_true_eq]
  constructor
  · intro h t
    refine Classical.byContradiction fun e => ?_
    have := h (σ.ph t n) (G.low t n) t
    rw [(G.lhm n b hb _ t).2 ⟨e, rfl⟩] at this
    cases this
  · intro h m _ s
    cases e : σ.lh n m s
    · rfl
    · obtain ⟨h1, h2⟩ := (G.lhm n b hb m s).1 e
      rw [h s] at h2
      exact absurd h2.symm h1

theorem Good.notIdle {Y : Int → Prop} (G : Good σ Q X Y) (hb : σ.lb n = some b) (h : idleB (σ.lh n) = false) : ∃ t, σ.ph t n ≠ 0 := Classical.byContradiction fun hc => by
  rw [(G.idle hb).2 fun t => Classical.byContradiction fun e => hc ⟨t, e⟩] at h
  cases h

set_option maxRecDepth 100000 in
set_option maxHeartbeats 4000000 in
theorem shift54 (h : Mem KT KN w σ) (G : Good σ Q X (fun _ => False)) (hb : σ.lb n = some b) (hX : X n) (hg : Got w σ g0 l) {M : Nat} (hM : M ≤ 1000000000) (hl : l.length + (Q n).length ≤ M) (hs : StepK g0 w0 σ0 w σ) (hX' : ∀ k, X k → k = n ∨ X' k) :
    Calls Tryz.prog 73 #[.pointer (some ⟨σ.T, 0, none⟩), .pointer (some ⟨b, 0, none⟩), .func (.func 70) #[] #[.pointer (some ⟨g0, 0, none⟩)]] w fun e w' => e = .returned (.tuple #[]) ∧ ∃ σ' Q' l', Mem KT KN w' σ' ∧ Good σ' Q' X' (fun _ => False) ∧ Got w' σ' g0 (l ++ l') ∧ StepK g0 w0 σ0 w' σ' ∧ ShiftA n (absS σ Q) (absS σ' Q') l' ∧ l.length + l'.length ≤ M ∧ ∀ k, k ≠ n → σ'.lb k = σ.lb k := by
  have hf := first_row h G hb
  have HM := toHid h
  have HG := toHid G
  have HB := toHid hb
  have HGot := toHid hg
  have HS := toHid hs
  have HL := toHid hl
  clear h G hg hs hl
  obtain ⟨T, hT⟩ : ∃ T, σ.T = T := ⟨_, rfl⟩
  have HT := toHid hT
  rw [hT]
  clear hT
  go_enter Tryz.func73, Tryz.ntmps73
  go_wp2_with (first | (go_at_call 76; refine hf.mono ?_; rintro e w1 ⟨rfl, b1⟩; have M1 := toHid (HM.out.below b1); have S1 := toHid (HS.out.trans (Step.quiet b1)); have T1 := toHid (HGot.out.step (Step.quiet (σ := σ) b1)); clear b1))
  go_loopg [6] (Q n).length (fun g u6 W => ∃ σ1 Q1 l1, u6 = ptr (Q1 n).head? ∧ (Q1 n).length ≤ g ∧ Hid (Mem KT KN W σ1) ∧ Hid (Good σ1 Q1 X (fun _ => False)) ∧ Hid (σ1.lb n = some b) ∧ Hid (Got W σ1 g0 (l ++ l1)) ∧ Hid (StepK g0 w0 σ0 W σ1) ∧ Hid (σ1.T = T) ∧ Hid (∀ s' l', ShiftA n (absS σ1 Q1) s' l' → ShiftA n (absS σ Q) s' (l1 ++ l')) ∧ Hid (l.length + l1.length + (Q1 n).length ≤ M) ∧ Hid (σ1.lb = σ.lb))
  case atStart => exact ⟨σ, Q, [], rfl, Nat.le_refl _, M1, HG, HB, toHid (by simpa using T1.out), S1, HT, toHid (fun s' l' hh => hh), toHid (by simpa using HL.out), toHid rfl⟩
  case round =>
    obtain ⟨σ1, Q1, l1, rfl, hle, Mm, G1, B1, O1, S2, T2, A1, L1, LB⟩ := hrel
    clear M1 S1 T1
    have hid := idle64 Mm.out B1.out
    cases hq : Q1 n with
    | nil =>
      have HA := toHid (show ShiftA n (absS σ Q) (absS σ1 Q1) l1 from by
        have := A1.out _ _ (ShiftA.stop (s := absS σ1 Q1) (fun t m r hr => by
          have hr : (Q1 n).map _ = _ := hr
          rw [hq] at hr
          cases hr))
        simpa using this)
      have HLl := toHid (show l.length + l1.length ≤ M from by have := L1.out; omega)
      have HQ1 := toHid hq
      simp only [List.head?_nil, ptr_none]
      clear A1 L1 hle hq
      rcases Bool.eq_false_or_eq_true (idleB (σ1.lh n)) with hib | hib
      · rw [hib] at hid
        have hz0 := (G1.out.idle B1.out).1 hib
        have Md := (drew_mem Mm.out)
        have hT0 := Mm.out.cellsT.1
        rw [T2.out] at hT0
        have hl0 := (Mm.out.hL n b B1.out).cells.1
        obtain ⟨w2, r1, r2, r3⟩ := MapV.drop Md.hA lawS Tryz.underlying64 (keyS (G1.out.nm n b B1.out)) 0
        have r1 : ∀ ty, (Builtin.delete_ #[64, 9] ty #[.map (some σ1.A), nmV n]).run Tryz.prog wr.drew = .ok (.tuple #[]) w2 := fun _ => r1
        have HR := toHid (show ∃ σ' Q' l', Mem KT KN w2 σ' ∧ Good σ' Q' X' (fun _ => False) ∧ Got w2 σ' g0 (l ++ l') ∧ StepK g0 w0 σ0 w2 σ' ∧ ShiftA n (absS σ Q) (absS σ' Q') l' ∧ l.length + l'.length ≤ M ∧ (∀ k, k ≠ n → σ'.lb k = σ.lb k) from by
          have hst : Step wr σ1 w2 { σ1 with lb := upd σ1.lb n none } := (Step.quiet ((Below.refl _ _).drew)).trans (Step.of_turn (by rw [Mm.out.tA]; simp) (Turn.of_map r3) rfl rfl)
          exact ⟨{ σ1 with lb := upd σ1.lb n none }, Q1, l1, Md.chA (Turn.of_map r3) (r2.congr fun x => lkF_upd σ1.lb n none x) (fun n' b' hb' => by
              by_cases e : n' = n
              · subst e; rw [upd_same] at hb'; cases hb'
              · rw [upd_other _ _ e] at hb'; exact Md.hL n' b' hb'), G1.out.dropL hz0 HQ1.out hX', O1.out.step hst, S2.out.trans hst, HA.out, HLl.out, fun k hk => by show upd σ1.lb n none k = _; rw [upd_other _ _ hk, LB.out]⟩)
        clear r2 r3 hz0 hib Md
        go_wp2_with (first | (go_at_call 93; refine hid.mono ?_; rintro e w' ⟨rfl, hw⟩; obtain rfl := hw.symm))
        go_region
        all_goals
          try go_wp2_with fail
          go_end0
          exact ⟨rfl, HR.out⟩
      · rw [hib] at hid
        have HR := toHid (show ∃ σ' Q' l', Mem KT KN wr σ' ∧ Good σ' Q' X' (fun _ => False) ∧ Got wr σ' g0 (l ++ l') ∧ StepK g0 w0 σ0 wr σ' ∧ ShiftA n (absS σ Q) (absS σ' Q') l' ∧ l.length + l'.length ≤ M ∧ (∀ k, k ≠ n → σ'.lb k = σ.lb k) from
          ⟨σ1, Q1, l1, Mm.out, G1.out.unX hX' ⟨G1.out.notIdle B1.out hib, (fun z r hr => by rw [HQ1.out] at hr; cases hr)⟩, O1.out, S2.out, HA.out, HLl.out, fun k _ => by rw [LB.out]⟩)
        clear hib
        go_wp2_with (first | (go_at_call 93; refine hid.mono ?_; rintro e w' ⟨rfl, hw⟩; obtain rfl := hw.symm))
        go_end0
        exact ⟨rfl, HR.out⟩
    | cons z r =>
      have hzq : z ∈ Q1 n := by rw [hq]; simp
      have hgr := goes_row Mm.out G1.out B1.out hzq
      have hnz := G1.out.node n z hzq
      rw [List.head?_cons, ptr_some]
      rcases Bool.eq_false_or_eq_true (goesB (σ1.lh n) (σ1.nd z).t (joinN (σ1.nd z).had (σ1.nd z).m)) with hgb | hgb
      · rw [hgb] at hgr
        have hgi : GoesIn (σ1.lh n) (σ1.nd z).t (joinN (σ1.nd z).had (σ1.nd z).m) := by simpa only [goesB, decide_eq_true_eq] using hgb
        obtain ⟨p, hp⟩ := G1.out.pbOf (t := (σ1.nd z).t) (by rw [hnz.pw]; simp)
        have hwf := (G1.out.wf _ p hp).1
        obtain ⟨q1, q2, e12, gx, gy, wx, wy, wl, _⟩ := G1.out.stop (X' := X) (Y' := fun s => s = (σ1.nd z).t) hzq rfl (fun k hk => hk.elim id fun e => by rw [e]; exact hX) (fun s hs => hs.elim (fun f => f.elim) id)
        obtain ⟨x, hx⟩ : ∃ x, lastOr (σ1.eb n) q1 = x := ⟨_, rfl⟩
        obtain ⟨y, hy⟩ : ∃ y, headOr (σ1.eb n) q2 = y := ⟨_, rfl⟩
        rw [hx] at gx wx
        rw [hy] at gy wy
        have hzW : IsW (σ1.own z) := by rw [hnz.tag]; exact trivial
        have HSt := toHid (show ∀ W, Mem KT KN W σ1 → Calls Tryz.prog 44 #[.pointer (some ⟨T, 0, none⟩), .pointer (some ⟨p, 0, none⟩)] W fun e w' => ∃ g, e = .returned (.slice (some ⟨g, 0, none⟩) 1 1) ∧ W.heap.size ≤ g ∧ w'.heap[g]? = some (.cells #[nmV n] 9) ∧ (stopS σ1 n (σ1.nd z).t z x y).own g = .no ∧ Mem KT KN w' (stopS σ1 n (σ1.nd z).t z x y) ∧ Step W σ1 w' (stopS σ1 n (σ1.nd z).t z x y) from fun W hW => by
          have := stop33 (n := n) (b := b) (z := z) (p := p) (x := x) (y := y) (t := (σ1.nd z).t) hW hp hnz.pw hzW hnz.name B1.out (G1.out.nm n b B1.out) gx gy wx wy wl
          rw [T2.out] at this
          exact this)
        have HGv := toHid (show ∀ W, Mem KT KN W (stopS σ1 n (σ1.nd z).t z x y) → Calls Tryz.prog 77 #[.pointer (some ⟨T, 0, none⟩), .pointer (some ⟨b, 0, none⟩), .pointer (some ⟨z, 0, none⟩)] W fun e w' => e = .returned (.tuple #[]) ∧ ∃ own lm, Mem KT KN w' (giveS (stopS σ1 n (σ1.nd z).t z x y) n z own lm) ∧ Step W (stopS σ1 n (σ1.nd z).t z x y) w' (giveS (stopS σ1 n (σ1.nd z).t z x y) n z own lm) from fun W hW => by
          have := give45 (n := n) (b := b) (z := z) (p := p) hW B1.out (G1.out.nm n b B1.out) hzW hnz.m1 hnz.m6 (by show (σ1.nd z).had < 6; rw [hnz.had]; exact G1.out.low _ _) hwf hp
          rw [show (stopS σ1 n (σ1.nd z).t z x y).T = T from T2.out] at this
          exact this)
        have HSc := toHid (show ∀ W σ', Mem KT KN W σ' → σ'.T = σ1.T → σ'.B = σ1.B → σ'.pb = σ1.pb → σ'.nd z = σ1.nd z → IsW (σ'.own z) →
            W.cell? ⟨T, 1, none⟩ = some (.map (some σ1.B)) ∧ W.cell? ⟨z, 0, none⟩ = some (.int .i64 (σ1.nd z).t) ∧ (Instr.lookup 65 (.map (some σ1.B)) (.int .i64 (σ1.nd z).t) false).run Tryz.prog W = .ok (.pointer (some ⟨p, 0, none⟩)) W from fun W σ' h' e1 e2 e3 e4 e5 => by
          obtain ⟨c0, _⟩ := (h'.hW z e5).cells
          have hL := h'.hB.look lawI Tryz.underlying65 zero61 (keyI hwf)
          rw [e2, e3, show ptF σ1.pb (.int .i64 (σ1.nd z).t) = some (ptr (some p)) from by simp [ptF, hp]] at hL
          rw [e4] at c0
          have hT := h'.cellsT.2
          rw [e1, e2, T2.out] at hT
          exact ⟨hT, c0, hL⟩)
        have HStep := toHid (show ∀ own lm W, Mem KT KN W (giveS (stopS σ1 n (σ1.nd z).t z x y) n z own lm) → Got W (giveS (stopS σ1 n (σ1.nd z).t z x y) n z own lm) g0 (l ++ l1 ++ [((σ1.nd z).t, n, (σ1.nd z).m)]) → StepK g0 w0 σ0 W (giveS (stopS σ1 n (σ1.nd z).t z x y) n z own lm) → (∀ i, σ1.own i ≠ .no → own i = σ1.own i) →
            (Calls Tryz.prog 76 #[.pointer (some ⟨b, 7, none⟩)] W fun e w' => e = .returned (ptr (upd Q1 n r n).head?) ∧ Below W.heap.size W w') ∧ ∀ W', Below W.heap.size W W' → ∃ σ2 Q2 l2, (ptr (upd Q1 n r n).head? : Value) = ptr (Q2 n).head? ∧ (Q2 n).length ≤ r.length ∧ Hid (Mem KT KN W' σ2) ∧ Hid (Good σ2 Q2 X (fun _ => False)) ∧ Hid (σ2.lb n = some b) ∧ Hid (Got W' σ2 g0 (l ++ l2)) ∧ Hid (StepK g0 w0 σ0 W' σ2) ∧ Hid (σ2.T = T) ∧ Hid (∀ s' l', ShiftA n (absS σ2 Q2) s' l' → ShiftA n (absS σ Q) s' (l2 ++ l')) ∧ Hid (l.length + l2.length + (Q2 n).length ≤ M) ∧ Hid (σ2.lb = σ.lb) from fun own lm W hW hGt hSt htag => by
          obtain ⟨GG, GA⟩ := G1.out.shift (own := own) (lm := lm) B1.out hX hq hgi gx gy htag
          refine ⟨first_row hW GG B1.out, fun W' hW' => ⟨_, upd Q1 n r, l1 ++ [((σ1.nd z).t, n, (σ1.nd z).m)], rfl, by rw [upd_same]; exact Nat.le_refl _, toHid (hW.below hW'), toHid GG, toHid B1.out, toHid (by rw [← List.append_assoc]; exact hGt.step (Step.quiet hW')), toHid (hSt.trans (Step.quiet hW')), toHid T2.out, toHid fun s' l' hh => ?_, toHid ?_, toHid LB.out⟩⟩
          · rw [List.append_assoc]
            refine A1.out _ _ (ShiftA.step (s := absS σ1 Q1) (t := (σ1.nd z).t) (m := (σ1.nd z).m) (r := r.map fun z => ((σ1.nd z).t, (σ1.nd z).m)) ?_ ?_ ?_)
            · show (Q1 n).map _ = _
              rw [hq]
              rfl
            · show Goes σ1.ph (σ1.nd z).t n (σ1.nd z).m
              unfold Goes
              rw [← hnz.had]
              exact (G1.out.goes B1.out _ _).1 hgi
            · rw [GA] at hh
              exact hh
          · rw [upd_same]
            have := L1.out
            rw [hq] at this
            simp at this ⊢
            omega)
        have HNm := toHid hnz.name
        have HZW := toHid hzW
        have HLl := toHid (show (l ++ l1).length ≤ 1000000000 from by have := L1.out; simp; omega)
        have hrl : r.length < gk := by rw [hq] at hle; simp at hle; omega
        clear hid hgi hgb hq hnz hzq gx gy wx wy wl e12 hx hy hp hwf hzW hle A1 L1 HM HG HGot HS HL hf
        go_wp2_with (first | (go_at_call 74; refine hgr.mono ?_; rintro e w2 ⟨rfl, b2⟩; have B2 := toHid b2; clear b2))
        have hd2 : Below wr.heap.size wr w2.drew := B2.out.drew
        have M2 := toHid (Mm.out.below hd2)
        have S3 := toHid (S2.out.trans (Step.quiet hd2))
        have O2 := toHid (O1.out.step (Step.quiet (σ := σ1) hd2))
        have hc2 := HSc.out _ _ M2.out rfl rfl rfl rfl HZW.out
        clear hd2 B2
        go_region_held3 (fun W => W.cell? ⟨T, 1, none⟩ = some (.map (some σ1.B)) ∧ W.cell? ⟨z, 0, none⟩ = some (.int .i64 (σ1.nd z).t) ∧ (Instr.lookup 65 (.map (some σ1.B)) (.int .i64 (σ1.nd z).t) false).run Tryz.prog W = .ok (.pointer (some ⟨p, 0, none⟩)) W) (assumption) (first
          | (go_at_call 44; refine (HSt.out _ M2.out).mono ?_; rintro e w3 ⟨g, rfl, _, _, _, m3, s3⟩; have M3 := toHid m3; have S4 := toHid (S3.out.trans s3); have O3 := toHid (O2.out.step s3); clear m3 s3; have hc3 := HSc.out _ _ M3.out rfl rfl rfl rfl HZW.out))
        all_goals
          clear hc2 hc3
          try go_wp2_with (first
            | (go_at_call 77; refine (HGv.out _ M3.out).mono ?_; rintro e w4 ⟨rfl, own, lm, m4, s4⟩; have M4 := toHid m4; have S5 := toHid (S4.out.trans s4); have O4 := toHid (O3.out.step s4); have TG := toHid (show ∀ i, σ1.own i ≠ .no → own i = σ1.own i from fun i hi => s4.tag i hi); clear m4 s4))
          have HT5 := tell52 (z := z) M4.out (show IsW (own z) from by rw [TG.out z HZW.out.no]; exact HZW.out) O4.out HLl.out S5.out
          refine HT5.mono ?_
          rintro e w5 ⟨rfl, m5, o5, s5⟩
          have o5 : Got w5 (giveS (stopS σ1 n (σ1.nd z).t z x y) n z own lm) g0 (l ++ l1 ++ [((σ1.nd z).t, n, (σ1.nd z).m)]) := by
            have e : (giveS (stopS σ1 n (σ1.nd z).t z x y) n z own lm).nd z = σ1.nd z := rfl
            rw [e, HNm.out] at o5
            exact o5
          obtain ⟨f6, r6⟩ := HStep.out own lm w5 m5 o5 s5 TG.out
          have R6 := toHid r6
          clear HT5 m5 o5 s5 r6 M4 S5 O4 HStep
          go_wp2_with (first | (go_at_call 76; refine f6.mono ?_; rintro e w6 ⟨rfl, b6⟩; have R7 := toHid (R6.out _ b6); clear b6))
          go_roundg (r.length)
          case measure => exact hrl
          case rel => exact R7.out
      · rw [hgb] at hgr
        have hng : ¬ GoesIn (σ1.lh n) (σ1.nd z).t (joinN (σ1.nd z).had (σ1.nd z).m) := by simpa only [goesB, decide_eq_false_iff_not] using hgb
        have hib : idleB (σ1.lh n) = false := by
          cases e : idleB (σ1.lh n)
          · rfl
          · exact absurd ((G1.out.goes B1.out _ _).2 fun s _ => by rw [(G1.out.idle B1.out).1 e s]; exact zero_bes _) hng
        rw [hib] at hid
        have HR := toHid (show ∀ W, Below wr.heap.size wr W → ∃ σ' Q' l', Mem KT KN W σ' ∧ Good σ' Q' X' (fun _ => False) ∧ Got W σ' g0 (l ++ l') ∧ StepK g0 w0 σ0 W σ' ∧ ShiftA n (absS σ Q) (absS σ' Q') l' ∧ l.length + l'.length ≤ M ∧ (∀ k, k ≠ n → σ'.lb k = σ.lb k) from fun W hW =>
          ⟨σ1, Q1, l1, Mm.out.below hW, G1.out.unX hX' ⟨G1.out.notIdle B1.out hib, (fun z' r' hr => by
              rw [hq] at hr
              injection hr with h1 h2
              rw [← h1]
              exact hng)⟩, O1.out.step (Step.quiet hW), S2.out.trans (Step.quiet hW), by
              have := A1.out _ _ (ShiftA.stop (s := absS σ1 Q1) (fun t m r' hr => by
                have hr : (Q1 n).map _ = _ := hr
                rw [hq] at hr
                injection hr with h1 h2
                injection h1 with h3 h4
                rw [← h3, ← h4]
                show ¬ Goes σ1.ph (σ1.nd z).t n (σ1.nd z).m
                unfold Goes
                rw [← hnz.had]
                exact fun hc => hng ((G1.out.goes B1.out _ _).2 hc)))
              simpa using this, by have := L1.out; omega, fun k _ => by rw [LB.out]⟩)
        have hidW := toHid (show ∀ W, Below wr.heap.size wr W → Calls Tryz.prog 93 #[.pointer (some ⟨b, 0, none⟩)] W fun e w' => e = .returned (.bool false) ∧ w' = W from fun W hW => by
          have := idle64 (Mm.out.below hW) B1.out
          rw [hib] at this
          exact this)
        clear hid hib hng hgb A1 L1 hle hq hnz hzq
        go_wp2_with (first | (go_at_call 74; refine hgr.mono ?_; rintro e w2 ⟨rfl, b2⟩; have B2 := toHid b2; clear b2) | (go_at_call 93; refine (hidW.out _ B2.out).mono ?_; rintro e w' ⟨rfl, hw⟩; obtain rfl := hw.symm))
        go_end0
        exact ⟨rfl, HR.out _ B2.out⟩
end

end Go.Proofs.YtclppfljengnbaaGreat
