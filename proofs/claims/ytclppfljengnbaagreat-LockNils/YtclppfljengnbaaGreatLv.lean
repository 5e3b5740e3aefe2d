/-
  The chapter's example.
-/
import Derived.Test.YtclppfljengnbaaGreatHe
namespace Go.Proofs.YtclppfljengnbaaGreat
open Go.RowKit Go.Maps Go.Sort Go.Shelf

theorem good0 (s : Nat) : Good (sg0 s) (fun _ => []) (fun _ => False) (fun _ => False) where
  dead := fun _ _ => ⟨rfl, fun _ => rfl⟩
  wf := fun _ _ h => by cases h
  nm := fun _ _ h => by cases h
  low := fun _ _ => by show 0 < 6; omega
  lhm := fun _ _ h => by cases h
  gone := fun _ _ => ⟨fun _ => rfl, rfl⟩
  held := fun _ _ h => by cases h
  par := fun _ _ h => by cases h
  ring := fun _ _ h => by cases h
  node := fun _ _ h => by cases h
  wait := fun _ _ h => by cases h
  bes := fun _ _ _ _ => rfl
theorem own0 {s i : Nat} (h : (sg0 s).own i ≠ .no) : s ≤ i := by
  refine Classical.byContradiction fun hc => h ?_
  show upd (upd (upd (fun _ => Tag.no) s .A) (s + 1) .B) (s + 2) .T i = .no
  rw [upd_other _ _ (by omega), upd_other _ _ (by omega), upd_other _ _ (by omega)]

abbrev nmA : Name := [97]

/-- What Free(1) tells in the example. -/
theorem lives_math {s s' : AS} {l : List Gr} {ns : List Name} (h : LetA ns s s' l) (hp : ns.Pairwise (· < ·)) (hm : ∀ k, k ∈ ns ↔ k = nmA) (hR : s.R nmA = [(2, 5), (3, 3)]) (hH : ∀ t, s.H t nmA = 0) : l = [(2, nmA, 5)] := by
  have hn : ns = [nmA] := by
    match ns, hp, hm with
    | [], _, hm => have := (hm nmA).2 rfl; cases this
    | [x], _, hm => have := (hm x).1 (by simp); rw [this]
    | x :: y :: r, hp, hm =>
      have h1 := (hm x).1 (by simp)
      have h2 := (hm y).1 (by simp)
      have := (List.pairwise_cons.1 hp).1 y (by simp)
      rw [h1, h2] at this
      exact absurd this (List.lt_irrefl _)
  subst hn
  cases h with
  | cons h1 h2 =>
    cases h2
    cases h1 with
    | stop hs =>
      exfalso
      refine hs 2 5 _ hR fun t _ => ?_
      rw [hH, hH]
      exact zero_bes _
    | step e1 e2 e3 =>
      rw [hR] at e1
      injection e1 with e4 e5
      injection e4 with e6 e7
      subst e6
      subst e7
      subst e5
      cases e3 with
      | stop hs => rfl
      | step f1 f2 f3 =>
        exfalso
        have f1 : upd s.R nmA [(3, 3)] nmA = _ := f1
        rw [upd_same] at f1
        injection f1 with f4 f5
        injection f4 with f6 f7
        subst f6
        subst f7
        have := f2 2 (by decide)
        have e8 : ((⟨s.H, upd s.R nmA [(3, 3)]⟩ : AS).give 2 nmA 5).H 2 nmA = 5 := by
          show upd s.H 2 (upd (s.H 2) nmA (joinN (s.H 2 nmA) 5)) 2 nmA = 5
          rw [upd_same, upd_same, hH]
          rfl
        have e9 : ((⟨s.H, upd s.R nmA [(3, 3)]⟩ : AS).give 2 nmA 5).H 3 nmA = 0 := by
          show upd s.H 2 (upd (s.H 2) nmA (joinN (s.H 2 nmA) 5)) 3 nmA = 0
          rw [upd_other _ _ (by decide), hH]
        rw [e8, e9] at this
        exact absurd this (by decide)

theorem own_cells3 {w : World} {B : Nat} {v : Value} {g : Gr} (h : w.ownsRow B 53 3 v 1 (gcells [g])) : ∃ b c, v = .slice (some ⟨b, 0, none⟩) 1 c ∧ w.cell? ⟨b, 0, none⟩ = some (.int .i64 g.1) ∧ w.cell? ⟨b, 1, none⟩ = some (nmV g.2.1) ∧ w.cell? ⟨b, 2, none⟩ = some (.int .i64 ((g.2.2 : Nat) : Int)) := by
  rcases h.2 with ⟨_, h0⟩ | ⟨b, cap, cur, rfl, _⟩
  · cases h0
  · have hc := h.cells (g := b) rfl
    refine ⟨b, cap, rfl, ?_, ?_, ?_⟩
    · have := hc 0 _ rfl; rw [addr_add] at this; exact this
    · have := hc 1 _ rfl; rw [addr_add] at this; exact this
    · have := hc 2 _ rfl; rw [addr_add] at this; exact this

set_option maxRecDepth 100000 in
set_option maxHeartbeats 4000000 in
theorem lives12 (w : World) : Calls Tryz.prog 8 #[] w fun e w' => e = .returned (.bool true) ∧ Below w.heap.size w w' := by
  have hnew := new20 [.int .i64 1, .int .i64 2, .int .i64 3] [.string nmA] (by simp) (by simp) w
  have HA := toHid (show ∀ W σ Q, Mem [.int .i64 1, .int .i64 2, .int .i64 3] [.string nmA] W σ → Good σ Q (fun _ => False) (fun _ => False) → ∀ (t : Int) (m : Nat), t = 1 ∨ t = 2 ∨ t = 3 → 1 ≤ m → m < 6 → σ.pw t = none → σ.T = w.heap.size + 2 →
      Calls Tryz.prog 21 #[.pointer (some ⟨w.heap.size + 2, 0, none⟩), .int .i64 t, .agg #[nmV nmA, .int .i64 ((m : Nat) : Int)]] W fun e w' => ∃ g, e = .returned (.tuple #[.bool g, .int .i64 0]) ∧ ∃ σ' Q', Mem [.int .i64 1, .int .i64 2, .int .i64 3] [.string nmA] w' σ' ∧ Step W σ w' σ' ∧ Good σ' Q' (fun _ => False) (fun _ => False) ∧ AskR σ Q σ' Q' t nmA m g from fun W σ Q hM hG t m ht hm1 hm6 hw hT => by
    have := ask_ok (n := nmA) (m := m) (t := t) hM hG (by rcases ht with rfl | rfl | rfl <;> decide) (by omega) (by rcases ht with rfl | rfl | rfl <;> simp) (by decide) (by decide) (by simp) hm1 hm6 hw
    rw [hT] at this
    exact this)
  have tok1 : True := trivial
  have tok2 : True := trivial
  have tok3 : True := trivial
  go_enter Tryz.func8, Tryz.ntmps8
  go_wp2_with (first
    | (go_at_call 6; refine hnew.mono ?_; rintro e w1 ⟨rfl, b1, m1⟩; have B1 := toHid b1; have M1 := toHid m1; clear b1 m1)
    | (go_at_call 21; have _t := tok1; refine (HA.out w1 _ _ M1.out (good0 _) 1 3 (by simp) (by omega) (by omega) rfl rfl).mono ?_; rintro e w2 ⟨g2, rfl, σ2, Q2, m2, s2, gd2, r2⟩; obtain rfl : g2 = true := (by
        cases g2
        · exact absurd ⟨fun s _ => zero_bes _, .inr rfl⟩ (r2.no rfl).1
        · rfl); have M2 := toHid m2; have S2 := toHid s2; have G2 := toHid gd2; have R2 := toHid (r2.yes rfl); clear m2 s2 gd2 r2 tok1)
    | (go_at_call 21; have _t := tok2; refine (HA.out w2 _ _ M2.out G2.out 2 5 (by simp) (by omega) (by omega) (by rw [R2.out.2.2.2.1]; rfl) (S2.out.top.trans rfl)).mono ?_; rintro e w3 ⟨g3, rfl, σ3, Q3, m3, s3, gd3, r3⟩; obtain rfl : g3 = false := (by
        cases g3
        · rfl
        · have h1 := (r3.yes rfl).1 1 (by decide)
          rw [R2.out.2.2.1] at h1
          rw [upd_same, upd_same, upd_other _ _ (show (2 : Int) ≠ 1 by decide)] at h1
          exact absurd (show besB (joinN 0 3) (joinN 0 5) = true from h1) (by decide)); have M3 := toHid m3; have S3 := toHid s3; have G3 := toHid gd3; have R3 := toHid (r3.no rfl); clear m3 s3 gd3 r3 tok2)
    | (go_at_call 21; have _t := tok3; refine (HA.out w3 _ _ M3.out G3.out 3 3 (by simp) (by omega) (by omega) (by
        obtain ⟨_, _, z, q1, q2, _, _, _, hpw, _⟩ := R3.out
        rw [hpw, upd_other _ _ (by decide), R2.out.2.2.2.1]
        rfl) (S3.out.top.trans (S2.out.top.trans rfl))).mono ?_; rintro e w4 ⟨g4, rfl, σ4, Q4, m4, s4, gd4, r4⟩; obtain rfl : g4 = false := (by
        cases g4
        · rfl
        · obtain ⟨_, hph, z, q1, q2, _, _, hQ, _⟩ := R3.out
          rcases (r4.yes rfl).2.1 with h1 | h1
          · rw [hph, R2.out.2.2.1, upd_other _ _ (by decide)] at h1
            exact absurd rfl h1
          · rw [hQ, upd_same] at h1
            simp at h1); have M4 := toHid m4; have S4 := toHid s4; have G4 := toHid gd4; have R4 := toHid (r4.no rfl); have HFr := toHid (free18 (t := 1) m4 gd4 (by decide)); have T4 := toHid (show σ4.T = w.heap.size + 2 from s4.top.trans (S3.out.top.trans (S2.out.top.trans rfl))); clear m4 s4 gd4 r4 tok3)
    | (go_at_call 18; rw [← show σ4.T = w.heap.size + 2 from T4.out]; refine HFr.out.mono ?_; rintro e w5 ⟨v, rfl, σ5, Q5, l5, ns, m5, gd5, o5, no5, s5, a5, p5, mm5, _⟩; have hl5 : l5 = [(2, nmA, 5)] := (by
        obtain ⟨_, ph3, z, q1, q2, hq, _, hQ, hpw, hnd, _, _⟩ := R3.out
        obtain ⟨_, ph4, z', q1', q2', hq', hq2', hQ', hpw', hnd', hold, _⟩ := R4.out
        have e2 : Q2 nmA = [] := by rw [R2.out.2.2.2.2.1]
        rw [e2] at hq
        have hq1 : q1 = [] := by cases q1 with | nil => rfl | cons _ _ => simp at hq
        subst hq1
        have hq2 : q2 = [] := by simpa using hq.symm
        subst hq2
        have e3 : Q3 nmA = [z] := by rw [hQ, upd_same]; rfl
        have h30 : σ3.ph 3 nmA = 0 := by rw [ph3, R2.out.2.2.1, upd_other _ _ (by decide)]; rfl
        have hq2z := hq2' h30
        subst hq2z
        rw [e3] at hq'
        have hq1z : q1' = [z] := by simpa using hq'.symm
        subst hq1z
        have e4 : Q4 nmA = [z, z'] := by rw [hQ', upd_same]; rfl
        have hH : σ4.ph = upd (fun _ _ => 0) 1 (upd (fun _ => 0) nmA 3) := by rw [ph4, ph3, R2.out.2.2.1]; rfl
        refine lives_math a5 p5 (fun k => ?_) ?_ (fun t => ?_)
        · rw [mm5]
          have hp1 : σ4.pw 1 = none := by rw [hpw', upd_other _ _ (by decide), hpw, upd_other _ _ (by decide), R2.out.2.2.2.1]; rfl
          rw [hp1, hH, upd_same]
          by_cases e : k = nmA
          · subst e; rw [upd_same]; simp
          · rw [upd_other _ _ e]; simp [e]
        · show ((Q4 nmA).map fun z => ((σ4.nd z).t, (σ4.nd z).m)).filter _ = _
          rw [e4]
          have n1 : σ4.nd z = ⟨2, nmA, 5, σ2.ph 2 nmA⟩ := by rw [hold nmA z (by rw [e3]; simp), hnd]
          simp [n1, hnd']
        · show upd σ4.ph 1 (fun _ => 0) t nmA = 0
          by_cases e : t = 1
          · rw [e, upd_same]
          · rw [upd_other _ _ e, hH, upd_other _ _ e]); subst hl5; obtain ⟨gb, gc, rfl, c0, c1, c2⟩ := own_cells3 o5; have HB := toHid (show Below w.heap.size w w5 from by
        have hst := (S2.out.trans (S3.out.trans S4.out)).trans s5
        refine B1.out.trans ⟨hst.turn.os, hst.turn.tape, hst.turn.output, hst.turn.size, fun i hi => hst.turn.block i (Nat.lt_of_lt_of_le hi B1.out.size) (fun e => by have := own0 e; omega)⟩); clear m5 gd5 no5 s5 a5 p5 mm5)
    | fail)
  go_ret
  exact ⟨rfl, HB.out⟩

end Go.Proofs.YtclppfljengnbaaGreat
