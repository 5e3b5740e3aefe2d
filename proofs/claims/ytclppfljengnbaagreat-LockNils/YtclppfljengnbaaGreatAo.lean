/-
  Ask.
-/
import Derived.Test.YtclppfljengnbaaGreatAn
namespace Go.Proofs.YtclppfljengnbaaGreat
open Go.RowKit Go.Maps

theorem AskR.from {σ σ3 σ' : Sg} {Q Q' : Name → List Nat} {t : Int} {n : Name} {m : Nat} {g : Bool} (h : AskR σ3 Q σ' Q' t n m g) (e1 : σ3.ph = σ.ph) (e2 : σ3.pw = σ.pw) (e3 : ∀ k u, u ∈ Q k → σ3.nd u = σ.nd u) : AskR σ Q σ' Q' t n m g := by
  refine ⟨fun hg => ?_, fun hg => ?_⟩
  · obtain ⟨h1, h2, h3, h4, h5, h6⟩ := h.yes hg
    rw [e1] at h1 h2 h3
    rw [e2] at h4
    exact ⟨h1, h2, h3, h4, h5, fun k u hu => (h6 k u hu).trans (e3 k u hu)⟩
  · obtain ⟨h1, h2, z, q1, q2, h3, h4, h5, h6, h7, h8, h9⟩ := h.no hg
    rw [e1] at h1 h2 h4 h7
    rw [e2] at h6
    exact ⟨h1, h2, z, q1, q2, h3, h4, h5, h6, h7, fun k u hu => (h8 k u hu).trans (e3 k u hu), h9⟩

section
variable {KT KN : List Lit} {w : World} {σ : Sg} {Q : Name → List Nat} {n : Name} {m : Nat} {t : Int}

set_option maxRecDepth 100000 in
set_option maxHeartbeats 4000000 in
/-- What may not be asked for. -/
theorem ask_bad (T : Option Nat) (w : World) (n : Name) (md t : Int) (hbad : T = none ∨ t < 1 ∨ n.length < 1 ∨ 16 < n.length ∨ md < 1 ∨ 5 < md) :
    Calls Tryz.prog 21 #[ptr T, .int .i64 t, .agg #[nmV n, .int .i64 md]] w fun e w' => e = .returned (.tuple #[.bool false, .int .i64 1]) ∧ Below w.heap.size w w' := by
  have hB : Below w.heap.size w (w.alloc (.cells #[nmV n, .int .i64 md] 31)) := (Below.refl _ _).alloc (Nat.le_refl _) _
  have HBd := toHid hB
  have hN := isName28 n
  have hK := fun W => known_any md W
  cases T with
  | none =>
    rw [ptr_none]
    clear hbad hB
    go_enter Tryz.func21, Tryz.ntmps21
    go_wp2
    go_ret2
    exact ⟨rfl, HBd.out⟩
  | some T =>
    rw [ptr_some]
    by_cases h1 : t < 1
    · clear hbad hB
      go_enter Tryz.func21, Tryz.ntmps21
      go_wp2
      go_ret2
      exact ⟨rfl, HBd.out⟩
    · by_cases h2 : 1 ≤ n.length ∧ n.length ≤ 16
      · rw [show decide (1 ≤ n.length ∧ n.length ≤ 16) = true from by simp [h2]] at hN
        by_cases h3 : md = 0
        · subst h3
          clear hbad hB h2
          go_enter Tryz.func21, Tryz.ntmps21
          go_wp2_with (first | (go_at_call 47; refine (hN _).mono ?_; rintro e w' ⟨rfl, hw⟩; obtain rfl := hw.symm))
          go_ret2
          exact ⟨rfl, HBd.out⟩
        · rw [show knB md = false from by
            simp only [knB, decide_eq_false_iff_not]
            rcases hbad with h | h | h | h | h | h
            · cases h
            all_goals omega] at hK
          clear hbad hB h2
          go_enter Tryz.func21, Tryz.ntmps21
          go_wp2_with (first | (go_at_call 47; refine (hN _).mono ?_; rintro e w' ⟨rfl, hw⟩; obtain rfl := hw.symm) | (go_at_call 48; refine (hK _).mono ?_; rintro e w' ⟨rfl, hw⟩; obtain rfl := hw.symm))
          go_ret2
          exact ⟨rfl, HBd.out⟩
      · rw [show decide (1 ≤ n.length ∧ n.length ≤ 16) = false from by simp only [decide_eq_false_iff_not]; exact h2] at hN
        clear hbad hB h2
        go_enter Tryz.func21, Tryz.ntmps21
        go_wp2_with (first | (go_at_call 47; refine (hN _).mono ?_; rintro e w' ⟨rfl, hw⟩; obtain rfl := hw.symm))
        go_ret2
        exact ⟨rfl, HBd.out⟩

set_option maxRecDepth 100000 in
set_option maxHeartbeats 4000000 in
/-- One who waits already. -/
theorem ask_waits (h : Mem KT KN w σ) (G : Good σ Q (fun _ => False) (fun _ => False)) (ht : (Lit.int .i64 t).wf = true) (ht1 : 1 ≤ t) (hn1 : 1 ≤ n.length) (hn16 : n.length ≤ 16) (hm1 : 1 ≤ m) (hm6 : m < 6) (hw : σ.pw t ≠ none) :
    Calls Tryz.prog 21 #[.pointer (some ⟨σ.T, 0, none⟩), .int .i64 t, .agg #[nmV n, .int .i64 ((m : Nat) : Int)]] w fun e w' => e = .returned (.tuple #[.bool false, .int .i64 10]) ∧ Below w.heap.size w w' := by
  have hB : Below w.heap.size w (w.alloc (.cells #[nmV n, .int .i64 ((m : Nat) : Int)] 31)) := (Below.refl _ _).alloc (Nat.le_refl _) _
  have hN := isName28 n
  have hK := fun W => known_any ((m : Nat) : Int) W
  rw [show decide (1 ≤ n.length ∧ n.length ≤ 16) = true from by simp [hn1, hn16]] at hN
  rw [show knB ((m : Nat) : Int) = true from by simp only [knB, decide_eq_true_eq]; omega] at hK
  obtain ⟨p, hp⟩ := G.pbOf hw
  obtain ⟨z, hz⟩ : ∃ z, σ.pw t = some z := by cases e : σ.pw t with
    | none => exact absurd e hw
    | some z => exact ⟨z, rfl⟩
  have h0 := h.below hB
  have hT := h0.cellsT.2
  have hlk := h0.hB.look lawI Tryz.underlying65 zero61 (keyI ht)
  rw [show ptF σ.pb (.int .i64 t) = some (ptr (some p)) from by simp [ptF, hp]] at hlk
  simp only [Option.getD_some, ptr_some] at hlk
  obtain ⟨_, c1, _⟩ := (h0.hP t p hp).cells
  rw [hz, ptr_some] at c1
  have HBd := toHid hB
  have q1 : ¬ (t < 1) := by omega
  have q2 : ¬ (((m : Nat) : Int) = 0) := by omega
  clear h h0 G hB hn1 hw hp hz
  go_enter Tryz.func21, Tryz.ntmps21
  go_wp2_with (first | (go_at_call 47; refine (hN _).mono ?_; rintro e w' ⟨rfl, hw⟩; obtain rfl := hw.symm) | (go_at_call 48; refine (hK _).mono ?_; rintro e w' ⟨rfl, hw⟩; obtain rfl := hw.symm))
  go_ret2
  exact ⟨rfl, HBd.out⟩

set_option maxRecDepth 100000 in
set_option maxHeartbeats 4000000 in
theorem ask_ok (h : Mem KT KN w σ) (G : Good σ Q (fun _ => False) (fun _ => False)) (ht : (Lit.int .i64 t).wf = true) (ht1 : 1 ≤ t) (hKT : Lit.int .i64 t ∈ KT) (hn1 : 1 ≤ n.length) (hn16 : n.length ≤ 16) (hKN : Lit.string n ∈ KN) (hm1 : 1 ≤ m) (hm6 : m < 6) (hw : σ.pw t = none) :
    Calls Tryz.prog 21 #[.pointer (some ⟨σ.T, 0, none⟩), .int .i64 t, .agg #[nmV n, .int .i64 ((m : Nat) : Int)]] w fun e w' => ∃ g, e = .returned (.tuple #[.bool g, .int .i64 0]) ∧ ∃ σ' Q', Mem KT KN w' σ' ∧ Step w σ w' σ' ∧ Good σ' Q' (fun _ => False) (fun _ => False) ∧ AskR σ Q σ' Q' t n m g := by
  have hB : Below w.heap.size w (w.alloc (.cells #[nmV n, .int .i64 ((m : Nat) : Int)] 31)) := (Below.refl _ _).alloc (Nat.le_refl _) _
  have hN := isName28 n
  have hK := fun W => known_any ((m : Nat) : Int) W
  rw [show decide (1 ≤ n.length ∧ n.length ≤ 16) = true from by simp [hn1, hn16]] at hN
  rw [show knB ((m : Nat) : Int) = true from by simp only [knB, decide_eq_true_eq]; omega] at hK
  have h0 := h.below hB
  have S0 := toHid (Step.quiet (σ := σ) hB)
  obtain ⟨s, hs⟩ : ∃ s, w.heap.size = s := ⟨_, rfl⟩
  have hso : σ.own s = .no := own_new h (by omega)
  have hbx := heap_alloc_new w (.cells #[nmV n, .int .i64 ((m : Nat) : Int)] 31)
  have hT := h0.cellsT.2
  have hlk := h0.hB.look lawI Tryz.underlying65 zero61 (keyI ht)
  have q1 : ¬ (t < 1) := by omega
  have q2 : ¬ (((m : Nat) : Int) = 0) := by omega
  have HW0 := toHid hw
  have hmk := @run_makeMap Tryz.prog
  have HBx := toHid (show ∀ W σ', Step (w.alloc (.cells #[nmV n, .int .i64 ((m : Nat) : Int)] 31)) σ W σ' → W.cell? ⟨s, 0, none⟩ = some (nmV n) ∧ W.cell? ⟨s, 1, none⟩ = some (.int .i64 ((m : Nat) : Int)) from fun W σ' st => by
    rw [hs] at hbx
    have e := (st.turn.block s (lt_of_heap hbx) (fun e => e hso)).trans hbx
    simp [World.cell?, e])
  have HBx0 := HBx.out _ _ (Step.refl _ _)
  have HSz := toHid (show (w.alloc (.cells #[nmV n, .int .i64 ((m : Nat) : Int)] 31)).heap.size = s + 1 from by simp [hs])
  have HG := toHid G
  cases hp : σ.pb t with
  | some p =>
    rw [show ptF σ.pb (.int .i64 t) = some (ptr (some p)) from by simp [ptF, hp]] at hlk
    simp only [Option.getD_some, ptr_some] at hlk
    obtain ⟨_, c1, _⟩ := (h0.hP t p hp).cells
    rw [hw, ptr_none] at c1
    have M0 := toHid h0
    have HP := toHid hp
    clear h h0 G hB hbx hw hp hso hn1
    go_enter Tryz.func21, Tryz.ntmps21
    go_wp2_with (first | (go_at_call 47; refine (hN _).mono ?_; rintro e w' ⟨rfl, hw⟩; obtain rfl := hw.symm) | (go_at_call 48; refine (hK _).mono ?_; rintro e w' ⟨rfl, hw⟩; obtain rfl := hw.symm))
    generalize (w.alloc (.cells #[nmV n, .int .i64 ((m : Nat) : Int)] 31)) = w0 at *
    have SR := toHid (Step.refl w0 σ)
    clear hN hK hT hlk c1 q1 q2 HBx0 hmk
    have hd9 : Below w0.heap.size w0 w0.drew := (Below.refl _ _).drew
    have M9 := toHid (M0.out.below hd9)
    have S9 := toHid (SR.out.trans (Step.quiet hd9))
    have hc9 := HBx.out _ _ S9.out
    clear hd9
    go_wp2_with fail
    go_region_held3 (fun W => W.cell? ⟨s, 0, none⟩ = some (nmV n) ∧ W.cell? ⟨s, 1, none⟩ = some (.int .i64 ((m : Nat) : Int))) (assumption) (first
      | (go_at_call 50; refine (named_any M9.out HG.out hn16 hKN).mono ?_; rintro e w3 ⟨b, rfl, σ3, X3, m3, s3, g3, lb3, x3, x3', ph3, pw3, pb3, nd3⟩; have M3 := toHid m3; have S3 := toHid (S9.out.trans s3); have T3 := toHid s3.top; have G3 := toHid g3; have HL3 := toHid lb3; have HX3 := toHid x3; have HX3' := toHid x3'; have HP3 := toHid ph3; have HW3 := toHid pw3; have HB3 := toHid pb3; have HN3 := toHid nd3; clear m3 s3 g3 lb3 x3 x3' ph3 pw3 pb3 nd3; have hc3 := HBx.out _ _ S3.out)
      | (go_at_call 49; rw [← show σ3.T = σ.T from T3.out]; refine (ask_any M3.out G3.out HL3.out (by rw [HB3.out]; exact HP.out) (by rw [HW3.out]; exact HW0.out) hm1 hm6 (fun hx => (HX3'.out hx).1) HX3.out (fun x hx => hx.elim) (fun hx s => by rw [HP3.out]; exact (HX3'.out hx).2 s)).mono ?_; rintro e w4 ⟨g, rfl, σ4, Q4, m4, s4, g4, r4⟩; have HR := toHid (show ∃ σ' Q', Mem KT KN w4 σ' ∧ Step w σ w4 σ' ∧ Good σ' Q' (fun _ => False) (fun _ => False) ∧ AskR σ Q σ' Q' t n m g from ⟨σ4, Q4, m4, S0.out.trans (S3.out.trans s4), g4, r4.from (HP3.out.trans rfl) (HW3.out.trans rfl) HN3.out⟩); have hc4 := HBx.out _ _ (S3.out.trans s4); clear m4 s4 g4 r4))
    all_goals
      try go_wp2_with fail
      go_ret2
      exact ⟨g, rfl, HR.out⟩
  | none =>
    rw [show ptF σ.pb (.int .i64 t) = none from by simp [ptF, hp]] at hlk
    simp only [Option.getD_none] at hlk
    obtain ⟨w2, r1, m2, s2⟩ := h0.newP hp hw (G.dead t hp).2 ht hKT
    have G2 := toHid (show Good (newPS σ t (w.alloc (.cells #[nmV n, .int .i64 ((m : Nat) : Int)] 31)).heap.size ((w.alloc (.cells #[nmV n, .int .i64 ((m : Nat) : Int)] 31)).heap.size + 1)) Q (fun _ => False) (fun x => x = t) from (G.tags s2.tag σ.lm (upd σ.pm t (w.alloc (.cells #[nmV n, .int .i64 ((m : Nat) : Int)] 31)).heap.size)).newP (t := t) (Y' := fun x => x = t) hp ht ht1 _ (fun x hx => hx.elim (fun f => f.elim) id))
    rw [HSz.out] at r1 m2 s2 G2
    have M2 := toHid m2
    have S2 := toHid s2
    have HP := toHid (show (newPS σ t (s + 1) (s + 1 + 1)).pb t = some (s + 1 + 1) from upd_same _ _ _)
    have hT2 : ((w.alloc (.cells #[nmV n, .int .i64 ((m : Nat) : Int)] 31)).alloc (.map #[] 0)).cell? ⟨σ.T, 1, none⟩ = some (.map (some σ.B)) := by
      rw [← hT]
      exact ((Below.refl _ (w.alloc (.cells #[nmV n, .int .i64 ((m : Nat) : Int)] 31))).alloc (Nat.le_refl _) (.map #[] 0)).cell (p := ⟨σ.T, 1, none⟩) (h0.lt σ.T (by rw [h0.tT]; simp))
    have hT3 : (((w.alloc (.cells #[nmV n, .int .i64 ((m : Nat) : Int)] 31)).alloc (.map #[] 0)).alloc (.cells #[.map (some (s + 1)), .pointer none] 98)).cell? ⟨σ.T, 1, none⟩ = some (.map (some σ.B)) := by
      rw [← hT2]
      exact ((Below.refl _ ((w.alloc (.cells #[nmV n, .int .i64 ((m : Nat) : Int)] 31)).alloc (.map #[] 0))).alloc (Nat.le_refl _) _).cell (p := ⟨σ.T, 1, none⟩) (by have := h0.lt σ.T (by rw [h0.tT]; simp); simp at this ⊢; omega)
    clear h h0 G hB hbx hw hp hso hn1 m2 s2
    go_enter Tryz.func21, Tryz.ntmps21
    go_wp2_with (first | (go_at_call 47; refine (hN _).mono ?_; rintro e w' ⟨rfl, hw⟩; obtain rfl := hw.symm) | (go_at_call 48; refine (hK _).mono ?_; rintro e w' ⟨rfl, hw⟩; obtain rfl := hw.symm))
    generalize (w.alloc (.cells #[nmV n, .int .i64 ((m : Nat) : Int)] 31)) = w0 at *
    clear hN hK hT hT2 hT3 hlk q1 q2 HBx0 hmk r1
    have hd9 : Below w2.heap.size w2 w2.drew := (Below.refl _ _).drew
    have M9 := toHid (M2.out.below hd9)
    have S9 := toHid (S2.out.trans (Step.quiet hd9))
    have hc9 := HBx.out _ _ S9.out
    clear hd9
    go_wp2_with fail
    go_region_held3 (fun W => W.cell? ⟨s, 0, none⟩ = some (nmV n) ∧ W.cell? ⟨s, 1, none⟩ = some (.int .i64 ((m : Nat) : Int))) (assumption) (first
      | (go_at_call 50; refine (named_any M9.out G2.out hn16 hKN).mono ?_; rintro e w3 ⟨b, rfl, σ3, X3, m3, s3, g3, lb3, x3, x3', ph3, pw3, pb3, nd3⟩; have M3 := toHid m3; have S3 := toHid (S9.out.trans s3); have T3 := toHid s3.top; have G3 := toHid g3; have HL3 := toHid lb3; have HX3 := toHid x3; have HX3' := toHid x3'; have HP3 := toHid ph3; have HW3 := toHid pw3; have HB3 := toHid pb3; have HN3 := toHid nd3; clear m3 s3 g3 lb3 x3 x3' ph3 pw3 pb3 nd3; have hc3 := HBx.out _ _ S3.out)
      | (go_at_call 49; rw [← show σ3.T = σ.T from T3.out]; refine (ask_any M3.out G3.out HL3.out (by rw [HB3.out]; exact HP.out) (by rw [HW3.out]; exact HW0.out) hm1 hm6 (fun hx => (HX3'.out hx).1) HX3.out (fun x hx => hx) (fun hx s => by rw [HP3.out]; exact (HX3'.out hx).2 s)).mono ?_; rintro e w4 ⟨g, rfl, σ4, Q4, m4, s4, g4, r4⟩; have HR := toHid (show ∃ σ' Q', Mem KT KN w4 σ' ∧ Step w σ w4 σ' ∧ Good σ' Q' (fun _ => False) (fun _ => False) ∧ AskR σ Q σ' Q' t n m g from ⟨σ4, Q4, m4, S0.out.trans (S3.out.trans s4), g4, r4.from (HP3.out.trans rfl) (HW3.out.trans rfl) HN3.out⟩); have hc4 := HBx.out _ _ (S3.out.trans s4); clear m4 s4 g4 r4))
    all_goals
      try go_wp2_with fail
      go_ret2
      exact ⟨g, rfl, HR.out⟩
end

end Go.Proofs.YtclppfljengnbaaGreat
