/-
  Somebody asks for a lock: it gets it, or waits.
-/
import Derived.Test.YtclppfljengnbaaGreatGe
namespace Go.Proofs.YtclppfljengnbaaGreat
open Go.RowKit Go.Maps

section
variable {KT KN : List Lit} {w : World} {σ : Sg} {Q : Name → List Nat} {X X' : Name → Prop} {Y Y' : Int → Prop} {n : Name} {b p m : Nat} {t : Int}

/-- One who asks, ahead of all. -/
noncomputable def askS (σ : Sg) (z : Nat) (d : Nd) : Sg := { σ with own := upd σ.own z .W, nd := upd σ.nd z d, ah := upd σ.ah z none, bh := upd σ.bh z none }

theorem phF_get (g : Name → Nat) (n : Name) : (phF g (.string n)).getD (.int .i64 0) = .int .i64 ((g n : Nat) : Int) := by
  simp only [phF]
  by_cases e : g n = 0
  · rw [if_pos e, e]; rfl
  · rw [if_neg e]; rfl
theorem Ring.head {ah bh : Nat → Option Nat} {e : Nat} {q : List Nat} (h : Ring ah bh e q) : bh e = some (headOr e q) := by
  have := (Ring.split (q := []) (r := q)).1 h
  exact this.2.1
theorem frst_head {e : Nat} {q : List Nat} (h : (e :: q).Nodup) : frst e (some (headOr e q)) = q.head? := by
  cases q with
  | nil => simp [frst, headOr]
  | cons u q =>
    have : u ≠ e := fun e1 => (List.nodup_cons.1 h).1 (by simp [e1])
    simp [frst, headOr, this]

set_option maxRecDepth 100000 in
set_option maxHeartbeats 4000000 in
theorem ask_yes (h : Mem KT KN w σ) (G : Good σ Q X Y) (hb : σ.lb n = some b) (hp : σ.pb t = some p) (hw : σ.pw t = none) (hm1 : 1 ≤ m) (hm6 : m < 6) (hg : GoesIn (σ.lh n) t (joinN (σ.ph t n) m)) (hc : σ.ph t n ≠ 0 ∨ Q n = []) (hX : X n → Q n = []) (hX' : ∀ k, X k → k = n ∨ X' k) (hY : ∀ s, Y s → s = t ∨ Y' s) :
    Calls Tryz.prog 49 #[.pointer (some ⟨σ.T, 0, none⟩), .pointer (some ⟨p, 0, none⟩), .pointer (some ⟨b, 0, none⟩), .int .i64 t, .int .i64 ((m : Nat) : Int)] w fun e w' => e = .returned (.bool true) ∧ ∃ σ', Mem KT KN w' σ' ∧ Step w σ w' σ' ∧ Good σ' Q X' Y' ∧ σ'.pw = σ.pw ∧ σ'.ph = upd σ.ph t (upd (σ.ph t) n (joinN (σ.ph t n) m)) ∧ (∀ k u, u ∈ Q k → σ'.nd u = σ.nd u) ∧ σ'.pb = σ.pb ∧ σ'.lb = σ.lb := by
  have hl := h.hL n b hb
  obtain ⟨l0, _, _, _, _, _, _, l7, _⟩ := hl.cells
  have hpp := h.hP t p hp
  obtain ⟨p0, p1, pf1⟩ := hpp.cells
  have hlk := ((drew_mem h).hP t p hp).map.look lawS Tryz.underlying95 zero29 (keyS (G.nm n b hb))
  rw [phF_get] at hlk
  have hlow := G.low t n
  obtain ⟨had, hhd⟩ : ∃ had, σ.ph t n = had := ⟨_, rfl⟩
  rw [hhd] at hlk hlow hg hc ⊢
  obtain ⟨z, hz⟩ : ∃ z, w.heap.size = z := ⟨_, rfl⟩
  have hzno : σ.own z = .no := own_new h (by omega)
  have hd : Below w.heap.size w (w.alloc (.cells #[.int .i64 t, nmV n, .int .i64 ((m : Nat) : Int), .int .i64 ((had : Nat) : Int), .pointer none, .pointer none] 100)).drew := ((Below.refl _ _).alloc (Nat.le_refl _) _).drew
  have hw1 : WaitOk (w.alloc (.cells #[.int .i64 t, nmV n, .int .i64 ((m : Nat) : Int), .int .i64 ((had : Nat) : Int), .pointer none, .pointer none] 100)).drew z ⟨t, n, m, had⟩ none none := by
    rw [← hz]
    exact heap_alloc_new w _
  have M1 := toHid (show Mem KT KN _ (askS σ z ⟨t, n, m, had⟩) from (h.below hd).taggedW (b := z) hzno (lt_of_heap hw1) .W ⟨t, n, m, had⟩ none none hw1)
  have S1 := toHid (show Step w σ _ (askS σ z ⟨t, n, m, had⟩) from ⟨Turn.of_below hd _, fun i hi => by
      have hi : upd σ.own z .W i ≠ .no := hi
      by_cases e : i = z
      · exact .inr (by omega)
      · rw [upd_other _ _ e] at hi; exact .inl hi, rfl, fun i hi => upd_other _ _ fun e => hi (by rw [e]; exact hzno)⟩)
  have G1 := toHid (show Good (askS σ z ⟨t, n, m, had⟩) Q X Y from G.newW hzno _ _ _)
  have hnd : (askS σ z ⟨t, n, m, had⟩).nd z = ⟨t, n, m, had⟩ := upd_same _ _ _
  have hzW : (askS σ z ⟨t, n, m, had⟩).own z = .W := upd_same _ _ _
  have ND := toHid hnd
  have ZW := toHid hzW
  have ZQ := toHid (show ∀ k, z ∉ Q k from fun k hk => by have := (G.node k z hk).tag; rw [hzno] at this; cases this)
  have OldNd := toHid (show ∀ k u, u ∈ Q k → (askS σ z ⟨t, n, m, had⟩).nd u = σ.nd u from fun k u hu => upd_other _ _ fun e => ZQ.out k (by rw [← e]; exact hu))
  have HGo := toHid (show ∀ W, Mem KT KN W (askS σ z ⟨t, n, m, had⟩) → Calls Tryz.prog 74 #[.pointer (some ⟨b, 0, none⟩), .pointer (some ⟨z, 0, none⟩)] W fun e w' => e = .returned (.bool (goesB (σ.lh n) t (joinN had m))) ∧ Below W.heap.size W w' from fun W hW => by
    have := goesIn42 (n := n) (b := b) (z := z) hW hb (by rw [hzW]; exact trivial) (by rw [hnd]; exact hm6) (by rw [hnd]; exact hlow) (fun s => by
        cases e : (askS σ z ⟨t, n, m, had⟩).lh n 0 s
        · rfl
        · exact absurd rfl ((G.lhm n b hb 0 s).1 e).1) (fun h0 => by rw [hnd] at h0 ⊢; exact (G.lhm n b hb had t).2 ⟨h0, hhd⟩) (fun m' hm' => by
        rw [hnd] at hm' ⊢
        cases e : (askS σ z ⟨t, n, m, had⟩).lh n m' t
        · rfl
        · exact absurd (((G.lhm n b hb m' t).1 e).2.symm.trans hhd) hm')
    rw [hnd] at this
    exact this)
  have HCv := toHid (show ∀ W, Mem KT KN W (askS σ z ⟨t, n, m, had⟩) → Calls Tryz.prog 75 #[.pointer (some ⟨z, 0, none⟩)] W fun e w' => e = .returned (.bool (decide (had ≠ 0))) ∧ w' = W from fun W hW => by
    have := conv43 (hW.hW z (by rw [hzW]; exact trivial))
    rw [hnd] at this
    exact this)
  have HFs := toHid (show ∀ W, Mem KT KN W (askS σ z ⟨t, n, m, had⟩) → Calls Tryz.prog 76 #[.pointer (some ⟨b, 7, none⟩)] W fun e w' => e = .returned (ptr (Q n).head?) ∧ Below W.heap.size W w' from fun W hW => by
    have hr := G1.out.ring n b hb
    have hbh := hr.ring.head
    have hmemH : headOr (σ.eb n) (Q n) ∈ (askS σ z ⟨t, n, m, had⟩).eb n :: Q n := by
      rcases headOr_mem (σ.eb n) (Q n) with h | h
      · rw [h]; exact List.mem_cons_self
      · exact List.mem_cons_of_mem _ h
    have h2 := hW.hW (σ.eb n) (by have := hr.tagE; rw [show (askS σ z ⟨t, n, m, had⟩).eb n = σ.eb n from rfl] at this; rw [this]; exact trivial)
    have h3 := hW.hW (headOr (σ.eb n) (Q n)) (G1.out.tagW hb hmemH)
    rw [show (askS σ z ⟨t, n, m, had⟩).bh (σ.eb n) = some (headOr (σ.eb n) (Q n)) from hbh] at h2
    have hfh : frst (σ.eb n) (some (headOr (σ.eb n) (Q n))) = (Q n).head? := frst_head (G1.out.nodup hb)
    have := first44 (b := b) (e := σ.eb n) (hW.hL n b hb).cells.2.2.2.2.2.2.2.1 h2 h3
    rw [hfh] at this
    exact this)
  have GB := toHid (show goesB (σ.lh n) t (joinN had m) = true from by simp only [goesB, decide_eq_true_eq]; exact hg)
  have HGv := toHid (show ∀ W, Mem KT KN W (askS σ z ⟨t, n, m, had⟩) → Step w σ W (askS σ z ⟨t, n, m, had⟩) → Calls Tryz.prog 77 #[.pointer (some ⟨σ.T, 0, none⟩), .pointer (some ⟨b, 0, none⟩), .pointer (some ⟨z, 0, none⟩)] W fun e w' => e = .returned (.tuple #[]) ∧ ∃ σ', Mem KT KN w' σ' ∧ Step w σ w' σ' ∧ Good σ' Q X' Y' ∧ σ'.pw = σ.pw ∧ σ'.ph = upd σ.ph t (upd (σ.ph t) n (joinN had m)) ∧ (∀ k u, u ∈ Q k → σ'.nd u = σ.nd u) ∧ σ'.pb = σ.pb ∧ σ'.lb = σ.lb from fun W hW sW => by
    have hgv := give45 (n := n) (b := b) (z := z) (p := p) hW hb (G.nm n b hb) (by rw [hzW]; exact trivial) (by rw [hnd]; exact hm1) (by rw [hnd]; exact hm6) (by rw [hnd]; exact hlow) (by rw [hnd]; exact (G.wf t p hp).1) (by rw [hnd]; exact hp)
    refine hgv.mono ?_
    rintro e w' ⟨rfl, own, lm, m1, s1⟩
    refine ⟨rfl, _, m1, sW.trans s1, G1.out.give (t := t) (p := p) (b := b) s1.tag lm hb hp hw (by rw [hnd]) (by rw [hnd]; exact hhd.symm) (by rw [hnd]; exact hm1) (by rw [hnd]; exact hm6) (by rw [hnd]; show GoesIn (σ.lh n) t (joinN (σ.ph t n) m); rw [hhd]; exact hg) (fun k hk => ?_) hY, rfl, ?_, OldNd.out, rfl, rfl⟩
    · by_cases e : k = n
      · refine .inl ⟨e, ?_⟩
        by_cases ex : X n
        · exact .inl (hX ex)
        · exact .inr ex
      · exact .inr ⟨e, fun hx => (hX' k hx).elim e hk⟩
    · show upd σ.ph ((askS σ z ⟨t, n, m, had⟩).nd z).t (upd (σ.ph ((askS σ z ⟨t, n, m, had⟩).nd z).t) n (joinN ((askS σ z ⟨t, n, m, had⟩).nd z).had ((askS σ z ⟨t, n, m, had⟩).nd z).m)) = _
      rw [hnd])
  clear h G hl hpp hd hw1 hX hX' hY hlow hnd hzW hzno hg hm1 hm6 hw hb hp
  by_cases h0 : had = 0
  · have hQ : (Q n).head? = none := by rw [hc.resolve_left fun e => e h0]; rfl
    have DC := toHid (show decide (had ≠ 0) = false from by simp [h0])
    have HQ := toHid hQ
    clear hQ hc h0 hhd
    go_enter Tryz.func49, Tryz.ntmps49
    go_wp2_with fail
    go_region
    all_goals
      generalize hW1 : (w.alloc (.cells #[.int .i64 t, nmV n, .int .i64 ((m : Nat) : Int), .int .i64 ((had : Nat) : Int), .pointer none, .pointer none] 100)).drew = w1 at *
      try simp only [hz]
      clear hW1
      go_wp2_with (first
        | (go_at_call 74; refine (HGo.out _ M1.out).mono ?_; rintro e w2 ⟨rfl, b2⟩; rw [GB.out]; have M2 := toHid (M1.out.below b2); have S2 := toHid (S1.out.trans (Step.quiet b2)); clear b2)
        | (go_at_call 75; refine (HCv.out _ M2.out).mono ?_; rintro e w3 ⟨rfl, hw3⟩; obtain rfl := hw3.symm; rw [DC.out])
        | (go_at_call 76; refine (HFs.out _ M2.out).mono ?_; rintro e w4 ⟨rfl, b4⟩; rw [HQ.out, ptr_none]; have M4 := toHid (M2.out.below b4); have S4 := toHid (S2.out.trans (Step.quiet b4)); clear b4)
        | (go_at_call 77; refine (HGv.out _ M4.out S4.out).mono ?_; rintro e w5 ⟨rfl, hq⟩; have HR := toHid hq; clear hq))
      go_ret
      exact ⟨rfl, HR.out⟩
  · have DC := toHid (show decide (had ≠ 0) = true from by simp [h0])
    clear hc h0 hhd
    go_enter Tryz.func49, Tryz.ntmps49
    go_wp2_with fail
    go_region
    all_goals
      generalize hW1 : (w.alloc (.cells #[.int .i64 t, nmV n, .int .i64 ((m : Nat) : Int), .int .i64 ((had : Nat) : Int), .pointer none, .pointer none] 100)).drew = w1 at *
      try simp only [hz]
      clear hW1
      go_wp2_with (first
        | (go_at_call 74; refine (HGo.out _ M1.out).mono ?_; rintro e w2 ⟨rfl, b2⟩; rw [GB.out]; have M2 := toHid (M1.out.below b2); have S2 := toHid (S1.out.trans (Step.quiet b2)); clear b2)
        | (go_at_call 75; refine (HCv.out _ M2.out).mono ?_; rintro e w3 ⟨rfl, hw3⟩; obtain rfl := hw3.symm; rw [DC.out])
        | (go_at_call 77; refine (HGv.out _ M2.out S2.out).mono ?_; rintro e w5 ⟨rfl, hq⟩; have HR := toHid hq; clear hq))
      go_ret
      exact ⟨rfl, HR.out⟩

set_option maxRecDepth 100000 in
set_option maxHeartbeats 4000000 in
theorem ask_no (h : Mem KT KN w σ) (G : Good σ Q X Y) (hb : σ.lb n = some b) (hp : σ.pb t = some p) (hw : σ.pw t = none) (hm1 : 1 ≤ m) (hm6 : m < 6) (hgo : ¬ GoesIn (σ.lh n) t (joinN (σ.ph t n) m) ∨ (σ.ph t n = 0 ∧ Q n ≠ [])) (hY : ∀ s, Y s → s = t ∨ Y' s) :
    Calls Tryz.prog 49 #[.pointer (some ⟨σ.T, 0, none⟩), .pointer (some ⟨p, 0, none⟩), .pointer (some ⟨b, 0, none⟩), .int .i64 t, .int .i64 ((m : Nat) : Int)] w fun e w' => e = .returned (.bool false) ∧ ∃ σ' z q1 q2, Mem KT KN w' σ' ∧ Step w σ w' σ' ∧ Q n = q1 ++ q2 ∧ (σ.ph t n = 0 → q2 = []) ∧ Good σ' (upd Q n (q1 ++ z :: q2)) X Y' ∧ σ'.ph = σ.ph ∧ σ'.pw = upd σ.pw t (some z) ∧ σ'.nd z = ⟨t, n, m, σ.ph t n⟩ ∧ (∀ k u, u ∈ Q k → σ'.nd u = σ.nd u) ∧ (∀ k, z ∉ Q k) ∧ σ'.pb = σ.pb ∧ σ'.lb = σ.lb := by
  have hl := h.hL n b hb
  obtain ⟨l0, _, _, _, _, _, _, l7, _⟩ := hl.cells
  have hpp := h.hP t p hp
  obtain ⟨p0, p1, pf1⟩ := hpp.cells
  have hlk := ((drew_mem h).hP t p hp).map.look lawS Tryz.underlying95 zero29 (keyS (G.nm n b hb))
  rw [phF_get] at hlk
  have hlow := G.low t n
  obtain ⟨had, hhd⟩ : ∃ had, σ.ph t n = had := ⟨_, rfl⟩
  rw [hhd] at hlk hlow hgo ⊢
  obtain ⟨z, hz⟩ : ∃ z, w.heap.size = z := ⟨_, rfl⟩
  have hzno : σ.own z = .no := own_new h (by omega)
  have hd : Below w.heap.size w (w.alloc (.cells #[.int .i64 t, nmV n, .int .i64 ((m : Nat) : Int), .int .i64 ((had : Nat) : Int), .pointer none, .pointer none] 100)).drew := ((Below.refl _ _).alloc (Nat.le_refl _) _).drew
  have hw1 : WaitOk (w.alloc (.cells #[.int .i64 t, nmV n, .int .i64 ((m : Nat) : Int), .int .i64 ((had : Nat) : Int), .pointer none, .pointer none] 100)).drew z ⟨t, n, m, had⟩ none none := by
    rw [← hz]
    exact heap_alloc_new w _
  have M1 := toHid (show Mem KT KN _ (askS σ z ⟨t, n, m, had⟩) from (h.below hd).taggedW (b := z) hzno (lt_of_heap hw1) .W ⟨t, n, m, had⟩ none none hw1)
  have S1 := toHid (show Step w σ _ (askS σ z ⟨t, n, m, had⟩) from ⟨Turn.of_below hd _, fun i hi => by
      have hi : upd σ.own z .W i ≠ .no := hi
      by_cases e : i = z
      · exact .inr (by omega)
      · rw [upd_other _ _ e] at hi; exact .inl hi, rfl, fun i hi => upd_other _ _ fun e => hi (by rw [e]; exact hzno)⟩)
  have G1 := toHid (show Good (askS σ z ⟨t, n, m, had⟩) Q X Y from G.newW hzno _ _ _)
  have hnd : (askS σ z ⟨t, n, m, had⟩).nd z = ⟨t, n, m, had⟩ := upd_same _ _ _
  have hzW : (askS σ z ⟨t, n, m, had⟩).own z = .W := upd_same _ _ _
  have ND := toHid hnd
  have ZW := toHid hzW
  have ZQ := toHid (show ∀ k, z ∉ Q k from fun k hk => by have := (G.node k z hk).tag; rw [hzno] at this; cases this)
  have OldNd := toHid (show ∀ k u, u ∈ Q k → (askS σ z ⟨t, n, m, had⟩).nd u = σ.nd u from fun k u hu => upd_other _ _ fun e => ZQ.out k (by rw [← e]; exact hu))
  have HGo := toHid (show ∀ W, Mem KT KN W (askS σ z ⟨t, n, m, had⟩) → Calls Tryz.prog 74 #[.pointer (some ⟨b, 0, none⟩), .pointer (some ⟨z, 0, none⟩)] W fun e w' => e = .returned (.bool (goesB (σ.lh n) t (joinN had m))) ∧ Below W.heap.size W w' from fun W hW => by
    have := goesIn42 (n := n) (b := b) (z := z) hW hb (by rw [hzW]; exact trivial) (by rw [hnd]; exact hm6) (by rw [hnd]; exact hlow) (fun s => by
        cases e : (askS σ z ⟨t, n, m, had⟩).lh n 0 s
        · rfl
        · exact absurd rfl ((G.lhm n b hb 0 s).1 e).1) (fun h0 => by rw [hnd] at h0 ⊢; exact (G.lhm n b hb had t).2 ⟨h0, hhd⟩) (fun m' hm' => by
        rw [hnd] at hm' ⊢
        cases e : (askS σ z ⟨t, n, m, had⟩).lh n m' t
        · rfl
        · exact absurd (((G.lhm n b hb m' t).1 e).2.symm.trans hhd) hm')
    rw [hnd] at this
    exact this)
  have HCv := toHid (show ∀ W, Mem KT KN W (askS σ z ⟨t, n, m, had⟩) → Calls Tryz.prog 75 #[.pointer (some ⟨z, 0, none⟩)] W fun e w' => e = .returned (.bool (decide (had ≠ 0))) ∧ w' = W from fun W hW => by
    have := conv43 (hW.hW z (by rw [hzW]; exact trivial))
    rw [hnd] at this
    exact this)
  have HFs := toHid (show ∀ W, Mem KT KN W (askS σ z ⟨t, n, m, had⟩) → Calls Tryz.prog 76 #[.pointer (some ⟨b, 7, none⟩)] W fun e w' => e = .returned (ptr (Q n).head?) ∧ Below W.heap.size W w' from fun W hW => by
    have hr := G1.out.ring n b hb
    have hbh := hr.ring.head
    have hmemH : headOr (σ.eb n) (Q n) ∈ (askS σ z ⟨t, n, m, had⟩).eb n :: Q n := by
      rcases headOr_mem (σ.eb n) (Q n) with h | h
      · rw [h]; exact List.mem_cons_self
      · exact List.mem_cons_of_mem _ h
    have h2 := hW.hW (σ.eb n) (by have := hr.tagE; rw [show (askS σ z ⟨t, n, m, had⟩).eb n = σ.eb n from rfl] at this; rw [this]; exact trivial)
    have h3 := hW.hW (headOr (σ.eb n) (Q n)) (G1.out.tagW hb hmemH)
    rw [show (askS σ z ⟨t, n, m, had⟩).bh (σ.eb n) = some (headOr (σ.eb n) (Q n)) from hbh] at h2
    have hfh : frst (σ.eb n) (some (headOr (σ.eb n) (Q n))) = (Q n).head? := frst_head (G1.out.nodup hb)
    have := first44 (b := b) (e := σ.eb n) (hW.hL n b hb).cells.2.2.2.2.2.2.2.1 h2 h3
    rw [hfh] at this
    exact this)
  obtain ⟨q1, q2, e12, ⟨u, hu, hau⟩, hbh, hq2, GP⟩ := G1.out.put (t := t) (p := p) (b := b) hb hp hw hzW ZQ.out (by rw [hnd]) (by rw [hnd]) (by rw [hnd]; exact hhd.symm) (by rw [hnd]; exact hm1) (by rw [hnd]; exact hm6) (by rw [hnd]; show ¬ GoesIn (σ.lh n) t (joinN (σ.ph t n) m) ∨ (σ.ph t n = 0 ∧ Q n ≠ []); rw [hhd]; exact hgo) hY
  have hq2 : had = 0 → q2 = [] := fun e => hq2 (hhd.trans e)
  have hAm : lastOr (σ.eb n) q1 ∈ (askS σ z ⟨t, n, m, had⟩).eb n :: Q n := by
    have := lastOr_mem (σ.eb n) q1
    rw [e12]
    rcases List.mem_cons.1 this with h | h
    · rw [h]; exact List.mem_cons_self
    · exact List.mem_cons_of_mem _ (by simp [h])
  have hBm : headOr (σ.eb n) q2 ∈ (askS σ z ⟨t, n, m, had⟩).eb n :: Q n := by
    rw [e12]
    rcases headOr_mem (σ.eb n) q2 with h | h
    · rw [h]; exact List.mem_cons_self
    · exact List.mem_cons_of_mem _ (by simp [h])
  have HPt := toHid (show ∀ W, Mem KT KN W (askS σ z ⟨t, n, m, had⟩) → Step w σ W (askS σ z ⟨t, n, m, had⟩) → Calls Tryz.prog 78 #[.pointer (some ⟨b, 7, none⟩), .pointer (some ⟨z, 0, none⟩)] W fun e w' => e = .returned (.tuple #[]) ∧ Mem KT KN w' (putS (askS σ z ⟨t, n, m, had⟩) n z (lastOr (σ.eb n) q1) (headOr (σ.eb n) q2)) ∧ Step w σ w' (putS (askS σ z ⟨t, n, m, had⟩) n z (lastOr (σ.eb n) q1) (headOr (σ.eb n) q2)) from fun W hW sW => by
    refine (put46 (n := n) (b := b) (z := z) (a := lastOr (σ.eb n) q1) (y := headOr (σ.eb n) q2) (u := u) hW hb (by rw [hzW]; exact trivial) (G1.out.tagW hb List.mem_cons_self) hu hau (G1.out.tagW hb hAm) hbh (G1.out.tagW hb hBm) (fun e => ?_)).mono ?_
    · rw [← e] at hAm
      rcases List.mem_cons.1 hAm with h1 | h1
      · have := (G1.out.ring n b hb).tagE
        rw [← h1, hzW] at this
        cases this
      · exact ZQ.out n h1
    · rintro e w' ⟨rfl, m1, s1⟩
      exact ⟨rfl, m1, sW.trans s1⟩)
  have HE := toHid (show ∀ W, Mem KT KN W (putS (askS σ z ⟨t, n, m, had⟩) n z (lastOr (σ.eb n) q1) (headOr (σ.eb n) q2)) → Step w σ W (putS (askS σ z ⟨t, n, m, had⟩) n z (lastOr (σ.eb n) q1) (headOr (σ.eb n) q2)) →
      ∃ σ' z q1 q2, Mem KT KN (W.setCell ⟨p, 1, none⟩ (.pointer (some ⟨w.heap.size, 0, none⟩))) σ' ∧ Step w σ (W.setCell ⟨p, 1, none⟩ (.pointer (some ⟨w.heap.size, 0, none⟩))) σ' ∧ Q n = q1 ++ q2 ∧ (had = 0 → q2 = []) ∧ Good σ' (upd Q n (q1 ++ z :: q2)) X Y' ∧ σ'.ph = σ.ph ∧ σ'.pw = upd σ.pw t (some z) ∧ σ'.nd z = ⟨t, n, m, had⟩ ∧ (∀ k u, u ∈ Q k → σ'.nd u = σ.nd u) ∧ (∀ k, z ∉ Q k) ∧ σ'.pb = σ.pb ∧ σ'.lb = σ.lb from fun W hW sW => by
    rw [hz]
    exact ⟨waitS (askS σ z ⟨t, n, m, had⟩) n t z (lastOr (σ.eb n) q1) (headOr (σ.eb n) q2), z, q1, q2, hW.setPw (q := t) (b := p) hp (some z), sW.trans (Step.set (by rw [(hW.hP t p hp).tag]; simp) rfl rfl), e12, hq2, GP, rfl, rfl, hnd, OldNd.out, ZQ.out, rfl, rfl⟩)
  rw [hz] at HE
  have HP := toHid hp
  clear h G hl hpp hd hw1 hY hlow hnd hzW hzno hm1 hm6 hw hb hp hAm hBm hq2 GP hbh hau hu
  rcases Bool.eq_false_or_eq_true (goesB (σ.lh n) t (joinN had m)) with hgb | hgb
  · have hg : GoesIn (σ.lh n) t (joinN had m) := by simpa only [goesB, decide_eq_true_eq] using hgb
    obtain ⟨h0, hne⟩ := hgo.resolve_left fun e => e hg
    have GB := toHid hgb
    have DC := toHid (show decide (had ≠ 0) = false from by simp [h0])
    obtain ⟨v, hv⟩ : ∃ v, (Q n).head? = some v := by
      cases e : Q n with
      | nil => exact absurd e hne
      | cons v r => exact ⟨v, rfl⟩
    have HQ := toHid hv
    clear hv hg hgb hgo h0 hne hhd
    go_enter Tryz.func49, Tryz.ntmps49
    go_wp2_with fail
    go_region
    all_goals
      generalize hW1 : (w.alloc (.cells #[.int .i64 t, nmV n, .int .i64 ((m : Nat) : Int), .int .i64 ((had : Nat) : Int), .pointer none, .pointer none] 100)).drew = w1 at *
      try simp only [hz]
      clear hW1
      go_wp2_with (first
        | (go_at_call 74; refine (HGo.out _ M1.out).mono ?_; rintro e w2 ⟨rfl, b2⟩; rw [GB.out]; have M2 := toHid (M1.out.below b2); have S2 := toHid (S1.out.trans (Step.quiet b2)); clear b2)
        | (go_at_call 75; refine (HCv.out _ M2.out).mono ?_; rintro e w3 ⟨rfl, hw3⟩; obtain rfl := hw3.symm; rw [DC.out])
        | (go_at_call 76; refine (HFs.out _ M2.out).mono ?_; rintro e w4 ⟨rfl, b4⟩; rw [HQ.out, ptr_some]; have M4 := toHid (M2.out.below b4); have S4 := toHid (S2.out.trans (Step.quiet b4)); clear b4)
        | (go_at_call 78; refine (HPt.out _ M4.out S4.out).mono ?_; rintro e w5 ⟨rfl, m5, s5⟩; obtain ⟨_, c5, f5⟩ := (m5.hP t p HP.out).cells; have HR := toHid (HE.out w5 m5 s5); clear m5 s5))
      go_ret
      exact ⟨rfl, HR.out⟩
  · have GB := toHid hgb
    clear hgb hgo hhd
    go_enter Tryz.func49, Tryz.ntmps49
    go_wp2_with fail
    go_region
    all_goals
      generalize hW1 : (w.alloc (.cells #[.int .i64 t, nmV n, .int .i64 ((m : Nat) : Int), .int .i64 ((had : Nat) : Int), .pointer none, .pointer none] 100)).drew = w1 at *
      try simp only [hz]
      clear hW1
      go_wp2_with (first
        | (go_at_call 74; refine (HGo.out _ M1.out).mono ?_; rintro e w2 ⟨rfl, b2⟩; rw [GB.out]; have M2 := toHid (M1.out.below b2); have S2 := toHid (S1.out.trans (Step.quiet b2)); clear b2)
        | (go_at_call 78; refine (HPt.out _ M2.out S2.out).mono ?_; rintro e w5 ⟨rfl, m5, s5⟩; obtain ⟨_, c5, f5⟩ := (m5.hP t p HP.out).cells; have HR := toHid (HE.out w5 m5 s5); clear m5 s5))
      go_ret
      exact ⟨rfl, HR.out⟩
end

end Go.Proofs.YtclppfljengnbaaGreat
