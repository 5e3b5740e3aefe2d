/-
  What holds of a table: parties, locks and rows fit together; what two have on one name goes beside one another; who stands first is held up.
-/
import Derived.Test.YtclppfljengnbaaGreatCk
import Derived.Test.YtclppfljengnbaaGreatCh
namespace Go.Proofs.YtclppfljengnbaaGreat
open Go.RowKit Go.Maps

structure RowOk (σ : Sg) (n : Name) (q : List Nat) : Prop where
  tagE : σ.own (σ.eb n) = .E n
  ring : Ring σ.ah σ.bh (σ.eb n) q
  nd : q.Nodup
  cut : ∃ cs os, q = cs ++ os ∧ (∀ z, z ∈ cs → (σ.nd z).had ≠ 0) ∧ (∀ z, z ∈ os → (σ.nd z).had = 0) ∧ σ.ls n = lastOr (σ.eb n) cs
structure NodeOk (σ : Sg) (n : Name) (z : Nat) : Prop where
  tag : σ.own z = .W
  name : (σ.nd z).n = n
  had : (σ.nd z).had = σ.ph (σ.nd z).t n
  pw : σ.pw (σ.nd z).t = some z
  m1 : 1 ≤ (σ.nd z).m
  m6 : (σ.nd z).m < 6
  more : joinN (σ.nd z).had (σ.nd z).m ≠ (σ.nd z).had
structure Good (σ : Sg) (Q : Name → List Nat) (X : Name → Prop) (Y : Int → Prop) : Prop where
  dead : ∀ t, σ.pb t = none → σ.pw t = none ∧ ∀ n, σ.ph t n = 0
  wf : ∀ t b, σ.pb t = some b → (Lit.int .i64 t).wf = true ∧ 1 ≤ t
  nm : ∀ n b, σ.lb n = some b → n.length ≤ 16
  low : ∀ t n, σ.ph t n < 6
  lhm : ∀ n b, σ.lb n = some b → ∀ m t, σ.lh n m t = true ↔ m ≠ 0 ∧ σ.ph t n = m
  gone : ∀ n, σ.lb n = none → (∀ t, σ.ph t n = 0) ∧ Q n = []
  held : ∀ n b, σ.lb n = some b → ¬ X n → (∃ t, σ.ph t n ≠ 0) ∧ ∀ z r, Q n = z :: r → ¬ GoesIn (σ.lh n) (σ.nd z).t (joinN (σ.nd z).had (σ.nd z).m)
  par : ∀ t b, σ.pb t = some b → ¬ Y t → σ.pw t ≠ none ∨ ∃ n, σ.ph t n ≠ 0
  ring : ∀ n b, σ.lb n = some b → RowOk σ n (Q n)
  node : ∀ n z, z ∈ Q n → NodeOk σ n z
  wait : ∀ t z, σ.pw t = some z → z ∈ Q (σ.nd z).n ∧ (σ.nd z).t = t
  bes : ∀ n t s, t ≠ s → besB (σ.ph t n) (σ.ph s n) = true

theorem RowOk.at {σ σ' : Sg} {n : Name} {q : List Nat} (h : RowOk σ n q) (ha : ∀ u, u ∈ σ.eb n :: q → σ'.ah u = σ.ah u) (hb : ∀ u, u ∈ σ.eb n :: q → σ'.bh u = σ.bh u) (hn : ∀ u, u ∈ q → (σ'.nd u).had = (σ.nd u).had) (he : σ'.eb n = σ.eb n) (hl : σ'.ls n = σ.ls n) (ht : σ'.own (σ.eb n) = σ.own (σ.eb n)) : RowOk σ' n q := by
  obtain ⟨cs, os, h1, h2, h3, h4⟩ := h.cut
  exact ⟨by rw [he, ht]; exact h.tagE, by rw [he]; exact h.ring.upd ha hb, h.nd, cs, os, h1, fun z hz => by rw [hn z (by rw [h1]; simp [hz])]; exact h2 z hz, fun z hz => by rw [hn z (by rw [h1]; simp [hz])]; exact h3 z hz, by rw [hl, he]; exact h4⟩

theorem NodeOk.at {σ σ' : Sg} {n : Name} {z : Nat} (h : NodeOk σ n z) (e1 : σ'.own z = σ.own z) (e2 : σ'.nd z = σ.nd z) (e3 : σ'.ph (σ.nd z).t n = σ.ph (σ.nd z).t n) (e4 : σ'.pw (σ.nd z).t = σ.pw (σ.nd z).t) : NodeOk σ' n z :=
  ⟨e1.trans h.tag, by rw [e2]; exact h.name, by rw [e2, e3]; exact h.had, by rw [e2, e4]; exact h.pw, by rw [e2]; exact h.m1, by rw [e2]; exact h.m6, by rw [e2]; exact h.more⟩

theorem bes_sym : ∀ x y : Fin 6, besB x.val y.val = besB y.val x.val := by decide
theorem bes_join : ∀ x y v : Fin 6, besB (joinN x.val y.val) v.val = true → besB x.val v.val = true := by decide
theorem bes_comm {x y : Nat} (hx : x < 6) (hy : y < 6) : besB x y = besB y x := bes_sym ⟨x, hx⟩ ⟨y, hy⟩
theorem bes_of_join {x y v : Nat} (hx : x < 6) (hy : y < 6) (hv : v < 6) (h : besB (joinN x y) v = true) : besB x v = true := bes_join ⟨x, hx⟩ ⟨y, hy⟩ ⟨v, hv⟩ h
theorem bes_zero (x : Nat) : besB x 0 = true := by unfold besB; split <;> simp
theorem zero_bes (x : Nat) : besB 0 x = true := rfl

section
variable {σ : Sg} {Q : Name → List Nat} {X X' : Name → Prop} {Y Y' : Int → Prop} {n : Name} {z p b : Nat} {t : Int}

theorem Good.tagW (h : Good σ Q X Y) {b : Nat} (hb : σ.lb n = some b) {u : Nat} (hu : u ∈ σ.eb n :: Q n) : IsW (σ.own u) := by
  rcases List.mem_cons.1 hu with rfl | hu
  · rw [(h.ring n b hb).tagE]; exact trivial
  · rw [(h.node n u hu).tag]; exact trivial
theorem Good.nodup (h : Good σ Q X Y) (hb : σ.lb n = some b) : (σ.eb n :: Q n).Nodup := by
  refine List.nodup_cons.2 ⟨fun hm => ?_, (h.ring n b hb).nd⟩
  have := (h.node n _ hm).tag
  rw [(h.ring n b hb).tagE] at this
  cases this
theorem Good.apart (h : Good σ Q X Y) {k : Name} {b c : Nat} (hb : σ.lb n = some b) (hc : σ.lb k = some c) (hk : k ≠ n) {u v : Nat} (hu : u ∈ σ.eb n :: Q n) (hv : v ∈ σ.eb k :: Q k) : v ≠ u := by
  rintro rfl
  rcases List.mem_cons.1 hu with hu | hu
  · rcases List.mem_cons.1 hv with hv | hv
    · have h1 := (h.ring n b hb).tagE
      rw [← hu, hv, (h.ring k c hc).tagE] at h1
      exact hk (by injection h1)
    · have h1 := (h.node k _ hv).tag
      rw [hu, (h.ring n b hb).tagE] at h1
      cases h1
  · rcases List.mem_cons.1 hv with hv | hv
    · have h1 := (h.node n _ hu).tag
      rw [hv, (h.ring k c hc).tagE] at h1
      cases h1
    · exact hk ((h.node k _ hv).name.symm.trans (h.node n _ hu).name)
theorem Good.liveQ (h : Good σ Q X Y) {z : Nat} (hz : z ∈ Q n) : ∃ b, σ.lb n = some b := by
  cases e : σ.lb n with
  | some b => exact ⟨b, rfl⟩
  | none => rw [(h.gone n e).2] at hz; cases hz
theorem Good.pbOf (h : Good σ Q X Y) (hw : σ.pw t ≠ none) : ∃ p, σ.pb t = some p := by
  cases e : σ.pb t with
  | some b => exact ⟨b, rfl⟩
  | none => exact absurd (h.dead t e).1 hw
theorem Good.mono (h : Good σ Q X Y) (hX : ∀ k, X k → X' k) (hY : ∀ s, Y s → Y' s) : Good σ Q X' Y' :=
  ⟨h.dead, h.wf, h.nm, h.low, h.lhm, h.gone, fun n b hb hx => h.held n b hb fun e => hx (hX n e), fun t b hb hy => h.par t b hb fun e => hy (hY t e), h.ring, h.node, h.wait, h.bes⟩

/-- Tags and maps of others may come. -/
theorem Good.tags (h : Good σ Q X Y) {own : Nat → Tag} (ho : ∀ i, σ.own i ≠ .no → own i = σ.own i) (lm : Name → Nat → Option Nat) (pm : Int → Nat) : Good { σ with own := own, lm := lm, pm := pm } Q X Y :=
  ⟨h.dead, h.wf, h.nm, h.low, h.lhm, h.gone, h.held, h.par, fun n b hb => (h.ring n b hb).at (fun _ _ => rfl) (fun _ _ => rfl) (fun _ _ => rfl) rfl rfl (ho _ (by rw [(h.ring n b hb).tagE]; simp)),
    fun n z hz => ⟨(ho z (by rw [(h.node n z hz).tag]; simp)).trans (h.node n z hz).tag, (h.node n z hz).name, (h.node n z hz).had, (h.node n z hz).pw, (h.node n z hz).m1, (h.node n z hz).m6, (h.node n z hz).more⟩, h.wait, h.bes⟩

/-- One more who waits nowhere yet. -/
theorem Good.newW (h : Good σ Q X Y) (hz : σ.own z = .no) (d : Nd) (a c : Option Nat) : Good { σ with own := upd σ.own z .W, nd := upd σ.nd z d, ah := upd σ.ah z a, bh := upd σ.bh z c } Q X Y := by
  have hne : ∀ u, σ.own u ≠ .no → u ≠ z := fun u hu e => hu (by rw [e]; exact hz)
  have hq : ∀ k u, u ∈ Q k → u ≠ z := fun k u hu => hne u (by rw [(h.node k u hu).tag]; simp)
  refine ⟨h.dead, h.wf, h.nm, h.low, h.lhm, h.gone, fun k b hb hx => ⟨(h.held k b hb hx).1, fun u r hu => ?_⟩, h.par, fun k b hb => ?_, fun k u hu => ?_, fun s u hu => ?_, h.bes⟩
  · show ¬ GoesIn (σ.lh k) (upd σ.nd z d u).t (joinN (upd σ.nd z d u).had (upd σ.nd z d u).m)
    rw [upd_other _ _ (hq k u (by rw [hu]; simp))]
    exact (h.held k b hb hx).2 u r hu
  · have hr := h.ring k b hb
    have he : ∀ u, u ∈ σ.eb k :: Q k → u ≠ z := fun u hu => hne u (h.tagW hb hu).no
    exact hr.at (fun u hu => upd_other _ _ (he u hu)) (fun u hu => upd_other _ _ (he u hu)) (fun u hu => by show (upd σ.nd z d u).had = _; rw [upd_other _ _ (hq k u hu)]) rfl rfl (upd_other _ _ (he _ (by simp)))
  · have hk := h.node k u hu
    exact hk.at (upd_other _ _ (hq k u hu)) (upd_other _ _ (hq k u hu)) rfl rfl
  · obtain ⟨h1, h2⟩ := h.wait s u hu
    show u ∈ Q (upd σ.nd z d u).n ∧ (upd σ.nd z d u).t = s
    rw [upd_other _ _ (hq _ u h1)]
    exact ⟨h1, h2⟩

/-- A new party. -/
theorem Good.newP (h : Good σ Q X Y) (hp : σ.pb t = none) (hw : (Lit.int .i64 t).wf = true) (h1 : 1 ≤ t) (p : Nat) (hY : ∀ s, Y s ∨ s = t → Y' s) : Good { σ with pb := upd σ.pb t (some p) } Q X Y' := by
  refine ⟨fun s hs => ?_, fun s c hs => ?_, h.nm, h.low, h.lhm, h.gone, h.held, fun s c hs hy => ?_, fun k c hk => (h.ring k c hk).at (fun _ _ => rfl) (fun _ _ => rfl) (fun _ _ => rfl) rfl rfl rfl, fun k u hu => (h.node k u hu).at rfl rfl rfl rfl, h.wait, h.bes⟩
  · have hs : upd σ.pb t (some p) s = none := hs
    by_cases e : s = t
    · subst e; rw [upd_same] at hs; cases hs
    · rw [upd_other _ _ e] at hs
      exact h.dead s hs
  · have hs : upd σ.pb t (some p) s = some c := hs
    by_cases e : s = t
    · subst e; exact ⟨hw, h1⟩
    · rw [upd_other _ _ e] at hs
      exact h.wf s c hs
  · have hs : upd σ.pb t (some p) s = some c := hs
    have e : s ≠ t := fun e => hy (hY s (.inr e))
    rw [upd_other _ _ e] at hs
    exact h.par s c hs fun e => hy (hY s (.inl e))

/-- A party that has nothing and waits for nothing goes. -/
theorem Good.dropP (h : Good σ Q X Y) (hw : σ.pw t = none) (h0 : ∀ n, σ.ph t n = 0) (hY : ∀ s, Y s → s = t ∨ Y' s) : Good { σ with pb := upd σ.pb t none } Q X Y' := by
  refine ⟨fun s hs => ?_, fun s c hs => ?_, h.nm, h.low, h.lhm, h.gone, h.held, fun s c hs hy => ?_, fun k c hk => (h.ring k c hk).at (fun _ _ => rfl) (fun _ _ => rfl) (fun _ _ => rfl) rfl rfl rfl, fun k u hu => (h.node k u hu).at rfl rfl rfl rfl, h.wait, h.bes⟩
  · have hs : upd σ.pb t none s = none := hs
    by_cases e : s = t
    · subst e; exact ⟨hw, h0⟩
    · rw [upd_other _ _ e] at hs
      exact h.dead s hs
  all_goals
    have hs : upd σ.pb t none s = some c := hs
    have e : s ≠ t := fun e => by subst e; rw [upd_same] at hs; cases hs
    rw [upd_other _ _ e] at hs
  · exact h.wf s c hs
  · exact h.par s c hs fun e1 => (hY s e1).elim e hy

/-- A new lock. -/
theorem Good.newL (h : Good σ Q X Y) (hb : σ.lb n = none) (hn : n.length ≤ 16) (e b : Nat) (he : σ.own e = .no) (hbo : σ.own b = .no) (hne : e ≠ b) (hX : ∀ k, X k ∨ k = n → X' k) : Good (newLS σ n e b) Q X' Y := by
  have hno : ∀ u, σ.own u ≠ .no → u ≠ e := fun u hu e1 => hu (by rw [e1]; exact he)
  have hnb : ∀ u, σ.own u ≠ .no → u ≠ b := fun u hu e1 => hu (by rw [e1]; exact hbo)
  have hq : ∀ k u, u ∈ Q k → u ≠ e := fun k u hu => hno u (by rw [(h.node k u hu).tag]; simp)
  have ho : ∀ u, σ.own u ≠ .no → (newLS σ n e b).own u = σ.own u := fun u hu => by
    show upd (upd σ.own e (.E n)) b (.L n) u = σ.own u
    rw [upd_other _ _ (hnb u hu), upd_other _ _ (hno u hu)]
  have hQ := (h.gone n hb).2
  have hnd : ∀ k u, u ∈ Q k → (newLS σ n e b).nd u = σ.nd u := fun k u hu => upd_other _ _ (hq k u hu)
  have hlb : ∀ k c, (newLS σ n e b).lb k = some c → k ≠ n → σ.lb k = some c := fun k c hk hkn => by
    have hk : upd σ.lb n (some b) k = some c := hk
    rw [upd_other _ _ hkn] at hk
    exact hk
  refine ⟨h.dead, h.wf, fun k c hk => ?_, h.low, fun k c hk m s => ?_, fun k hk => ?_, fun k c hk hx => ?_, h.par, fun k c hk => ?_, fun k u hu => ?_, fun s u hu => ?_, h.bes⟩
  · by_cases e1 : k = n
    · rw [e1]; exact hn
    · exact h.nm k c (hlb k c hk e1)
  · show upd σ.lh n (fun _ _ => false) k m s = true ↔ m ≠ 0 ∧ σ.ph s k = m
    by_cases e1 : k = n
    · subst e1
      rw [upd_same, (h.gone k hb).1 s]
      constructor
      · intro hf; cases hf
      · rintro ⟨h1, h2⟩; exact absurd h2.symm h1
    · rw [upd_other _ _ e1]
      exact h.lhm k c (hlb k c hk e1) m s
  · have hk : upd σ.lb n (some b) k = none := hk
    have e1 : k ≠ n := fun e1 => by subst e1; rw [upd_same] at hk; cases hk
    rw [upd_other _ _ e1] at hk
    exact h.gone k hk
  · have e1 : k ≠ n := fun e1 => hx (hX k (.inr e1))
    obtain ⟨h1, h2⟩ := h.held k c (hlb k c hk e1) fun e2 => hx (hX k (.inl e2))
    refine ⟨h1, fun u r hu => ?_⟩
    rw [hnd k u (by rw [hu]; simp)]
    show ¬ GoesIn (upd σ.lh n (fun _ _ => false) k) _ _
    rw [upd_other _ _ e1]
    exact h2 u r hu
  · by_cases e1 : k = n
    · subst e1
      rw [hQ]
      refine ⟨?_, ?_, List.nodup_nil, [], [], rfl, fun u hu => absurd hu (by simp), fun u hu => absurd hu (by simp), ?_⟩
      · show upd (upd σ.own e (.E k)) b (.L k) (upd σ.eb k e k) = .E k
        rw [upd_same, upd_other _ _ hne, upd_same]
      · show Ring (upd σ.ah e (some e)) (upd σ.bh e (some e)) (upd σ.eb k e k) []
        rw [upd_same]
        exact ⟨upd_same _ _ _, upd_same _ _ _, trivial⟩
      · show upd σ.ls k e k = lastOr (upd σ.eb k e k) []
        rw [upd_same, upd_same]
        rfl
    · have hk0 := hlb k c hk e1
      have hr := h.ring k c hk0
      have hu : ∀ u, u ∈ σ.eb k :: Q k → u ≠ e := fun u hu => hno u (h.tagW hk0 hu).no
      exact hr.at (fun u h1 => upd_other _ _ (hu u h1)) (fun u h1 => upd_other _ _ (hu u h1)) (fun u h1 => by rw [hnd k u h1]) (upd_other _ _ e1) (upd_other _ _ e1) (ho _ (h.tagW hk0 (by simp)).no)
  · have hk := h.node k u hu
    exact hk.at (ho u (by rw [hk.tag]; simp)) (hnd k u hu) rfl rfl
  · obtain ⟨h1, h2⟩ := h.wait s u hu
    rw [hnd _ u h1]
    exact ⟨h1, h2⟩

/-- An idle lock without a row goes. -/
theorem Good.dropL (h : Good σ Q X Y) (h0 : ∀ t, σ.ph t n = 0) (hq : Q n = []) (hX : ∀ k, X k → k = n ∨ X' k) : Good { σ with lb := upd σ.lb n none } Q X' Y := by
  have hlb : ∀ k c, upd σ.lb n none k = some c → k ≠ n ∧ σ.lb k = some c := fun k c hk => by
    have e1 : k ≠ n := fun e1 => by subst e1; rw [upd_same] at hk; cases hk
    rw [upd_other _ _ e1] at hk
    exact ⟨e1, hk⟩
  refine ⟨h.dead, h.wf, fun k c hk => h.nm k c (hlb k c hk).2, h.low, fun k c hk => h.lhm k c (hlb k c hk).2, fun k hk => ?_, fun k c hk hx => h.held k c (hlb k c hk).2 fun e1 => (hX k e1).elim (hlb k c hk).1 hx, h.par, fun k c hk => (h.ring k c (hlb k c hk).2).at (fun _ _ => rfl) (fun _ _ => rfl) (fun _ _ => rfl) rfl rfl rfl, fun k u hu => (h.node k u hu).at rfl rfl rfl rfl, h.wait, h.bes⟩
  have hk : upd σ.lb n none k = none := hk
  by_cases e1 : k = n
  · subst e1; exact ⟨h0, hq⟩
  · rw [upd_other _ _ e1] at hk
    exact h.gone k hk

/-- One who waits for nothing goes, with all that it had. -/
noncomputable def freeS (σ : Sg) (t : Int) : Sg := { σ with lh := fun n m => upd (σ.lh n m) t false, pb := upd σ.pb t none, ph := upd σ.ph t (fun _ => 0) }
theorem Good.free (h : Good σ Q X Y) (hw : σ.pw t = none) (hX : ∀ k, X k ∨ σ.ph t k ≠ 0 → X' k) (hY : ∀ s, Y s → s = t ∨ Y' s) : Good (freeS σ t) Q X' Y' := by
  have hph : ∀ s k, s ≠ t → (freeS σ t).ph s k = σ.ph s k := fun s k e => by show upd σ.ph t (fun _ => 0) s k = _; rw [upd_other _ _ e]
  have hpt : ∀ k, (freeS σ t).ph t k = 0 := fun k => by show upd σ.ph t (fun _ => 0) t k = _; rw [upd_same]
  have hnt : ∀ k u, u ∈ Q k → (σ.nd u).t ≠ t := fun k u hu e => by
    have := (h.node k u hu).pw
    rw [e, hw] at this
    cases this
  refine ⟨fun s hs => ?_, fun s c hs => ?_, h.nm, fun s k => ?_, fun k c hk m s => ?_, fun k hk => ?_, fun k c hk hx => ?_, fun s c hs hy => ?_, fun k c hk => (h.ring k c hk).at (fun _ _ => rfl) (fun _ _ => rfl) (fun _ _ => rfl) rfl rfl rfl, fun k u hu => ?_, h.wait, fun k s1 s2 hne => ?_⟩
  · have hs : upd σ.pb t none s = none := hs
    by_cases e : s = t
    · subst e; exact ⟨hw, hpt⟩
    · rw [upd_other _ _ e] at hs
      exact ⟨(h.dead s hs).1, fun k => by rw [hph s k e]; exact (h.dead s hs).2 k⟩
  · have hs : upd σ.pb t none s = some c := hs
    have e : s ≠ t := fun e => by subst e; rw [upd_same] at hs; cases hs
    rw [upd_other _ _ e] at hs
    exact h.wf s c hs
  · by_cases e : s = t
    · subst e; rw [hpt]; omega
    · rw [hph s k e]; exact h.low s k
  · show upd (σ.lh k m) t false s = true ↔ _
    by_cases e : s = t
    · subst e
      rw [upd_same, hpt]
      constructor
      · intro hf; cases hf
      · rintro ⟨h1, h2⟩; exact absurd h2.symm h1
    · rw [upd_other _ _ e, hph s k e]
      exact h.lhm k c hk m s
  · obtain ⟨h1, h2⟩ := h.gone k hk
    refine ⟨fun s => ?_, h2⟩
    by_cases e : s = t
    · subst e; exact hpt k
    · rw [hph s k e]; exact h1 s
  · have h0 : σ.ph t k = 0 := Classical.byContradiction fun e => hx (hX k (.inr e))
    obtain ⟨⟨s, hs⟩, h2⟩ := h.held k c hk fun e => hx (hX k (.inl e))
    have e : s ≠ t := fun e => hs (by rw [e]; exact h0)
    refine ⟨⟨s, by rw [hph s k e]; exact hs⟩, fun u r hu => ?_⟩
    have el : (freeS σ t).lh k = σ.lh k := by
      funext m
      refine upd_self' ?_
      cases e2 : σ.lh k m t
      · rfl
      · obtain ⟨h3, h4⟩ := (h.lhm k c hk m t).1 e2
        exact absurd (h4.symm.trans h0) h3
    rw [el]
    exact h2 u r hu
  · have hs : upd σ.pb t none s = some c := hs
    have e : s ≠ t := fun e => by subst e; rw [upd_same] at hs; cases hs
    rw [upd_other _ _ e] at hs
    rcases h.par s c hs fun e1 => (hY s e1).elim e hy with h1 | ⟨k, h1⟩
    · exact .inl h1
    · exact .inr ⟨k, by rw [hph s k e]; exact h1⟩
  · have hk := h.node k u hu
    exact ⟨hk.tag, hk.name, by rw [show (freeS σ t).nd u = σ.nd u from rfl, hph _ k (hnt k u hu)]; exact hk.had, hk.pw, hk.m1, hk.m6, hk.more⟩
  · by_cases e1 : s1 = t
    · subst e1; rw [hpt]; exact zero_bes _
    · by_cases e2 : s2 = t
      · subst e2; rw [hpt]; exact bes_zero _
      · rw [hph s1 k e1, hph s2 k e2]; exact h.bes k s1 s2 hne

theorem swapH_other {lh : Nat → Int → Bool} {a c m : Nat} {s : Int} (hs : s ≠ t) : swapH lh t a c m s = lh m s := by
  unfold swapH
  have e1 : ∀ m', upd lh a (upd (lh a) t false) m' s = lh m' s := fun m' => by
    by_cases e : m' = a
    · subst e; rw [upd_same, upd_other _ _ hs]
    · rw [upd_other _ _ e]
  by_cases e : m = c
  · subst e; rw [upd_same, upd_other _ _ hs, e1]
  · rw [upd_other _ _ e, e1]
theorem swapH_self {lh : Nat → Int → Bool} {a c m : Nat} (h : ∀ m, m ≠ a → lh m t = false) : swapH lh t a c m t = decide (m = c) := by
  unfold swapH
  by_cases e : m = c
  · subst e; rw [upd_same, upd_same]; simp
  · rw [upd_other _ _ e]
    by_cases e2 : m = a
    · subst e2; rw [upd_same, upd_same]; simp [e]
    · rw [upd_other _ _ e2, h m e2]; simp [e]

/-- Somebody who waits for nothing gets what it would have. -/
theorem Good.give (h : Good σ Q X Y) {own : Nat → Tag} (ho : ∀ i, σ.own i ≠ .no → own i = σ.own i) (lm : Name → Nat → Option Nat) (hb : σ.lb n = some b) (hp : σ.pb t = some p) (hw : σ.pw t = none) (ht : (σ.nd z).t = t) (hh : (σ.nd z).had = σ.ph t n) (h1 : 1 ≤ (σ.nd z).m) (h6 : (σ.nd z).m < 6)
    (hg : GoesIn (σ.lh n) t (joinN (σ.ph t n) (σ.nd z).m)) (hX : ∀ k, ¬ X' k → (k = n ∧ (Q n = [] ∨ ¬ X n)) ∨ (k ≠ n ∧ ¬ X k)) (hY : ∀ s, Y s → s = t ∨ Y' s) : Good (giveS σ n z own lm) Q X' Y' := by
  obtain ⟨wd, hwd⟩ : ∃ wd, joinN (σ.ph t n) (σ.nd z).m = wd := ⟨_, rfl⟩
  have hwd6 : wd < 6 := by rw [← hwd]; exact joinN_lt _ _ (h.low t n) h6
  have hwd0 : wd ≠ 0 := by rw [← hwd]; exact joinN_pos h1
  rw [hwd] at hg
  have hlh : ∀ k, (giveS σ n z own lm).lh k = if k = n then swapH (σ.lh n) t (σ.ph t n) wd else σ.lh k := fun k => by
    show upd σ.lh n (swapH (σ.lh n) (σ.nd z).t (σ.nd z).had (joinN (σ.nd z).had (σ.nd z).m)) k = _
    rw [ht, hh, hwd]
    by_cases e : k = n
    · rw [if_pos e, e, upd_same]
    · rw [if_neg e, upd_other _ _ e]
  have hpht : (giveS σ n z own lm).ph t n = wd := by
    show upd σ.ph (σ.nd z).t (upd (σ.ph (σ.nd z).t) n (joinN (σ.nd z).had (σ.nd z).m)) t n = wd
    rw [ht, hh, hwd, upd_same, upd_same]
  have hph : ∀ s k, s ≠ t ∨ k ≠ n → (giveS σ n z own lm).ph s k = σ.ph s k := fun s k e => by
    show upd σ.ph (σ.nd z).t (upd (σ.ph (σ.nd z).t) n (joinN (σ.nd z).had (σ.nd z).m)) s k = σ.ph s k
    rw [ht]
    by_cases e1 : s = t
    · subst e1
      rw [upd_same, upd_other _ _ (e.resolve_left fun e2 => e2 rfl)]
    · rw [upd_other _ _ e1]
  have hl0 : ∀ m, m ≠ σ.ph t n → σ.lh n m t = false := fun m hm => by
    cases e : σ.lh n m t
    · rfl
    · exact absurd ((h.lhm n b hb m t).1 e).2.symm hm
  have hnt : ∀ k u, u ∈ Q k → (σ.nd u).t ≠ t := fun k u hu e => by
    have := (h.node k u hu).pw
    rw [e, hw] at this
    cases this
  refine ⟨fun s hs => ?_, h.wf, h.nm, fun s k => ?_, fun k c hk m s => ?_, fun k hk => ?_, fun k c hk hx => ?_, fun s c hs hy => ?_, fun k c hk => ?_, fun k u hu => ?_, h.wait, fun k s1 s2 hne => ?_⟩
  · have e : s ≠ t := fun e => by
      have hs : σ.pb s = none := hs
      rw [e, hp] at hs
      cases hs
    exact ⟨(h.dead s hs).1, fun k => by rw [hph s k (.inl e)]; exact (h.dead s hs).2 k⟩
  · by_cases e : s = t ∧ k = n
    · rw [e.1, e.2, hpht]; exact hwd6
    · rw [hph s k (Classical.byCases (fun e1 : s = t => .inr fun e2 => e ⟨e1, e2⟩) (fun e1 => .inl e1))]; exact h.low s k
  · rw [hlh]
    by_cases e : k = n
    · subst e
      rw [if_pos rfl]
      by_cases e2 : s = t
      · subst e2
        rw [swapH_self hl0, hpht]
        simp only [decide_eq_true_eq]
        constructor
        · rintro rfl; exact ⟨hwd0, rfl⟩
        · rintro ⟨_, h2⟩; exact h2.symm
      · rw [swapH_other e2, hph s k (.inl e2)]
        exact h.lhm k c hk m s
    · rw [if_neg e, hph s k (.inr e)]
      exact h.lhm k c hk m s
  · have hk : σ.lb k = none := hk
    have e : k ≠ n := fun e => by rw [e, hb] at hk; cases hk
    exact ⟨fun s => by rw [hph s k (.inr e)]; exact (h.gone k hk).1 s, (h.gone k hk).2⟩
  · rcases hX k hx with ⟨e, hq⟩ | ⟨e, hq⟩
    · subst e
      refine ⟨⟨t, by rw [hpht]; exact hwd0⟩, fun u r hu => ?_⟩
      rcases hq with hq | hq
      · rw [hq] at hu; cases hu
      · rw [hlh, if_pos rfl]
        intro hg2
        have hun : u ∈ Q k := by rw [hu]; simp
        refine (h.held k c hk hq).2 u r hu fun m hm ⟨s, hs1, hs2⟩ => ?_
        by_cases e2 : s = t
        · subst e2
          obtain ⟨h3, h4⟩ := (h.lhm k c hk m s).1 hs2
          have h5 := hg2 wd hwd6 ⟨s, hs1, by rw [swapH_self hl0]; simp⟩
          rw [← hwd, h4] at h5
          have hn := h.node k u hun
          exact bes_of_join hm h6 (joinN_lt _ _ (by show (σ.nd u).had < 6; rw [hn.had]; exact h.low _ _) hn.m6) h5
        · exact hg2 m hm ⟨s, hs1, by rw [swapH_other e2]; exact hs2⟩
    · obtain ⟨⟨s, hs⟩, h2⟩ := h.held k c hk hq
      refine ⟨⟨s, by rw [hph s k (.inr e)]; exact hs⟩, fun u r hu => ?_⟩
      rw [hlh, if_neg e]
      exact h2 u r hu
  · by_cases e : s = t
    · subst e
      exact .inr ⟨n, by rw [hpht]; exact hwd0⟩
    · rcases h.par s c hs fun e1 => (hY s e1).elim e hy with h1 | ⟨k, h1⟩
      · exact .inl h1
      · exact .inr ⟨k, by rw [hph s k (.inl e)]; exact h1⟩
  · exact (h.ring k c hk).at (fun _ _ => rfl) (fun _ _ => rfl) (fun _ _ => rfl) rfl rfl (ho _ (by rw [(h.ring k c hk).tagE]; simp))
  · have hk := h.node k u hu
    exact ⟨(ho u (by rw [hk.tag]; simp)).trans hk.tag, hk.name, by rw [show (giveS σ n z own lm).nd u = σ.nd u from rfl, hph _ k (.inl (hnt k u hu))]; exact hk.had, hk.pw, hk.m1, hk.m6, hk.more⟩
  · have key : ∀ s, s ≠ t → besB wd (σ.ph s n) = true := fun s hs => by
      by_cases e0 : σ.ph s n = 0
      · rw [e0]; exact bes_zero _
      · have := hg (σ.ph s n) (h.low s n) ⟨s, hs, (h.lhm n b hb _ s).2 ⟨e0, rfl⟩⟩
        rw [bes_comm hwd6 (h.low s n)]
        exact this
    by_cases e : k = n
    · subst e
      by_cases e1 : s1 = t
      · subst e1
        rw [hpht, hph s2 k (.inl (Ne.symm hne))]
        exact key s2 (Ne.symm hne)
      · by_cases e2 : s2 = t
        · subst e2
          rw [hpht, hph s1 k (.inl e1), bes_comm (h.low s1 k) hwd6]
          exact key s1 e1
        · rw [hph s1 k (.inl e1), hph s2 k (.inl e2)]
          exact h.bes k s1 s2 hne
    · rw [hph s1 k (.inr e), hph s2 k (.inr e)]
      exact h.bes k s1 s2 hne
end

end Go.Proofs.YtclppfljengnbaaGreat
