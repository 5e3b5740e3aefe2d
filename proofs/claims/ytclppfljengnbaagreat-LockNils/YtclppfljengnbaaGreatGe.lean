/-
  Somebody joins a row, and goes from it: what holds of a table stays.
-/
import Derived.Test.YtclppfljengnbaaGreatGd
namespace Go.Proofs.YtclppfljengnbaaGreat
open Go.RowKit Go.Maps

section
variable {σ : Sg} {Q : Name → List Nat} {X X' : Name → Prop} {Y Y' : Int → Prop} {n : Name} {z p b : Nat} {t : Int}

noncomputable def waitS (σ : Sg) (n : Name) (t : Int) (z a y : Nat) : Sg := { putS σ n z a y with pw := upd σ.pw t (some z) }

theorem Good.put (h : Good σ Q X Y) (hb : σ.lb n = some b) (hp : σ.pb t = some p) (hw : σ.pw t = none) (hz : σ.own z = .W) (hzq : ∀ k, z ∉ Q k) (ht : (σ.nd z).t = t) (hnn : (σ.nd z).n = n) (hh : (σ.nd z).had = σ.ph t n) (h1 : 1 ≤ (σ.nd z).m) (h6 : (σ.nd z).m < 6)
    (hgo : ¬ GoesIn (σ.lh n) t (joinN (σ.ph t n) (σ.nd z).m) ∨ (σ.ph t n = 0 ∧ Q n ≠ [])) (hY : ∀ s, Y s → s = t ∨ Y' s) :
    ∃ q1 q2, Q n = q1 ++ q2 ∧ (∃ u, σ.ah (σ.eb n) = some u ∧ lastOr (σ.eb n) q1 = if (σ.nd z).had = 0 then u else σ.ls n) ∧ σ.bh (lastOr (σ.eb n) q1) = some (headOr (σ.eb n) q2) ∧ (σ.ph t n = 0 → q2 = []) ∧
      Good (waitS σ n t z (lastOr (σ.eb n) q1) (headOr (σ.eb n) q2)) (upd Q n (q1 ++ z :: q2)) X Y' := by
  have hr := h.ring n b hb
  obtain ⟨cs, os, hq, hcs, hos, hls⟩ := hr.cut
  obtain ⟨q1, q2, e12, hc1, hc2⟩ : ∃ q1 q2, Q n = q1 ++ q2 ∧ (σ.ph t n = 0 → q1 = Q n ∧ q2 = []) ∧ (σ.ph t n ≠ 0 → q1 = cs ∧ q2 = os) := by
    by_cases e0 : σ.ph t n = 0
    · exact ⟨Q n, [], by simp, fun _ => ⟨rfl, rfl⟩, fun h0 => absurd e0 h0⟩
    · exact ⟨cs, os, hq, fun h0 => absurd h0 e0, fun _ => ⟨rfl, rfl⟩⟩
  have hring := hr.ring
  rw [e12] at hring
  obtain ⟨_, hbh, _, _⟩ := Ring.split.1 hring
  have hzE : z ≠ σ.eb n := fun e => by rw [e, hr.tagE] at hz; cases hz
  have hza : z ∉ σ.eb n :: (q1 ++ q2) := by
    rw [← e12]
    simp only [List.mem_cons, not_or]
    exact ⟨hzE, hzq n⟩
  have hnd := h.nodup hb
  rw [e12] at hnd
  have hA : lastOr (σ.eb n) q1 ∈ σ.eb n :: Q n := by
    have := lastOr_mem (σ.eb n) q1
    rw [e12]
    simp at this ⊢
    rcases this with h | h <;> simp [h]
  have hB : headOr (σ.eb n) q2 ∈ σ.eb n :: Q n := by
    rw [e12]
    rcases headOr_mem (σ.eb n) q2 with h | h <;> simp [h]
  have hmem : ∀ u, u ∈ q1 ++ z :: q2 ↔ u = z ∨ u ∈ Q n := fun u => by rw [e12]; simp only [List.mem_append, List.mem_cons]; exact ⟨fun h => by rcases h with h | h | h <;> simp [h], fun h => by rcases h with h | h | h <;> simp [h]⟩
  have hnt : ∀ k u, u ∈ Q k → (σ.nd u).t ≠ t := fun k u hu e => by
    have := (h.node k u hu).pw
    rw [e, hw] at this
    cases this
  refine ⟨q1, q2, e12, ?_, hbh, fun h0 => (hc1 h0).2, ?_⟩
  · have e3 : Q n = Q n ++ [] := by simp
    have hr3 := hr.ring
    rw [e3] at hr3
    obtain ⟨_, _, h3, _⟩ := Ring.split.1 hr3
    refine ⟨_, h3, ?_⟩
    rw [hh]
    by_cases e0 : σ.ph t n = 0
    · rw [if_pos e0, (hc1 e0).1]
    · rw [if_neg e0, (hc2 e0).1, hls]
  have hQ : ∀ k, k ≠ n → upd Q n (q1 ++ z :: q2) k = Q k := fun k e => upd_other _ _ e
  refine ⟨fun s hs => ?_, h.wf, h.nm, h.low, h.lhm, fun k hk => ?_, fun k c hk hx => ?_, fun s c hs hy => ?_, fun k c hk => ?_, fun k u hu => ?_, fun s u hu => ?_, h.bes⟩
  · have e : s ≠ t := fun e => by
      have hs : σ.pb s = none := hs
      rw [e, hp] at hs
      cases hs
    refine ⟨?_, (h.dead s hs).2⟩
    show upd σ.pw t (some z) s = none
    rw [upd_other _ _ e]
    exact (h.dead s hs).1
  · have hk : σ.lb k = none := hk
    have e : k ≠ n := fun e => by rw [e, hb] at hk; cases hk
    rw [hQ k e]
    exact h.gone k hk
  · by_cases e : k = n
    · subst e
      refine ⟨(h.held k c hk hx).1, fun u r hu => ?_⟩
      rw [upd_same] at hu
      show ¬ GoesIn (σ.lh k) (σ.nd u).t (joinN (σ.nd u).had (σ.nd u).m)
      cases q1 with
      | nil =>
        simp at hu
        obtain ⟨rfl, _⟩ := hu
        rw [ht, hh]
        rcases hgo with hg | ⟨h0, hne⟩
        · exact hg
        · exact absurd (by rw [e12, (hc1 h0).2]; rfl) hne
      | cons v q1 =>
        simp at hu
        obtain ⟨rfl, _⟩ := hu
        exact (h.held k c hk hx).2 v (q1 ++ q2) (by rw [e12]; rfl)
    · rw [hQ k e]
      exact h.held k c hk hx
  · by_cases e : s = t
    · subst e
      refine .inl ?_
      show upd σ.pw s (some z) s ≠ none
      rw [upd_same]
      simp
    · rcases h.par s c hs fun e1 => (hY s e1).elim e hy with h1 | h1
      · refine .inl ?_
        show upd σ.pw t (some z) s ≠ none
        rw [upd_other _ _ e]
        exact h1
      · exact .inr h1
  · by_cases e : k = n
    · subst e
      rw [upd_same]
      refine ⟨hr.tagE, hring.put hnd hza, ?_, ?_⟩
      · have h2 := (List.nodup_cons.1 hnd).2
        obtain ⟨g1, g2, g3⟩ := List.nodup_append.1 h2
        simp only [List.mem_cons, List.mem_append, not_or] at hza
        refine List.nodup_append.2 ⟨g1, List.nodup_cons.2 ⟨hza.2.2, g2⟩, fun a ha b hb e1 => ?_⟩
        rcases List.mem_cons.1 hb with hb | hb
        · exact hza.2.1 (by rw [← hb, ← e1]; exact ha)
        · exact g3 a ha b hb e1
      · by_cases e0 : σ.ph t k = 0
        · refine ⟨cs, os ++ [z], ?_, hcs, fun u hu => ?_, ?_⟩
          · rw [(hc1 e0).1, (hc1 e0).2, hq]; simp
          · rcases List.mem_append.1 hu with hu | hu
            · exact hos u hu
            · obtain rfl : u = z := by simpa using hu
              show (σ.nd u).had = 0
              rw [hh]; exact e0
          · show (if (σ.nd z).had = 0 then σ.ls else upd σ.ls k z) k = lastOr (σ.eb k) cs
            rw [if_pos (by rw [hh]; exact e0)]
            exact hls
        · obtain ⟨rfl, rfl⟩ := hc2 e0
          refine ⟨q1 ++ [z], q2, by simp, fun u hu => ?_, hos, ?_⟩
          · rcases List.mem_append.1 hu with hu | hu
            · exact hcs u hu
            · obtain rfl : u = z := by simpa using hu
              show (σ.nd u).had ≠ 0
              rw [hh]; exact e0
          · show (if (σ.nd z).had = 0 then σ.ls else upd σ.ls k z) k = lastOr (σ.eb k) (q1 ++ [z])
            rw [if_neg (by rw [hh]; exact e0), upd_same, lastOr_append]
    · rw [hQ k e]
      have hk0 : σ.lb k = some c := hk
      refine (h.ring k c hk).at (fun u hu => ?_) (fun u hu => ?_) (fun _ _ => rfl) rfl ?_ rfl
      · have hzu : u ≠ z := fun e1 => by
          subst e1
          rcases List.mem_cons.1 hu with hu | hu
          · rw [hu, (h.ring k c hk).tagE] at hz; cases hz
          · exact hzq k hu
        show upd (upd σ.ah z _) _ _ u = _
        rw [upd_other _ _ (h.apart hb hk0 e hB hu), upd_other _ _ hzu]
      · have hzu : u ≠ z := fun e1 => by
          subst e1
          rcases List.mem_cons.1 hu with hu | hu
          · rw [hu, (h.ring k c hk).tagE] at hz; cases hz
          · exact hzq k hu
        show upd (upd σ.bh z _) _ _ u = _
        rw [upd_other _ _ (h.apart hb hk0 e hA hu), upd_other _ _ hzu]
      · show (if (σ.nd z).had = 0 then σ.ls else upd σ.ls n z) k = σ.ls k
        split
        · rfl
        · rw [upd_other _ _ e]
  · have old : ∀ k u, u ∈ Q k → NodeOk (waitS σ n t z (lastOr (σ.eb n) q1) (headOr (σ.eb n) q2)) k u := fun k u hu => (h.node k u hu).at rfl rfl rfl (upd_other _ _ (hnt k u hu))
    by_cases e : k = n
    · subst e
      rw [upd_same] at hu
      rcases (hmem u).1 hu with rfl | hu
      · refine ⟨hz, hnn, ?_, ?_, h1, h6, ?_⟩
        · show (σ.nd u).had = σ.ph (σ.nd u).t k
          rw [hh, ht]
        · show upd σ.pw t (some u) (σ.nd u).t = some u
          rw [ht, upd_same]
        · show joinN (σ.nd u).had (σ.nd u).m ≠ (σ.nd u).had
          rw [hh]
          intro ej
          have h0 : σ.ph t k ≠ 0 := by rw [← ej]; exact joinN_pos h1
          rcases hgo with hg | ⟨h2, _⟩
          · refine hg fun m hm ⟨s, hs1, hs2⟩ => ?_
            obtain ⟨_, h4⟩ := (h.lhm k b hb m s).1 hs2
            rw [ej, ← h4]
            exact h.bes k s t hs1
          · exact h0 h2
      · exact old k u hu
    · rw [hQ k e] at hu
      exact old k u hu
  · have hu : upd σ.pw t (some z) s = some u := hu
    show u ∈ upd Q n (q1 ++ z :: q2) (σ.nd u).n ∧ (σ.nd u).t = s
    by_cases e : s = t
    · subst e
      rw [upd_same] at hu
      cases hu
      rw [hnn, upd_same]
      exact ⟨(hmem z).2 (.inl rfl), ht⟩
    · rw [upd_other _ _ e] at hu
      obtain ⟨g1, g2⟩ := h.wait s u hu
      refine ⟨?_, g2⟩
      by_cases e2 : (σ.nd u).n = n
      · rw [e2, upd_same]
        rw [e2] at g1
        exact (hmem u).2 (.inr g1)
      · rw [hQ _ e2]
        exact g1

theorem Good.stop (h : Good σ Q X Y) (hz : z ∈ Q n) (ht : (σ.nd z).t = t) (hX : ∀ k, X k ∨ k = n → X' k) (hY : ∀ s, Y s ∨ s = t → Y' s) :
    ∃ q1 q2, Q n = q1 ++ z :: q2 ∧ σ.ah z = some (lastOr (σ.eb n) q1) ∧ σ.bh z = some (headOr (σ.eb n) q2) ∧ IsW (σ.own (lastOr (σ.eb n) q1)) ∧ IsW (σ.own (headOr (σ.eb n) q2)) ∧ IsW (σ.own (σ.ls n)) ∧
      Good (stopS σ n t z (lastOr (σ.eb n) q1) (headOr (σ.eb n) q2)) (upd Q n (q1 ++ q2)) X' Y' := by
  obtain ⟨b, hb⟩ := h.liveQ hz
  have hr := h.ring n b hb
  obtain ⟨q1, q2, e12⟩ := List.append_of_mem hz
  have hring := hr.ring
  rw [e12] at hring
  obtain ⟨g1, g2⟩ := hring.at
  have hnd := h.nodup hb
  rw [e12] at hnd
  have hA : lastOr (σ.eb n) q1 ∈ σ.eb n :: Q n := by
    have := lastOr_mem (σ.eb n) q1
    rw [e12]
    simp at this ⊢
    rcases this with h | h <;> simp [h]
  have hB : headOr (σ.eb n) q2 ∈ σ.eb n :: Q n := by
    rw [e12]
    rcases headOr_mem (σ.eb n) q2 with h | h <;> simp [h]
  obtain ⟨cs, os, hq, hcs, hos, hls⟩ := hr.cut
  have hL : σ.ls n ∈ σ.eb n :: Q n := by
    have := lastOr_mem (σ.eb n) cs
    rw [hls, hq]
    simp at this ⊢
    rcases this with h | h <;> simp [h]
  have hmem : ∀ u, u ∈ q1 ++ q2 ↔ u ≠ z ∧ u ∈ Q n := fun u => by
    obtain ⟨_, d2⟩ := List.nodup_cons.1 hnd
    obtain ⟨d3, d4, d5⟩ := List.nodup_append.1 d2
    obtain ⟨d6, _⟩ := List.nodup_cons.1 d4
    rw [e12]
    simp only [List.mem_append, List.mem_cons]
    constructor
    · rintro (hu | hu)
      · exact ⟨fun e => d5 u hu z (by simp) e, .inl hu⟩
      · exact ⟨fun e => d6 (by rw [← e]; exact hu), .inr (.inr hu)⟩
    · rintro ⟨hne, hu | hu | hu⟩
      · exact .inl hu
      · exact absurd hu hne
      · exact .inr hu
  have hnt : ∀ k u, u ∈ Q k → u ≠ z → (σ.nd u).t ≠ t := fun k u hu hne e => by
    have h1 := (h.node k u hu).pw
    have h2 := (h.node n z hz).pw
    rw [e] at h1
    rw [ht, h1] at h2
    exact hne (Option.some.inj h2)
  have hQ : ∀ k, k ≠ n → upd Q n (q1 ++ q2) k = Q k := fun k e => upd_other _ _ e
  refine ⟨q1, q2, e12, g1, g2, h.tagW hb hA, h.tagW hb hB, h.tagW hb hL, ?_⟩
  refine ⟨fun s hs => ?_, h.wf, h.nm, h.low, h.lhm, fun k hk => ?_, fun k c hk hx => ?_, fun s c hs hy => ?_, fun k c hk => ?_, fun k u hu => ?_, fun s u hu => ?_, h.bes⟩
  · refine ⟨?_, (h.dead s hs).2⟩
    show upd σ.pw t none s = none
    by_cases e : s = t
    · rw [e, upd_same]
    · rw [upd_other _ _ e]
      exact (h.dead s hs).1
  · have hk : σ.lb k = none := hk
    have e : k ≠ n := fun e => by rw [e, hb] at hk; cases hk
    rw [hQ k e]
    exact h.gone k hk
  · have e : k ≠ n := fun e => hx (hX k (.inr e))
    rw [hQ k e]
    exact h.held k c hk fun e1 => hx (hX k (.inl e1))
  · have e : s ≠ t := fun e => hy (hY s (.inr e))
    rcases h.par s c hs fun e1 => hy (hY s (.inl e1)) with h1 | h1
    · refine .inl ?_
      show upd σ.pw t none s ≠ none
      rw [upd_other _ _ e]
      exact h1
    · exact .inr h1
  · by_cases e : k = n
    · subst e
      rw [upd_same]
      refine ⟨hr.tagE, hring.take hnd, ?_, ?_⟩
      · obtain ⟨_, d2⟩ := List.nodup_cons.1 hnd
        obtain ⟨d3, d4, d5⟩ := List.nodup_append.1 d2
        exact List.nodup_append.2 ⟨d3, (List.nodup_cons.1 d4).2, fun a ha b hb e1 => d5 a ha b (by simp [hb]) e1⟩
      · show ∃ cs os, q1 ++ q2 = cs ++ os ∧ (∀ z, z ∈ cs → (σ.nd z).had ≠ 0) ∧ (∀ z, z ∈ os → (σ.nd z).had = 0) ∧ (if σ.ls k = z then upd σ.ls k (lastOr (σ.eb k) q1) else σ.ls) k = lastOr (σ.eb k) cs
        obtain ⟨_, d2⟩ := List.nodup_cons.1 hnd
        obtain ⟨d3, d4, d5⟩ := List.nodup_append.1 d2
        obtain ⟨d6, _⟩ := List.nodup_cons.1 d4
        have hzE : σ.eb k ≠ z := fun e => by have := (h.node k z hz).tag; rw [← e, hr.tagE] at this; cases this
        rw [e12] at hq
        rcases List.append_eq_append_iff.1 hq with ⟨r, hr1, hr2⟩ | ⟨r, hr1, hr2⟩
        · -- cs = q1 ++ r, z :: q2 = r ++ os
          cases r with
          | nil =>
            simp at hr1 hr2
            subst hr1
            refine ⟨cs, q2, rfl, hcs, fun u hu => hos u (by rw [← hr2]; simp [hu]), ?_⟩
            rw [if_neg]
            · exact hls
            · rw [hls]
              intro e1
              have := lastOr_mem (σ.eb k) cs
              rw [e1] at this
              rcases List.mem_cons.1 this with h1 | h1
              · exact hzE h1.symm
              · exact d5 z h1 z (by simp) rfl
          | cons v r =>
            simp at hr2
            obtain ⟨rfl, hr2⟩ := hr2
            refine ⟨q1 ++ r, os, by rw [hr2]; simp, fun u hu => hcs u (by rw [hr1]; simp at hu ⊢; rcases hu with hu | hu <;> simp [hu]), hos, ?_⟩
            rw [hr1] at hls
            rcases List.eq_nil_or_concat r with rfl | ⟨r', v, rfl⟩
            · rw [if_pos (by rw [hls, lastOr_append]), upd_same]
              simp
            · have e2 : lastOr (σ.eb k) (q1 ++ z :: (r' ++ [v])) = v := by
                have := lastOr_append (σ.eb k) v (q1 ++ z :: r')
                simpa using this
              rw [if_neg, hls]
              · simp only [List.concat_eq_append] at *
                rw [e2]
                have := lastOr_append (σ.eb k) v (q1 ++ r')
                rw [List.append_assoc] at this
                exact this.symm
              · simp only [List.concat_eq_append] at *
                rw [hls, e2]
                intro e3
                exact d6 (by rw [hr2, e3]; simp)
        · -- q1 = cs ++ r, os = r ++ z :: q2
          refine ⟨cs, r ++ q2, by rw [hr1]; simp, hcs, fun u hu => hos u (by rw [hr2]; simp at hu ⊢; rcases hu with hu | hu <;> simp [hu]), ?_⟩
          rw [if_neg]
          · exact hls
          · rw [hls]
            intro e1
            have := lastOr_mem (σ.eb k) cs
            rw [e1] at this
            rcases List.mem_cons.1 this with h1 | h1
            · exact hzE h1.symm
            · exact d5 z (by rw [hr1]; simp [h1]) z (by simp) rfl
    · rw [hQ k e]
      have hk0 : σ.lb k = some c := hk
      refine (h.ring k c hk).at (fun u hu => upd_other _ _ (h.apart hb hk0 e hB hu)) (fun u hu => upd_other _ _ (h.apart hb hk0 e hA hu)) (fun _ _ => rfl) rfl ?_ rfl
      show (if σ.ls n = z then upd σ.ls n (lastOr (σ.eb n) q1) else σ.ls) k = σ.ls k
      split
      · rw [upd_other _ _ e]
      · rfl
  · have old : ∀ k u, u ∈ Q k → u ≠ z → NodeOk (stopS σ n t z (lastOr (σ.eb n) q1) (headOr (σ.eb n) q2)) k u := fun k u hu hne => (h.node k u hu).at rfl rfl rfl (upd_other _ _ (hnt k u hu hne))
    by_cases e : k = n
    · subst e
      rw [upd_same] at hu
      obtain ⟨h1, h2⟩ := (hmem u).1 hu
      exact old k u h2 h1
    · rw [hQ k e] at hu
      exact old k u hu fun e1 => e (by rw [← (h.node k u hu).name, e1]; exact (h.node n z hz).name)
  · have hu : upd σ.pw t none s = some u := hu
    show u ∈ upd Q n (q1 ++ q2) (σ.nd u).n ∧ (σ.nd u).t = s
    have e : s ≠ t := fun e => by subst e; rw [upd_same] at hu; cases hu
    rw [upd_other _ _ e] at hu
    obtain ⟨g1, g2⟩ := h.wait s u hu
    refine ⟨?_, g2⟩
    by_cases e2 : (σ.nd u).n = n
    · rw [e2, upd_same]
      rw [e2] at g1
      exact (hmem u).2 ⟨fun e3 => e (by rw [← g2, e3]; exact ht), g1⟩
    · rw [hQ _ e2]
      exact g1
end

end Go.Proofs.YtclppfljengnbaaGreat
