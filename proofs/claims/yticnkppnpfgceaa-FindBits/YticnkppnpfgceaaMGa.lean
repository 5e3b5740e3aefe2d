/-
  Rows of records whose rows lie where they lay; copied; Find.
-/
import Derived.Test.YticnkppnpfgceaaMMx
namespace Go.Proofs.Yticnkppnpfgceaa.Mg
open Go.RowKit

theorem at12_get {W : World} {b o : Nat} {r : Rc} {p : Pl} (h : At12 W b o r p) : ∀ (k : Nat) (u : Value), (recL r p)[k]? = some u → W.cell? ⟨b, o + k, none⟩ = some u := by
  obtain ⟨d0, d1, d2, d3, d4, d5, d6, d7, d8, d9, d10, d11⟩ := h
  intro k u hu
  have hk : k < 12 := (List.getElem?_eq_some_iff.1 hu).1
  have hc : k = 0 ∨ k = 1 ∨ k = 2 ∨ k = 3 ∨ k = 4 ∨ k = 5 ∨ k = 6 ∨ k = 7 ∨ k = 8 ∨ k = 9 ∨ k = 10 ∨ k = 11 := by omega
  rcases hc with rfl | rfl | rfl | rfl | rfl | rfl | rfl | rfl | rfl | rfl | rfl | rfl <;> (injection hu with hu; subst hu; assumption)

/-- Records, their rows where they lay in w. -/
def ShOk (w W : World) (B : Nat) (v : Value) (out : List Rc) : Prop :=
  ∃ qs : List (Rc × Pl), qs.map (·.1) = out ∧ W.ownsRow B 50 12 v out.length (qs.flatMap fun q => recL q.1 q.2) ∧ ∀ q, q ∈ qs → RI w q.1 q.2
theorem ShOk.nil (w W : World) (B : Nat) : ShOk w W B (.slice none 0 0) [] := ⟨[], rfl, World.ownsRow_nil _ _ _ _, by simp⟩
theorem ShOk.below {w W W' : World} {B : Nat} {v : Value} {out : List Rc} (h : ShOk w W B v out) (hb : Below W.heap.size W W') : ShOk w W' B v out := by
  obtain ⟨qs, h1, h2, h3⟩ := h
  exact ⟨qs, h1, own_stay h2 (fun k _ _ hc => hb.block k (Array.getElem?_eq_some_iff.1 hc).1), h3⟩
theorem ShOk.slR {w W : World} {B c : Nat} {a : Option Addr} {out : List Rc} (h : ShOk w W B (.slice a out.length c) out) (hb : Below w.heap.size w W) : SlR W a out := by
  obtain ⟨qs, rfl, h2, h3⟩ := h
  rcases own_addr h2 with ⟨rfl, e, _⟩ | ⟨g, cur, rfl, _⟩
  · have : qs.map (·.1) = [] := List.eq_nil_of_length_eq_zero e
    rw [this]
    exact SlR.nil _ _ (fun y hy => by simp at hy)
  · refine ⟨fun e => by simp at e, fun x hx i r hr => ?_⟩
    simp at hx
    subst hx
    rw [List.getElem?_map] at hr
    obtain ⟨q, hq, rfl⟩ := Option.map_eq_some_iff.1 hr
    exact ⟨rfl, q.2, by simpa using own_at12 h2 hq, (h3 q (List.mem_of_getElem? hq)).below hb⟩
theorem ShOk.cap {w W : World} {B c : Nat} {a : Option Addr} {out : List Rc} (h : ShOk w W B (.slice a out.length c) out) : out.length ≤ c := by
  obtain ⟨qs, _, h2, _⟩ := h
  rcases own_addr h2 with ⟨_, e, _⟩ | ⟨g, cur, _, _, _, h, _⟩
  · omega
  · exact h

theorem SlR.vals {w : World} {b o : Nat} {l : List Rc} (h : SlR w (some ⟨b, o, none⟩) l) : ∃ qs : List (Rc × Pl), qs.map (·.1) = l ∧ ∀ (i : Nat) (q : Rc × Pl), qs[i]? = some q → At12 w b (o + i * 12) q.1 q.2 ∧ RI w q.1 q.2 := by
  induction l generalizing o with
  | nil => exact ⟨[], rfl, fun i q hq => by simp at hq⟩
  | cons r l ih =>
    obtain ⟨qs, h1, h2⟩ := ih h.tail
    obtain ⟨p, h3, h4⟩ := h.get 0 (by simp)
    refine ⟨(r, p) :: qs, by simp [h1], fun i q hq => ?_⟩
    rcases i with _ | i
    · simp at hq
      subst hq
      exact ⟨by simpa using h3, by simpa using h4⟩
    · simp at hq
      have := h2 i q hq
      rwa [show o + 12 + i * 12 = o + (i + 1) * 12 by omega] at this
theorem vals_flat {w : World} {b o : Nat} {qs : List (Rc × Pl)} (h : ∀ (i : Nat) (q : Rc × Pl), qs[i]? = some q → At12 w b (o + i * 12) q.1 q.2 ∧ RI w q.1 q.2) : ∀ j u, (qs.flatMap fun q => recL q.1 q.2)[j]? = some u → w.cell? ((⟨b, o, none⟩ : Addr).add j) = some u := by
  intro j u hu
  have hj : j = j / 12 * 12 + j % 12 := by omega
  rw [hj, flat_get (fun q : Rc × Pl => recL q.1 q.2) 12 (fun _ => rfl) qs _ _ (by omega)] at hu
  obtain ⟨q, hq, hqu⟩ := Option.bind_eq_some_iff.1 hu
  rw [add_plain]
  have := at12_get (h _ q hq).1 (j % 12) u hqu
  rwa [show o + j / 12 * 12 + j % 12 = o + j by omega] at this
theorem flat_one (qs : List (Rc × Pl)) : ∀ u ∈ (qs.flatMap fun q => recL q.1 q.2), u.oneCell' = true := by
  intro u hu
  obtain ⟨q, _, h⟩ := List.mem_flatMap.1 hu
  exact recL_one q.1 q.2 u h

set_option maxRecDepth 100000 in
set_option maxHeartbeats 4000000 in
theorem copied11 (a : Option Addr) (c : Nat) (l : List Rc) (w : World) (hL : SlR w a l) (hl : l.length ≤ 100000) (hnil : a = none → c = 0) :
    Calls Try.prog 11 #[.slice a l.length c] w fun e w' => ∃ a' c', e = .returned (.slice a' l.length c') ∧ ShOk w w' w.heap.size (.slice a' l.length c') l ∧ Below w.heap.size w w' := by
  obtain ⟨i0, hi0, hz0, hz1, hz2⟩ := info_parts Try.info50
  obtain ⟨qs, hq1, hq2, hq3, hq4⟩ : ∃ qs : List (Rc × Pl), qs.map (·.1) = l ∧ (∀ q, q ∈ qs → RI w q.1 q.2) ∧ (∀ y, a = some y → ∀ j u, (qs.flatMap fun q => recL q.1 q.2)[j]? = some u → w.cell? (y.add j) = some u) ∧ (a = none → l.length = 0 ∧ c = 0) := by
    by_cases h0 : 0 < l.length
    · obtain ⟨b, o, rfl, _⟩ := hL.there h0
      obtain ⟨qs, h1, h2⟩ := hL.vals
      refine ⟨qs, h1, fun q hq => ?_, fun y hy => ?_, fun e => by simp at e⟩
      · obtain ⟨i, hi, rfl⟩ := List.getElem_of_mem hq
        exact (h2 i _ (List.getElem?_eq_getElem hi)).2
      · simp at hy
        subst hy
        exact vals_flat h2
    · have : l = [] := List.eq_nil_of_length_eq_zero (by omega)
      subst this
      exact ⟨[], rfl, by simp, fun y hy j u hj => by simp at hj, fun e => ⟨rfl, hnil e⟩⟩
  have hql : (qs.flatMap fun q => recL q.1 q.2).length = l.length * 12 := by rw [flat_len (fun q : Rc × Pl => recL q.1 q.2) 12 (fun _ => rfl), ← hq1, List.length_map]
  have HQ1 := toHid hq1
  have HQ2 := toHid hq2
  have HQ3 := toHid hq3
  have HQ4 := toHid hq4
  have HQL := toHid hql
  clear hq1 hq2 hq3 hq4 hql hL hnil
  go_enter Try.func11, Try.ntmps11
  go_wp2_with (at_builtin; go_must (refine wpList_append_src _ rfl _ _ 22 rfl w.heap.size 50 i0 _ 12 152 Try.underlying22 hi0 hz0 hz1 hz2 rfl (by decide) (.slice none 0 0) 0 [] rfl (World.ownsRow_nil _ _ _ _) a l.length c (qs.flatMap fun q => recL q.1 q.2) rfl HQ4.out HQL.out HQ3.out (flat_one _) (by unfold maxLen; omega) (by omega) (Nat.le_refl _) ?_; intro v1 y1 hown hgrow _; rw [Nat.zero_add, List.nil_append] at hown; obtain ⟨a1, c1, rfl⟩ := ownsRow_shape hown; have HO1 := toHid hown; have HG1 := toHid hgrow; clear hown hgrow))
  go_ret
  exact ⟨a1, c1, rfl, ⟨qs, HQ1.out, HO1.out, HQ2.out⟩, (Below.refl _ _).grown HG1.out (Nat.le_refl _) (by simp [Value.ownBlock])⟩

end Go.Proofs.Yticnkppnpfgceaa.Mg
