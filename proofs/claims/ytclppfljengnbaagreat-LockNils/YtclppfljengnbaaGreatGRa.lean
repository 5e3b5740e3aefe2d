/-
  What a thing leads to; a set by the list of its own; a row from which the last is taken.
-/
import Derived.Test.YtclppfljengnbaaGreatGGa
namespace Go.Proofs.YtclppfljengnbaaGreat.Gr
open Go.RowKit Go.Maps

/-- One leads to another one: by one edge or by several. -/
inductive Lds (F : Lit → Lit → Bool) (a : Lit) : Lit → Prop
  | one {b : Lit} : F a b = true → Lds F a b
  | more {b c : Lit} : Lds F a b → F b c = true → Lds F a c

theorem Lds.trans {F : Lit → Lit → Bool} {a b c : Lit} (h : Lds F a b) (k : Lds F b c) : Lds F a c := by
  induction k with
  | one e => exact .more h e
  | more _ e ih => exact .more ih e

/-- Where a search stands: C what was come to, O what is open, X what is still to be looked at. -/
structure Srch (F : Lit → Lit → Bool) (a : Lit) (C O : List Lit) (X : Lit → Lit → Prop) : Prop where
  nd : C.Nodup
  sound : ∀ y, y ∈ C → Lds F a y
  opn : ∀ o, o ∈ O → o = a ∨ o ∈ C
  closed : ∀ x, x = a ∨ x ∈ C → x ∉ O → ∀ y, F x y = true → y ∈ C ∨ X x y

section
variable {F : Lit → Lit → Bool} {a : Lit} {C O : List Lit} {X : Lit → Lit → Prop}

theorem Srch.start (F : Lit → Lit → Bool) (a : Lit) : Srch F a [] [a] fun _ _ => False :=
  ⟨List.nodup_nil, fun y hy => by simp at hy, fun o ho => .inl (by simpa using ho), fun x hx hn => by simp at hx; simp [hx] at hn⟩
theorem Srch.done (h : Srch F a C [] fun _ _ => False) (y : Lit) : y ∈ C ↔ Lds F a y := by
  refine ⟨h.sound y, fun k => ?_⟩
  induction k with
  | one e => exact (h.closed a (.inl rfl) (by simp) _ e).resolve_right (fun f => f)
  | more _ e ih => exact (h.closed _ (.inr ih) (by simp) _ e).resolve_right (fun f => f)
theorem Srch.pop {x : Lit} (h : Srch F a C (O ++ [x]) fun _ _ => False) {g : Lit → Bool} (hg : ∀ y, F x y = true → g y = true) : Srch F a C O fun x' y => x' = x ∧ g y = true :=
  ⟨h.nd, h.sound, fun o ho => h.opn o (by simp [ho]), fun x' hx hn y e => by
    by_cases ex : x' = x
    · subst ex
      exact .inr ⟨rfl, hg y e⟩
    · rcases h.closed x' hx (by simp [hn, ex]) y e with h1 | h1
      · exact .inl h1
      · exact h1.elim⟩
theorem Srch.at {x : Lit} (h : Srch F a C (O ++ [x]) fun _ _ => False) : x = a ∨ Lds F a x := by
  rcases h.opn x (by simp) with h1 | h1
  · exact .inl h1
  · exact .inr (h.sound x h1)
theorem Srch.skip {x y : Lit} {g : Lit → Bool} (h : Srch F a C O fun x' z => x' = x ∧ g z = true) (hy : y ∈ C) : Srch F a C O fun x' z => x' = x ∧ upd g y false z = true :=
  ⟨h.nd, h.sound, h.opn, fun x' hx hn z e => by
    rcases h.closed x' hx hn z e with h1 | ⟨h1, h2⟩
    · exact .inl h1
    · by_cases ez : z = y
      · subst ez
        exact .inl hy
      · exact .inr ⟨h1, by rw [upd_other _ _ ez]; exact h2⟩⟩
theorem Srch.push {x y : Lit} {g : Lit → Bool} (h : Srch F a C O fun x' z => x' = x ∧ g z = true) (hx : x = a ∨ Lds F a x) (hy : y ∉ C) (e : F x y = true) : Srch F a (C ++ [y]) (O ++ [y]) fun x' z => x' = x ∧ upd g y false z = true := by
  refine ⟨List.nodup_append.2 ⟨h.nd, by simp, fun u hu v hv e1 => by simp at hv; rw [e1, hv] at hu; exact hy hu⟩, fun z hz => ?_, fun o ho => ?_, fun x' hx' hn z e' => ?_⟩
  · rcases List.mem_append.1 hz with h1 | h1
    · exact h.sound z h1
    · obtain rfl : z = y := by simpa using h1
      rcases hx with rfl | hx
      · exact .one e
      · exact .more hx e
  · rcases List.mem_append.1 ho with h1 | h1
    · rcases h.opn o h1 with h2 | h2
      · exact .inl h2
      · exact .inr (by simp [h2])
    · exact .inr (by simp at h1; simp [h1])
  · have hx2 : x' ≠ y := fun e => hn (by simp [e])
    rcases h.closed x' (hx'.imp id fun h1 => by
      rcases List.mem_append.1 h1 with h2 | h2
      · exact h2
      · exact absurd (by simpa using h2) hx2) (fun h1 => hn (by simp [h1])) z e' with h1 | ⟨h1, h2⟩
    · exact .inl (by simp [h1])
    · by_cases ez : z = y
      · exact .inl (by simp [ez])
      · exact .inr ⟨h1, by rw [upd_other _ _ ez]; exact h2⟩
theorem Srch.rest {x : Lit} {g : Lit → Bool} (h : Srch F a C O fun x' z => x' = x ∧ g z = true) (hg : ∀ z, g z = false) : Srch F a C O fun _ _ => False :=
  ⟨h.nd, h.sound, h.opn, fun x' hx hn z e => by
    rcases h.closed x' hx hn z e with h1 | ⟨_, h2⟩
    · exact .inl h1
    · rw [hg] at h2; cases h2⟩
end

theorem nodup_le : ∀ {l T : List Lit}, l.Nodup → (∀ x, x ∈ l → x ∈ T) → l.length ≤ T.length
  | [], _, _, _ => Nat.zero_le _
  | a :: r, T, hn, hs => by
    obtain ⟨h1, h2⟩ := List.nodup_cons.1 hn
    have ha : a ∈ T := hs a (by simp)
    have := nodup_le (T := T.erase a) h2 (fun x hx => (List.mem_erase_of_ne (fun e : x = a => h1 (by rw [← e]; exact hx))).2 (hs x (by simp [hx])))
    rw [List.length_erase_of_mem ha] at this
    have := List.length_pos_of_mem ha
    simp
    omega

/-- Block b is a set, of just those of the list l. -/
def SetL (P : Program) (k : TypeId) (w : World) (b : Nat) (l : List Lit) : Prop := ∃ D, w.ownsMap (H := Unit) P k unitElem b l.length D ∧ (∀ x, Maps.has D x = decide (x ∈ l)) ∧ Maps.size D = l.length
def setSize (w : World) (b : Nat) : Nat := match w.heap[b]? with
  | some (.map es _) => es.size
  | _ => 0
def lenOf : Value → Nat
  | .slice _ n _ => n
  | _ => 0
section
variable {P : Program} {k : TypeId} {w : World} {b : Nat} {l : List Lit}
theorem SetL.set (h : SetL P k w b l) : SetF P k w b l.length fun x => decide (x ∈ l) := by
  obtain ⟨D, h1, h2, _⟩ := h
  exact ⟨_, D, Nat.le_refl _, h1, h2⟩
theorem SetL.size (h : SetL P k w b l) : setSize w b = l.length := by
  obtain ⟨D, ⟨es, c, h1, _, _, rfl⟩, _, h3⟩ := h
  rw [← h3]
  simp [setSize, h1, Maps.size, length_sorted]
theorem SetL.at (h : SetL P k w b l) {w' : World} (e : w'.heap[b]? = w.heap[b]?) : SetL P k w' b l := by
  obtain ⟨D, ⟨es, c, h1, h2⟩, h3⟩ := h
  exact ⟨D, ⟨es, c, e.trans h1, h2⟩, h3⟩
theorem SetL.made (w : World) : SetL P k (w.alloc (.map #[] 0)) w.heap.size [] := ⟨_, World.ownsMap_made _ _ _ _, fun _ => by simp; rfl, rfl⟩
theorem SetL.lt (h : SetL P k w b l) : b < w.heap.size := h.set.lt
theorem SetL.store {t e : TypeId} {key : Value} {y : Lit} (h : SetL P k w b l) (K : Keyed P k) (ht : P.underlying t = some (.map k e)) (hN : l.length < maxLen) (hkey : keyOf P k key = some y) (hy : y ∉ l) :
    ∃ w', (Instr.mapUpdate t (.map (some b)) key (.agg #[])).run P w = .ok () w' ∧ SetL P k w' b (l ++ [y]) ∧ w.mapTurned w' b := by
  obtain ⟨D, ho, h2, h3⟩ := h
  obtain ⟨w', g1, g2, g3⟩ := ho.store K ht hN hkey unitElem_mk
  refine ⟨w', g1, ⟨_, by simpa using g2, fun x => ?_, ?_⟩, g3⟩
  · by_cases e1 : x = y
    · subst e1
      rw [has_put_same ho.isMap (K.key hkey)]
      simp
    · rw [has_put_other e1, h2]
      simp [e1]
  · rw [size_put (ho.tidy K), h2]
    simp [hy, h3]
end

theorem cell_one (w : World) (v : Value) (t : TypeId) : ∀ j u, [v][j]? = some u → (w.alloc (.cells #[v] t)).cell? ((⟨w.heap.size, 0, none⟩ : Addr).add j) = some u := by
  intro j u hj
  obtain rfl : j = 0 := by have := (List.getElem?_eq_some_iff.1 hj).1; simpa using this
  simp at hj
  subst hj
  have h1 := (MapKept.heap_alloc w (.cells #[v] t)).1
  show (w.alloc (.cells #[v] t)).cell? ⟨w.heap.size, 0, none⟩ = some v
  unfold World.cell?
  rw [h1]
  rfl
theorem own_last {w : World} {B e n c : Nat} {va : Option Addr} {xs : List Value} {x : Value} (h : w.ownsRow B e 1 (.slice va (n + 1) c) (n + 1) (xs ++ [x])) :
    ∃ g, va = some ⟨g, 0, none⟩ ∧ w.ownsRow B e 1 (.slice (some ⟨g, 0, none⟩) n c) n xs ∧ w.cell? ⟨g, n, none⟩ = some x ∧ n + 1 ≤ c := by
  have h0 := h
  rcases h.2 with ⟨h1, _⟩ | ⟨g, cap, cur, hv, h2, h3, h4, h5, h6, h7⟩
  · cases h1
  · cases hv
    have hl : xs.length = n := by have := h.1; simp at this; omega
    have e7 : cur.toList.take (n * 1) = xs := by
      have := congrArg (List.take n) h7
      rw [List.take_take] at this
      simpa [hl, Nat.min_eq_left (Nat.le_succ n)] using this
    refine ⟨g, rfl, ⟨by simp [hl], .inr ⟨g, c, cur, rfl, h2, h3, by omega, h5, h6, e7⟩⟩, ?_, h4⟩
    have := h0.cells (g := g) rfl n x (by simp [← hl])
    by_cases hn : n = 0
    · subst hn; simpa [Addr.add] using this
    · simpa [Addr.add, hn] using this
theorem row_at {w w' : World} {B e n : Nat} {v : Value} {xs : List Value} (h : w.ownsRow B e 1 v n xs) (k : ∀ i, v.ownBlock = some i → w'.heap[i]? = w.heap[i]?) : w'.ownsRow B e 1 v n xs := by
  refine ⟨h.1, ?_⟩
  rcases h.2 with h1 | ⟨g, cap, cur, rfl, h2, h3, h4⟩
  · exact .inl h1
  · exact .inr ⟨g, cap, cur, rfl, h2, (k g rfl).trans h3, h4⟩
theorem row_kind {w : World} {B e n : Nat} {v : Value} {xs : List Value} (h : w.ownsRow B e 1 v n xs) {i : Nat} (hi : v.ownBlock = some i) : ∃ cur, w.heap[i]? = some (.cells cur e) ∧ B ≤ i := by
  rcases h.2 with ⟨rfl, _⟩ | ⟨g, cap, cur, rfl, h2, h3, h4⟩
  · simp [Value.ownBlock] at hi
  · simp [Value.ownBlock] at hi
    subst hi
    exact ⟨cur, h3, h2⟩

theorem RngF.row {P : Program} {k : TypeId} {W W' : World} {b r N cnt : Nat} {g left : Lit → Bool} {B e n : Nat} {v : Value} {xs : List Value} (h : RngF P k W b r N g left cnt) (hr : W.ownsRow B e 1 v n xs) (hg : W.grownBy W' v.ownBlock) : RngF P k W' b r N g left cnt := by
  refine h.at (hg.block _ h.set.lt fun e => ?_) (hg.block _ h.lt fun e => ?_)
  · obtain ⟨cur, h1, _⟩ := row_kind hr e.symm
    obtain ⟨es, c', h3⟩ := h.set.blk
    rw [h1] at h3
    cases h3
  · obtain ⟨cur, h1, _⟩ := row_kind hr e.symm
    obtain ⟨_, _, _, _, h3⟩ := h.iter
    rw [h1] at h3
    cases h3


end Go.Proofs.YtclppfljengnbaaGreat.Gr
