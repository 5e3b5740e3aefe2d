/-
  A family of pages.
-/
import Derived.Test.YtebchgoaelamcaaDoorUc
import Derived.Test.YtebchgoaelamcaaDoorUb
import Derived.Test.YtebchgoaelamcaaDoorKe
namespace Go.Proofs.YtebchgoaelamcaaDoor
open Go.RowKit
set_option maxRecDepth 100000

/-- A page of a family: its block, its slots' row, its slots. -/
structure En where
  p : Nat
  v : Value
  l : List Cl
instance : Inhabited En := ⟨⟨0, .slice none 0 0, []⟩⟩

theorem own_kind {w : World} {B : Nat} {t : TypeId} {s n : Nat} {v : Value} {xs : List Value} (h : w.ownsRow B t s v n xs) (k : Nat) (hk : v.ownBlock = some k) : ∃ cur, w.heap[k]? = some (.cells cur t (0, 0)) := by
  rcases h.2 with ⟨h1, _⟩ | ⟨g, cap, cur, h1, _, hh, _⟩
  · subst h1; simp [Value.ownBlock] at hk
  · subst h1
    simp [Value.ownBlock] at hk
    subst hk
    exact ⟨cur, hh⟩
theorem own_same {w w' : World} {B : Nat} {t : TypeId} {s n : Nat} {v : Value} {xs : List Value} (h : w.ownsRow B t s v n xs) (hk : ∀ k, v.ownBlock = some k → w'.heap[k]? = w.heap[k]?) : w'.ownsRow B t s v n xs := by
  refine ⟨h.1, ?_⟩
  rcases h.2 with h1 | ⟨g, cap, cur, h1, hB, hh, r⟩
  · exact .inl h1
  · refine .inr ⟨g, cap, cur, h1, hB, ?_, r⟩
    rw [hk g (by rw [h1]; simp [Value.ownBlock])]
    exact hh
theorem PgOk.same {w w' : World} {B p : Nat} {id : Int} {lsn : Nat} {v : Value} {l : List Cl} (h : PgOk w B p id lsn v l) (hp : w'.heap[p]? = w.heap[p]?) (hv : ∀ k, v.ownBlock = some k → w'.heap[k]? = w.heap[k]?) : PgOk w' B p id lsn v l :=
  ⟨by rw [hp]; exact h.blk, own_same h.own hv, h.ne, h.base⟩

structure Fm (W : World) (B : Nat) (es : List En) : Prop where
  ok : ∀ i (h : i < es.length), PgOk W B es[i].p (i : Int) 0 es[i].v es[i].l
  good : ∀ i (h : i < es.length), GoodL es[i].l
  ne : ∀ i j (hi : i < es.length) (hj : j < es.length), i ≠ j → es[i].p ≠ es[j].p ∧ ∀ k, es[i].v.ownBlock = some k → es[j].v.ownBlock ≠ some k
theorem Fm.below {W W' : World} {B : Nat} {es : List En} (h : Fm W B es) (hb : Below W.heap.size W W') : Fm W' B es :=
  ⟨fun i hi => (h.ok i hi).below hb (Nat.le_refl _), h.good, h.ne⟩
/-- A row of another kind is turned. -/
theorem Fm.grown {W W' : World} {B : Nat} {es : List En} (h : Fm W B es) {row : Option Nat} (hg : W.grownBy W' row) {t : TypeId} (h1 : t ≠ 88) (h2 : t ≠ 55) (ht : ∀ k, row = some k → ∃ cur, W.heap[k]? = some (.cells cur t (0, 0))) : Fm W' B es :=
  ⟨fun i hi => by
    have hp := h.ok i hi
    refine hp.same (hg.block _ (lt_of_blk hp.blk) (fun e => ?_)) (fun k hk => hg.block _ (ownsRow_lt hp.own k hk) (fun e => ?_))
    · obtain ⟨cur, hc⟩ := ht _ e.symm
      rw [hp.blk] at hc
      injection hc with hc
      injection hc with _ hc _
      exact h1 hc.symm
    · obtain ⟨cur, hc⟩ := ht _ e.symm
      obtain ⟨cur', hc'⟩ := own_kind hp.own k hk
      rw [hc'] at hc
      injection hc with hc
      injection hc with _ hc _
      exact h2 hc.symm, h.good, h.ne⟩
/-- A new page. -/
theorem Fm.add {W W' : World} {B : Nat} {es : List En} (h : Fm W B es) (hb : Below W.heap.size W W') {p : Nat} (hp : PgOk W' B p (es.length : Int) 0 (.slice none 0 0) []) (hn : W.heap.size ≤ p) : Fm W' B (es ++ [⟨p, .slice none 0 0, []⟩]) := by
  have h' := h.below hb
  refine ⟨fun i hi => ?_, fun i hi => ?_, fun i j hi hj hne => ?_⟩
  · by_cases e : i < es.length
    · rw [List.getElem_append_left e]; exact h'.ok i e
    · have e' : i = es.length := by simp at hi; omega
      subst e'
      simpa using hp
  · by_cases e : i < es.length
    · rw [List.getElem_append_left e]; exact h'.good i e
    · have e' : i = es.length := by simp at hi; omega
      subst e'
      simpa using goodL_nil
  · by_cases e : i < es.length
    · rw [List.getElem_append_left e]
      by_cases e2 : j < es.length
      · rw [List.getElem_append_left e2]; exact h'.ne i j e e2 hne
      · have e' : j = es.length := by simp at hj; omega
        subst e'
        have := lt_of_blk (h.ok i e).blk
        refine ⟨by simp; omega, fun k _ => by simp [Value.ownBlock]⟩
    · have e' : i = es.length := by simp at hi; omega
      subst e'
      have e2 : j < es.length := by simp at hj; omega
      rw [List.getElem_append_left e2]
      have := lt_of_blk (h.ok j e2).blk
      exact ⟨by simp; omega, fun k hk => by simp [Value.ownBlock] at hk⟩
/-- One page is turned. -/
theorem Fm.turn {W W' : World} {B : Nat} {es : List En} (h : Fm W B es) (i : Nat) (hi : i < es.length) {v' : Value} {l' : List Cl} (hp : PgOk W' B es[i].p (i : Int) 0 v' l') (hg : GoodL l') (ht : Touch es[i].p es[i].v.ownBlock W W') (hf : Fresh W es[i].v v') : Fm W' B (es.set i ⟨es[i].p, v', l'⟩) := by
  have hlt : ∀ j (hj : j < es.length), es[j].p < W.heap.size := fun j hj => lt_of_blk (h.ok j hj).blk
  have hkp : ∀ j (hj : j < es.length), j ≠ i → PgOk W' B es[j].p (j : Int) 0 es[j].v es[j].l := fun j hj hne => by
    have hpj := h.ok j hj
    refine hpj.same (ht.block _ (hlt j hj) (h.ne j i hj hi hne).1 (fun e => ?_)) (fun k hk => ht.block _ (ownsRow_lt hpj.own k hk) (fun e => ?_) (fun e => ?_))
    · obtain ⟨cur, hc⟩ := own_kind (h.ok i hi).own _ e.symm
      rw [hpj.blk] at hc
      injection hc with hc
      injection hc with _ hc _
      cases hc
    · obtain ⟨cur, hc⟩ := own_kind hpj.own k hk
      rw [e, (h.ok i hi).blk] at hc
      injection hc with hc
      injection hc with _ hc _
      cases hc
    · exact (h.ne j i hj hi hne).2 k hk e.symm
  refine ⟨fun j hj => ?_, fun j hj => ?_, fun j k hj hk hne => ?_⟩
  · have hj' : j < es.length := by simpa using hj
    by_cases e : j = i
    · subst e; rw [List.getElem_set_self]; exact hp
    · rw [List.getElem_set_ne (by omega)]; exact hkp j hj' e
  · have hj' : j < es.length := by simpa using hj
    by_cases e : j = i
    · subst e; rw [List.getElem_set_self]; exact hg
    · rw [List.getElem_set_ne (by omega)]; exact h.good j hj'
  · have hj' : j < es.length := by simpa using hj
    have hk' : k < es.length := by simpa using hk
    by_cases e : j = i
    · subst e
      rw [List.getElem_set_self, List.getElem_set_ne (by omega)]
      refine ⟨(h.ne j k hj' hk' hne).1, fun b hb e => ?_⟩
      rcases hf b hb with h1 | h1
      · exact (h.ne j k hj' hk' hne).2 b h1 e
      · have := ownsRow_lt (h.ok k hk').own b e
        omega
    · by_cases e2 : k = i
      · subst e2
        rw [List.getElem_set_ne (by omega), List.getElem_set_self]
        refine ⟨(h.ne j k hj' hk' hne).1, fun b hb e => ?_⟩
        rcases hf b e with h1 | h1
        · exact (h.ne j k hj' hk' hne).2 b hb h1
        · have := ownsRow_lt (h.ok j hj').own b hb
          omega
      · rw [List.getElem_set_ne (by omega), List.getElem_set_ne (by omega)]
        exact h.ne j k hj' hk' hne

/-- The row of pointers to a family's pages. -/
def ptrs (es : List En) : List Value := es.map fun e => .pointer (some ⟨e.p, 0, none⟩)
def Row (W : World) (B : Nat) (a : Option Addr) (c : Nat) (es : List En) : Prop := W.ownsRow B 34 1 (.slice a es.length c) es.length (ptrs es)
def hnd (es : List En) : List (Option Addr × List Cl) := es.map fun e => (some ⟨e.p, 0, none⟩, e.l)
theorem Row.cell {W : World} {B : Nat} {a : Option Addr} {c : Nat} {es : List En} (h : Row W B a c es) (i : Nat) (hi : i < es.length) : ∃ b, a = some ⟨b, 0, none⟩ ∧ b < W.heap.size ∧ W.cell? ⟨b, i, none⟩ = some (.pointer (some ⟨es[i].p, 0, none⟩)) := by
  rcases h.2 with ⟨h1, h2⟩ | ⟨g, cap, cur, h1, hB, hh, hc, hm, hs, ht⟩
  · omega
  · injection h1 with e1 e2 e3
    subst e1
    refine ⟨g, rfl, lt_of_blk hh, ?_⟩
    have h0 : (cur.toList.take (es.length * 1))[i]? = (ptrs es)[i]? := by rw [ht]
    rw [List.getElem?_take_of_lt (by omega)] at h0
    simp only [World.cell?, hh]
    rw [← Array.getElem?_toList, h0]
    simp [ptrs, hi]
theorem Row.slG {W : World} {B : Nat} {a : Option Addr} {c : Nat} {es : List En} (h : Row W B a c es) (hf : Fm W B es) : SlG W a (hnd es) := by
  refine ⟨fun i hi => ?_, fun i hi => ?_⟩
  · have hi' : i < es.length := by simpa [hnd] using hi
    obtain ⟨b, e, hl, hc⟩ := h.cell i hi'
    exact ⟨b, 0, e, hl, by simpa [hnd] using hc⟩
  · have hi' : i < es.length := by simpa [hnd] using hi
    exact .inr ⟨B, es[i].p, i, 0, es[i].v, by simp [hnd], by simpa [hnd] using hf.ok i hi', by simpa [hnd] using hf.good i hi'⟩
theorem Row.below {W W' : World} {B : Nat} {a : Option Addr} {c : Nat} {es : List En} (h : Row W B a c es) (hb : Below W.heap.size W W') : Row W' B a c es := ownsRow_below h hb (fun k hk => ownsRow_lt h k hk)
/-- A page is turned: the row stays. -/
theorem Row.turn {W W' : World} {B : Nat} {a : Option Addr} {c : Nat} {es : List En} (h : Row W B a c es) (hf : Fm W B es) (i : Nat) (hi : i < es.length) (v' : Value) (l' : List Cl) (ht : Touch es[i].p es[i].v.ownBlock W W') : Row W' B a c (es.set i ⟨es[i].p, v', l'⟩) := by
  have h1 : Row W' B a c es := own_same h (fun k hk => by
    obtain ⟨cur, hc⟩ := own_kind h k hk
    refine ht.block _ (ownsRow_lt h k hk) (fun e => ?_) (fun e => ?_)
    · rw [e, (hf.ok i hi).blk] at hc
      injection hc with hc
      injection hc with _ hc _
      cases hc
    · obtain ⟨cur', hc'⟩ := own_kind (hf.ok i hi).own k e.symm
      rw [hc'] at hc
      injection hc with hc
      injection hc with _ hc _
      cases hc)
  have e : ptrs (es.set i ⟨es[i].p, v', l'⟩) = ptrs es := by
    apply List.ext_getElem (by simp [ptrs])
    intro j h1 h2
    simp only [ptrs, List.getElem_map]
    by_cases e : j = i
    · subst e; rw [List.getElem_set_self]
    · rw [List.getElem_set_ne (by omega)]
  unfold Row at *
  rw [e, List.length_set]
  exact h1
end Go.Proofs.YtebchgoaelamcaaDoor
