/-
  Rows of records whose own rows may be written.
-/
import Derived.Test.YtnejcjebepidcaaMg
namespace Go.Proofs.Ytnejcjebepidcaa
open Go.RowKit

/-- Blocks of transactions and of pages stay such blocks. -/
def Kinds (w w' : World) : Prop := ∀ (k : Nat) (c : Array Value) (t : Nat), (t = 65 ∨ t = 67) → w.heap[k]? = some (Obj.cells c t) → ∃ c', w'.heap[k]? = some (Obj.cells c' t) ∧ c'.size = c.size
theorem Kinds.refl (w : World) : Kinds w w := fun _ c _ _ h => ⟨c, h, rfl⟩
theorem Kinds.trans {w w1 w2 : World} (h : Kinds w w1) (k : Kinds w1 w2) : Kinds w w2 := fun i c t ht hc => by
  obtain ⟨c1, h1, e1⟩ := h i c t ht hc
  obtain ⟨c2, h2, e2⟩ := k i c1 t ht h1
  exact ⟨c2, h2, e2.trans e1⟩
theorem Kinds.below {w w' : World} (h : Below w.heap.size w w') : Kinds w w' := fun k c _ _ hc => ⟨c, (h.block k (Array.getElem?_eq_some_iff.1 hc).1).trans hc, rfl⟩
theorem Kinds.set (w : World) (g j : Nat) (u : Value) : Kinds w (w.setCell ⟨g, j, none⟩ u) := fun k c t _ hc => by
  by_cases e : k = g
  · subst e
    exact ⟨_, heap_setCell_same w k j c t u hc, by simp⟩
  · exact ⟨c, (heap_setCell_other w ⟨g, j, none⟩ k u e).trans hc, rfl⟩
theorem row_kinds {w w' : World} {B e size n : Nat} {v : Value} (h : ∃ xs, w.ownsRow B e size v n xs) (hk : Kinds w w') (he : e = 65 ∨ e = 67) : ∃ xs, w'.ownsRow B e size v n xs := by
  obtain ⟨xs, h1, h2⟩ := h
  rcases h2 with ⟨rfl, rfl⟩ | ⟨g, cap, cur, rfl, q, hg, r1, r2, r3, r4⟩
  · exact ⟨xs, h1, .inl ⟨rfl, rfl⟩⟩
  · obtain ⟨c', hc', es⟩ := hk g cur e he hg
    exact ⟨c'.toList.take (n * size), by rw [List.length_take, Array.length_toList, es, r3, Nat.min_eq_left (Nat.mul_le_mul_right _ r1)], .inr ⟨g, cap, c', rfl, q, hc', r1, r2, es.trans r3, rfl⟩⟩
theorem row_low {w : World} {B B' e size n : Nat} {v : Value} {xs : List Value} (h : w.ownsRow B e size v n xs) (hb : B' ≤ B) : w.ownsRow B' e size v n xs := by
  obtain ⟨h1, h2⟩ := h
  rcases h2 with h2 | ⟨g, cap, cur, e, q, r⟩
  · exact ⟨h1, .inl h2⟩
  · exact ⟨h1, .inr ⟨g, cap, cur, e, by omega, r⟩⟩

structure Wn (W : World) (B : Nat) (r : Rc) (p : Pl) : Prop where
  t : ∃ xs, W.ownsRow B 65 3 (.slice p.ta r.txns.length p.tc) r.txns.length xs
  d : ∃ xs, W.ownsRow B 67 2 (.slice p.da r.dirty.length p.dc) r.dirty.length xs
theorem Wn.kinds {W W' : World} {B : Nat} {r : Rc} {p : Pl} (h : Wn W B r p) (hk : Kinds W W') : Wn W' B r p := ⟨row_kinds h.t hk (.inl rfl), row_kinds h.d hk (.inr rfl)⟩
def Wr (W : World) (B : Nat) (v : Value) (out : List Rc) : Prop :=
  ∃ qs : List (Rc × Pl), qs.map (·.1) = out ∧ W.ownsRow B 46 12 v out.length (qs.flatMap fun q => recL q.1 q.2) ∧ ∀ q, q ∈ qs → Wn W B q.1 q.2
theorem Wr.nil (w : World) (B : Nat) : Wr w B (.slice none 0 0) [] := ⟨[], rfl, World.ownsRow_nil _ _ _ _, by simp⟩
theorem AllOk.low {W : World} {B B' : Nat} {v : Value} {out : List Rc} (h : AllOk W B v out) (hb : B' ≤ B) : AllOk W B' v out := by
  obtain ⟨qs, h1, h2, h3⟩ := h
  exact ⟨qs, h1, row_low h2 hb, fun q hq => (h3 q hq).low hb⟩
theorem AllOk.wr {W : World} {B : Nat} {v : Value} {out : List Rc} (h : AllOk W B v out) : Wr W B v out := by
  obtain ⟨qs, h1, h2, h3⟩ := h
  exact ⟨qs, h1, h2, fun q hq => ⟨⟨_, (h3 q hq).t⟩, ⟨_, (h3 q hq).d⟩⟩⟩
theorem Wr.step {W W' : World} {B : Nat} {v : Value} {out : List Rc} (h : Wr W B v out) (hb : ∀ (k : Nat) (c : Array Value), W.heap[k]? = some (Obj.cells c 46) → W'.heap[k]? = W.heap[k]?) (hk : Kinds W W') : Wr W' B v out := by
  obtain ⟨qs, h1, h2, h3⟩ := h
  exact ⟨qs, h1, own_stay h2 (fun k c _ hc => hb k c hc), fun q hq => (h3 q hq).kinds hk⟩
theorem Wr.below {W W' : World} {B : Nat} {v : Value} {out : List Rc} (h : Wr W B v out) (hb : Below W.heap.size W W') : Wr W' B v out := h.step (fun k _ hc => hb.block k (Array.getElem?_eq_some_iff.1 hc).1) (Kinds.below hb)
theorem Wr.set {W : World} {B g j t : Nat} {c : Array Value} {v u : Value} {out : List Rc} (h : Wr W B v out) (hg : W.heap[g]? = some (.cells c t)) (ht : t ≠ 46) : Wr (W.setCell ⟨g, j, none⟩ u) B v out :=
  h.step (fun k c' hc => heap_setCell_other W ⟨g, j, none⟩ k u (fun e => by
    simp only at e
    subst e
    rw [hc] at hg
    injection hg with hg
    injection hg with _ hg
    exact ht hg.symm)) (Kinds.set _ _ _ _)
theorem Wr.shape {W : World} {B : Nat} {v : Value} {out : List Rc} (h : Wr W B v out) : ∃ a c, v = .slice a out.length c := by
  obtain ⟨qs, _, h2, _⟩ := h
  exact ownsRow_shape h2
theorem Wr.get {W : World} {B c : Nat} {a : Option Addr} {out : List Rc} (h : Wr W B (.slice a out.length c) out) (i : Nat) (hi : i < out.length) : ∃ g p, a = some ⟨g, 0, none⟩ ∧ At12 W g (i * 12) out[i] p ∧ Wn W B out[i] p ∧ ∃ cs, W.heap[g]? = some (.cells cs 46) := by
  obtain ⟨qs, rfl, h2, h3⟩ := h
  rcases own_addr h2 with ⟨rfl, e, _⟩ | ⟨g, cur, rfl, _, hg, _⟩
  · omega
  · have hi2 : i < qs.length := by simpa using hi
    have hq : qs[i]? = some qs[i] := List.getElem?_eq_getElem hi2
    refine ⟨g, qs[i].2, rfl, ?_, ?_, cur, hg⟩
    · rw [List.getElem_map]; exact own_at12 h2 hq
    · rw [List.getElem_map]; exact h3 _ (List.getElem_mem hi2)

/-- A row that is appended, apart from the one that grows. -/
structure Src (W : World) (B : Nat) (v rv : Value) (out : List Rc) : Prop where
  all : AllOk W B rv out
  apart : ∀ k, v.ownBlock = some k → rv.ownBlock ≠ some k
theorem AllOk.lt {W : World} {B : Nat} {v : Value} {out : List Rc} (h : AllOk W B v out) : ∀ k, v.ownBlock = some k → B ≤ k ∧ k < W.heap.size := by
  obtain ⟨qs, _, h2, _⟩ := h
  exact h2.lt
theorem Wr.lt {W : World} {B : Nat} {v : Value} {out : List Rc} (h : Wr W B v out) : ∀ k, v.ownBlock = some k → B ≤ k ∧ k < W.heap.size := by
  obtain ⟨qs, _, h2, _⟩ := h
  exact h2.lt
theorem Wr.kind {W : World} {B : Nat} {v : Value} {out : List Rc} (h : Wr W B v out) {k t : Nat} {c : Array Value} (hk : v.ownBlock = some k) (hc : W.heap[k]? = some (.cells c t)) : t = 46 := by
  obtain ⟨qs, _, h2, _⟩ := h
  obtain ⟨c', fz, hc'⟩ := Lib.ownsRow_kind h2 k hk
  rw [hc] at hc'
  injection hc' with hc'
  injection hc' with _ hc'
theorem Wr.kinds {W y : World} {B : Nat} {v : Value} {out : List Rc} (h : Wr W B v out) (hg : W.grownBy y v.ownBlock) : Kinds W y := fun k c t ht hc => ⟨c, (hg.block k (Array.getElem?_eq_some_iff.1 hc).1 (fun e => by have := h.kind e.symm hc; omega)).trans hc, rfl⟩
theorem Src.grow {W y : World} {B : Nat} {v v' rv : Value} {all out : List Rc} (h : Src W B v rv out) (hw : Wr W B v all) (hg : W.grownBy y v.ownBlock) (hf : Fresh W v v') : Src y B v' rv out := by
  obtain ⟨⟨qs, h1, h2, h3⟩, ha⟩ := h
  refine ⟨⟨qs, h1, own_stay h2 (fun k c hk hc => hg.block k (Array.getElem?_eq_some_iff.1 hc).1 (fun e => ha k e.symm hk)), fun q hq => (h3 q hq).stay (fun k c hc => ?_)⟩, fun k hk hr => ?_⟩
  · rcases hc with hc | hc
    · exact hg.block k (Array.getElem?_eq_some_iff.1 hc).1 (fun e => by have := hw.kind e.symm hc; omega)
    · exact hg.block k (Array.getElem?_eq_some_iff.1 hc).1 (fun e => by have := hw.kind e.symm hc; omega)
  · rcases hf k hk with e | e
    · exact ha k e hr
    · have := (h2.lt k hr).2
      omega
theorem src_of {W0 W : World} {B : Nat} {v rv : Value} {all out : List Rc} (hw : Wr W0 B v all) (h : AllOk W W0.heap.size rv out) (hB : B ≤ W0.heap.size) : Src W B v rv out :=
  ⟨h.low hB, fun k hk hr => by have := (hw.lt k hk).2; have := (h.lt k hr).1; omega⟩

theorem wpList_app46 (w : World) {ops : Array Oper} {rest : List Oper} {o : Oper} {a : Act} {Q : Exit → Act → World → Prop} (hgd : o.guard = none) (s x : Operand)
    (ho : o.op = .call { callee := .builtin .append, args := #[s, x], argTypes := #[26, 26] })
    (B : Nat) (v rv : Value) (all out : List Rc) (hs : a.eval s = v) (hx : a.eval x = rv) (hw : Wr w B v all) (hr : Src w B v rv out) (hl : all.length + out.length ≤ 1000000) (hB : B ≤ w.heap.size)
    (h : ∀ (L : List Rc) a' c' w', L.length = all.length + out.length → Wr w' B (.slice a' L.length c') L → w.grownBy w' v.ownBlock → Fresh w v (.slice a' L.length c') → wpList Try.prog ops Q rest (a.put o.dst (.slice a' L.length c')) w') : wpList Try.prog ops Q (o :: rest) a w := by
  obtain ⟨i0, hi0, hz0, hz1, hz2⟩ := info_parts Try.info46
  have hw0 := hw
  obtain ⟨qs, hq1, hq2, hq3⟩ := hw
  obtain ⟨ps, hp1, hp2, hp3⟩ := hr.all
  refine wpList_append_row w hgd s x 26 ho B 46 i0 _ 12 152 Try.underlying26 hi0 hz0 hz1 hz2 rfl (by decide) v all.length _ hs hq2 rv out.length _ hx hp2 (fun u hu => ?_) (by unfold maxLen; omega) (by omega) hB ?_
  · obtain ⟨q, _, hq⟩ := List.mem_flatMap.1 hu
    exact recL_one _ _ u hq
  · intro v' w' hown hg hf
    obtain ⟨a', c', rfl⟩ := ownsRow_shape hown
    have hk := hw0.kinds hg
    rw [← List.length_append] at hown hf ⊢
    refine h (all ++ out) a' c' w' (by simp) ⟨qs ++ ps, by simp [hq1, hp1], ?_, fun q hq => ?_⟩ hg hf
    · rw [List.flatMap_append]; exact hown
    · rcases List.mem_append.1 hq with hq | hq
      · exact (hq3 q hq).kinds hk
      · exact Wn.kinds ⟨⟨_, (hp3 q hq).t⟩, ⟨_, (hp3 q hq).d⟩⟩ hk

/-- A place of a row that may be written. -/
structure Spot (W : World) (B g j t : Nat) : Prop where
  base : B ≤ g
  lt : g < W.heap.size
  blk : ∃ cs : Array Value, W.heap[g]? = some (.cells cs t)
  cell : ∃ u, W.cell? ⟨g, j, none⟩ = some u
  free : W.frozen? ⟨g, j, none⟩ = false
theorem row_spot {W : World} {B e size n c : Nat} {a : Option Addr} {xs : List Value} (h : W.ownsRow B e size (.slice a n c) n xs) (i k : Nat) (hi : i < n) (hk : k < size) : ∃ g, a = some ⟨g, 0, none⟩ ∧ Spot W B g (i * size + k) e := by
  rcases h.2 with ⟨e1, e2⟩ | ⟨g, cap, cur, e1, hB, hg, h1, h2, h3, h4⟩
  · omega
  · simp at e1
    obtain ⟨rfl, rfl⟩ := e1
    have hlt : i * size + k < cur.size := by
      rw [h3]
      calc i * size + k < i * size + size := by omega
        _ = (i + 1) * size := by rw [Nat.add_mul, Nat.one_mul]
        _ ≤ c * size := Nat.mul_le_mul_right _ (by omega)
    refine ⟨g, rfl, hB, (Array.getElem?_eq_some_iff.1 hg).1, ⟨cur, hg⟩, ⟨cur[i * size + k], ?_⟩, ?_⟩
    · simp [World.cell?, hg, hlt]
    · simp [World.frozen?, hg]
theorem row_len {W : World} {B e size n : Nat} {v : Value} {xs : List Value} (h : W.ownsRow B e size v n xs) : (n : Int) ≤ 9223372036854775807 := by
  rcases h.2 with ⟨_, rfl⟩ | ⟨g, cap, cur, _, _, _, h1, h2, _⟩
  · omega
  · unfold maxLen at h2
    omega

end Go.Proofs.Ytnejcjebepidcaa
