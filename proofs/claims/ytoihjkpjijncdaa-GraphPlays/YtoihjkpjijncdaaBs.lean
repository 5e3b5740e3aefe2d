/-
  GraphBreaks: what its loops hold.
-/
import Derived.Test.YtoihjkpjijncdaaAt
namespace Go.Proofs.Ytoihjkpjijncdaa
open Go.RowKit Go.Maps

structure Br (w : World) (p : Nat) (E : List (Lit × Lit)) (S : Nat → Prop) (G : List Int) (v : Value) (W : World) : Prop where
  gr : Gr 3 61 W p 60 E S
  low : Below w.heap.size w W
  new : ∀ i, S i → w.heap.size ≤ i
  row : W.ownsRow w.heap.size 3 1 v G.length (G.map enI)
section
variable {w W W' : World} {p : Nat} {E E' : List (Lit × Lit)} {S S' : Nat → Prop} {G : List Int} {v v' : Value}
theorem Br.below (h : Br w p E S G v W) (hb : Below W.heap.size W W') : Br w p E S G v W' := ⟨h.gr.below hb, below_next h.low h.low.size hb, h.new, row_below h.row hb⟩
theorem Br.cut (h : Br w p E S G v W) (g : Gr 3 61 W' p 60 E' S') (t : Turn S W W') (hs : ∀ i, S' i → S i) : Br w p E' S' G v W' :=
  ⟨g, below_trans h.low (t.below h.low.size fun i hi hS => by have := h.new i hS; omega), fun i hi => h.new i (hs i hi), row_turn h.row h.gr t⟩
theorem Br.push (h : Br w p E S G v W) {x : Int} (hg : W.grownBy W' v.ownBlock) (hr : W'.ownsRow w.heap.size 3 1 v' (G.length + 1) (G.map enI ++ [enI x])) : Br w p E S (G ++ [x]) v' W' := by
  refine ⟨h.gr.at fun i hi => hg.block i (h.gr.lt hi) fun e => ?_, h.low.grown hg h.low.size fun j hj => (h.row.lt j hj).1, h.new, by simpa using hr⟩
  obtain ⟨cur, h1, _⟩ := row_kind h.row e.symm
  exact h.gr.not_row h1 (by decide) hi
end

structure B3 (w : World) (p : Nat) (E : List (Lit × Lit)) (S : Nat → Prop) (G : List Int) (v : Value) (m : List (Int × Int)) (s : Value) (W : World) : Prop where
  br : Br w p E S G v W
  seen : W.ownsRow w.heap.size 27 2 s m.length (m.flatMap eC)
section
variable {w W W' : World} {p : Nat} {E : List (Lit × Lit)} {S : Nat → Prop} {G : List Int} {v s s' : Value} {m : List (Int × Int)}
theorem seen_kind {B e n : Nat} {xs : List Value} (h : W.ownsRow B e 2 v n xs) {i : Nat} (hi : v.ownBlock = some i) : ∃ cur, W.heap[i]? = some (.cells cur e) := by
  rcases h.2 with ⟨rfl, _⟩ | ⟨g, cap, cur, rfl, h2, h3, h4⟩
  · simp [Value.ownBlock] at hi
  · simp [Value.ownBlock] at hi
    subst hi
    exact ⟨cur, h3⟩
theorem seen_at {B e n : Nat} {xs : List Value} (h : W.ownsRow B e 2 v n xs) (k : ∀ i, v.ownBlock = some i → W'.heap[i]? = W.heap[i]?) : W'.ownsRow B e 2 v n xs := by
  refine ⟨h.1, ?_⟩
  rcases h.2 with h1 | ⟨g, cap, cur, rfl, h2, h3, h4⟩
  · exact .inl h1
  · exact .inr ⟨g, cap, cur, rfl, h2, (k g rfl).trans h3, h4⟩
theorem B3.below (h : B3 w p E S G v m s W) (hb : Below W.heap.size W W') : B3 w p E S G v m s W' := ⟨h.br.below hb, seen_at h.seen fun i hi => by
  obtain ⟨cur, h1⟩ := seen_kind h.seen hi
  exact hb.block i (Array.getElem?_eq_some_iff.1 h1).1⟩
theorem B3.push (h : B3 w p E S G v m s W) {e : Int × Int} (hg : W.grownBy W' s.ownBlock) (hr : W'.ownsRow w.heap.size 27 2 s' (m.length + 1) (m.flatMap eC ++ eC e)) : B3 w p E S G v (m ++ [e]) s' W' := by
  refine ⟨⟨h.br.gr.at fun i hi => hg.block i (h.br.gr.lt hi) fun e => ?_, h.br.low.grown hg h.br.low.size fun j hj => (h.seen.lt j hj).1, h.br.new, row_at h.br.row fun i hi => ?_⟩, by simpa using hr⟩
  · obtain ⟨cur, h1⟩ := seen_kind h.seen e.symm
    exact h.br.gr.not_row h1 (by decide) hi
  · obtain ⟨cur, h1, _⟩ := row_kind h.br.row hi
    refine hg.block i (Array.getElem?_eq_some_iff.1 h1).1 fun e => ?_
    obtain ⟨cur', h2⟩ := seen_kind h.seen e.symm
    rw [h1] at h2
    cases h2
end

end Go.Proofs.Ytoihjkpjijncdaa
