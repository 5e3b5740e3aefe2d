/-
  A graph in memory: two maps of sets, by what edges are from and by what they are to.
-/
import Derived.Test.YtclppfljengnbaaGreatGMp
import Derived.Test.YtclppfljengnbaaGreatChecked
namespace Go.Proofs.YtclppfljengnbaaGreat.Gr
open Go.RowKit Go.Maps

/-- One direction: a map of sets in block A, told by the blocks f and by who is joined to whom. -/
structure Lk (k : TypeId) (w : World) (A N : Nat) (f : Lit → Option Nat) (F : Lit → Lit → Bool) : Prop where
  map : MapF Tryz.prog k w A N f
  set : ∀ x b, f x = some b → SetF Tryz.prog k w b N (F x) ∧ b ≠ A
  no : ∀ x, f x = none → ∀ y, F x y = false
  inj : ∀ x x' b, f x = some b → f x' = some b → x = x'

/-- The blocks of one direction. -/
def FootL (A : Nat) (f : Lit → Option Nat) (i : Nat) : Prop := i = A ∨ ∃ x, f x = some i

section
variable {k : TypeId} {w w' : World} {A N : Nat} {f : Lit → Option Nat} {F : Lit → Lit → Bool}

theorem Lk.foot_lt (h : Lk k w A N f F) {i : Nat} (hi : FootL A f i) : i < w.heap.size := by
  rcases hi with rfl | ⟨x, hx⟩
  · exact h.map.lt
  · exact (h.set x i hx).1.lt
theorem Lk.foot_map (h : Lk k w A N f F) {i : Nat} (hi : FootL A f i) : ∃ es c, w.heap[i]? = some (.map es c) := by
  rcases hi with rfl | ⟨x, hx⟩
  · exact h.map.blk
  · exact (h.set x i hx).1.blk
theorem Lk.at (h : Lk k w A N f F) (e : ∀ i, FootL A f i → w'.heap[i]? = w.heap[i]?) : Lk k w' A N f F :=
  ⟨h.map.at (e A (.inl rfl)), fun x b hx => ⟨(h.set x b hx).1.at (e b (.inr ⟨x, hx⟩)), (h.set x b hx).2⟩, h.no, h.inj⟩
theorem Lk.turn (h : Lk k w A N f F) {S : Nat → Prop} (t : Turn S w w') (hs : ∀ i, FootL A f i → ¬ S i) : Lk k w' A N f F :=
  h.at fun i hi => t.block i (h.foot_lt hi) (hs i hi)
theorem Lk.mono (h : Lk k w A N f F) {N' : Nat} (hn : N ≤ N') : Lk k w A N' f F :=
  ⟨h.map.mono hn, fun x b hx => ⟨(h.set x b hx).1.mono hn, (h.set x b hx).2⟩, h.no, h.inj⟩
theorem Lk.below (h : Lk k w A N f F) (b : Below w.heap.size w w') : Lk k w' A N f F := h.at fun i hi => b.block i (h.foot_lt hi)

/-- What is joined where. -/
noncomputable def upF (F : Lit → Lit → Bool) (x y : Lit) (v : Bool) : Lit → Lit → Bool := upd F x (upd (F x) y v)
end

/-- Who is joined to whom, by a list of edges. -/
noncomputable def outE (E : List (Lit × Lit)) (x y : Lit) : Bool := decide ((x, y) ∈ E)
noncomputable def inE (E : List (Lit × Lit)) (x y : Lit) : Bool := decide ((y, x) ∈ E)

/-- A graph: its pointer's block p, both directions, its edges. -/
structure GrA (k G : TypeId) (w : World) (p A B N : Nat) (E : List (Lit × Lit)) (f h : Lit → Option Nat) : Prop where
  blk : w.heap[p]? = some (.cells #[.map (some A), .map (some B), .int .i64 E.length] G)
  out : Lk k w A N f (outE E)
  inn : Lk k w B N h (inE E)
  apart : ∀ i, FootL A f i → ¬ FootL B h i
  nd : E.Nodup

def Foot (p A B : Nat) (f h : Lit → Option Nat) (i : Nat) : Prop := i = p ∨ FootL A f i ∨ FootL B h i

/-- A graph whose blocks are S. -/
def Gr (k G : TypeId) (w : World) (p N : Nat) (E : List (Lit × Lit)) (S : Nat → Prop) : Prop := ∃ A B f h, GrA k G w p A B N E f h ∧ S = Foot p A B f h

section
variable {k G : TypeId} {w w' : World} {p A B N : Nat} {E : List (Lit × Lit)} {f h : Lit → Option Nat} {S : Nat → Prop}

theorem GrA.lt (g : GrA k G w p A B N E f h) {i : Nat} (hi : Foot p A B f h i) : i < w.heap.size := by
  rcases hi with rfl | hi | hi
  · exact (Array.getElem?_eq_some_iff.1 g.blk).1
  · exact g.out.foot_lt hi
  · exact g.inn.foot_lt hi
theorem GrA.p_out (g : GrA k G w p A B N E f h) : ¬ FootL A f p := fun hi => by
  obtain ⟨es, c, e⟩ := g.out.foot_map hi
  rw [g.blk] at e
  cases e
theorem GrA.p_inn (g : GrA k G w p A B N E f h) : ¬ FootL B h p := fun hi => by
  obtain ⟨es, c, e⟩ := g.inn.foot_map hi
  rw [g.blk] at e
  cases e
theorem GrA.at (g : GrA k G w p A B N E f h) (e : ∀ i, Foot p A B f h i → w'.heap[i]? = w.heap[i]?) : GrA k G w' p A B N E f h :=
  ⟨(e p (.inl rfl)).trans g.blk, g.out.at fun i hi => e i (.inr (.inl hi)), g.inn.at fun i hi => e i (.inr (.inr hi)), g.apart, g.nd⟩
theorem Gr.lt (g : Gr k G w p N E S) {i : Nat} (hi : S i) : i < w.heap.size := by
  obtain ⟨A, B, f, h, g, rfl⟩ := g
  exact g.lt hi
theorem Gr.at (g : Gr k G w p N E S) (e : ∀ i, S i → w'.heap[i]? = w.heap[i]?) : Gr k G w' p N E S := by
  obtain ⟨A, B, f, h, g, rfl⟩ := g
  exact ⟨A, B, f, h, g.at e, rfl⟩
theorem Gr.turn (g : Gr k G w p N E S) {S' : Nat → Prop} (t : Turn S' w w') (hs : ∀ i, S i → ¬ S' i) : Gr k G w' p N E S := g.at fun i hi => t.block i (g.lt hi) (hs i hi)
theorem Gr.below (g : Gr k G w p N E S) (b : Below w.heap.size w w') : Gr k G w' p N E S := g.at fun i hi => b.block i (g.lt hi)
theorem Gr.nd (g : Gr k G w p N E S) : E.Nodup := by
  obtain ⟨A, B, f, h, g, rfl⟩ := g
  exact g.nd
theorem Gr.mono (g : Gr k G w p N E S) {N' : Nat} (hn : N ≤ N') : Gr k G w p N' E S := by
  obtain ⟨A, B, f, h, g, rfl⟩ := g
  exact ⟨A, B, f, h, ⟨g.blk, g.out.mono hn, g.inn.mono hn, g.apart, g.nd⟩, rfl⟩
/-- Of which make a block of a graph is. -/
theorem Gr.kind (g : Gr k G w p N E S) {i : Nat} (hi : S i) : (∃ es c, w.heap[i]? = some (.map es c)) ∨ ∃ cs, w.heap[i]? = some (.cells cs G) := by
  obtain ⟨A, B, f, h, g, rfl⟩ := g
  rcases hi with rfl | hi | hi
  · exact .inr ⟨_, g.blk⟩
  · exact .inl (g.out.foot_map hi)
  · exact .inl (g.inn.foot_map hi)
theorem Gr.not_row (g : Gr k G w p N E S) {i : Nat} {cs : Array Value} {e : TypeId} {fr : Nat × Nat} (hb : w.heap[i]? = some (.cells cs e fr)) (he : e ≠ G) : ¬ S i := fun hi => by
  rcases g.kind hi with ⟨es, c, h1⟩ | ⟨cs', h1⟩
  · rw [hb] at h1; cases h1
  · rw [hb] at h1; cases h1; exact he rfl
theorem Gr.p_in (g : Gr k G w p N E S) : S p := by
  obtain ⟨A, B, f, h, g, rfl⟩ := g
  exact .inl rfl
end

theorem outE_add (E : List (Lit × Lit)) (x y : Lit) : outE (E ++ [(x, y)]) = upF (outE E) x y true := by
  funext a b
  unfold upF outE upd
  by_cases h1 : a = x
  · subst h1
    by_cases h2 : b = y <;> simp [h2]
  · simp [h1]
theorem inE_add (E : List (Lit × Lit)) (x y : Lit) : inE (E ++ [(x, y)]) = upF (inE E) y x true := by
  funext a b
  unfold upF inE upd
  by_cases h1 : a = y
  · subst h1
    by_cases h2 : b = x <;> simp [h2]
  · simp [h1]
/-- An edge more. -/
noncomputable def addE (E : List (Lit × Lit)) (e : Lit × Lit) : List (Lit × Lit) := if e ∈ E then E else E ++ [e]
/-- Without an edge. -/
noncomputable def dropE (E : List (Lit × Lit)) (e : Lit × Lit) : List (Lit × Lit) := E.filter fun z => decide (z ≠ e)
theorem outE_drop (E : List (Lit × Lit)) (x y : Lit) : outE (dropE E (x, y)) = upF (outE E) x y false := by
  funext a b
  unfold upF outE upd dropE
  by_cases h1 : a = x
  · subst h1
    by_cases h2 : b = y <;> simp [h2]
  · simp [h1]
theorem inE_drop (E : List (Lit × Lit)) (x y : Lit) : inE (dropE E (x, y)) = upF (inE E) y x false := by
  funext a b
  unfold upF inE upd dropE
  by_cases h1 : a = y
  · subst h1
    by_cases h2 : b = x <;> simp [h2]
  · simp [h1]
theorem length_drop {E : List (Lit × Lit)} {e : Lit × Lit} (hn : E.Nodup) (h : e ∈ E) : (dropE E e).length + 1 = E.length := by
  unfold dropE
  induction E with
  | nil => simp at h
  | cons a l ih =>
    obtain ⟨h1, h2⟩ := List.nodup_cons.1 hn
    by_cases ea : a = e
    · subst ea
      have : l.filter (fun z => decide (z ≠ a)) = l := List.filter_eq_self.2 fun z hz => decide_eq_true (fun e => h1 (e ▸ hz))
      rw [List.filter_cons_of_neg (by simp), this]
      rfl
    · have := ih h2 (by simpa [Ne.symm ea] using h)
      rw [List.filter_cons_of_pos (by simp [ea]), List.length_cons, this]
      rfl

end Go.Proofs.YtclppfljengnbaaGreat.Gr
