/-
  Rows of frames that may be written; a ring copied.
-/
import Derived.Test.YtcloinonhpaojaaFc
import Derived.Laws.IdiomCopy
import Derived.Laws.AppendOwnNone
import Derived.OwnWalk
namespace Go.Proofs.Ytcloinonhpaojaa.Ck
open Go.RowKit

/-- Frames as cells, one behind the other. -/
def frL (f : Fr) : List Value := [.int .i64 f.page, .bool f.used, .int .i64 f.pins]
def frs (l : List Fr) : List Value := l.flatMap frL
theorem frs_cons (f : Fr) (l : List Fr) : frs (f :: l) = .int .i64 f.page :: .bool f.used :: .int .i64 f.pins :: frs l := rfl
theorem frs_length (l : List Fr) : (frs l).length = l.length * 3 := by
  induction l with
  | nil => rfl
  | cons f l ih => rw [frs_cons]; simp [ih]; omega
theorem frs_append (l m : List Fr) : frs (l ++ m) = frs l ++ frs m := by simp [frs]
theorem frs_one (l : List Fr) : ∀ u ∈ frs l, u.oneCell' = true := by
  intro u hu
  simp only [frs, List.mem_flatMap] at hu
  obtain ⟨t, _, hu⟩ := hu
  simp only [frL, List.mem_cons, List.not_mem_nil, or_false] at hu
  rcases hu with rfl | rfl | rfl <;> rfl
theorem frs_get : ∀ (l : List Fr) (i : Nat) (t : Fr), l[i]? = some t → (frs l)[i * 3]? = some (.int .i64 t.page) ∧ (frs l)[i * 3 + 1]? = some (.bool t.used) ∧ (frs l)[i * 3 + 2]? = some (.int .i64 t.pins)
  | [], i, t, h => by simp at h
  | f :: l, 0, t, h => by
    simp at h
    subst h
    rw [frs_cons]
    simp
  | f :: l, i + 1, t, h => by
    simp at h
    have := frs_get l i t h
    rw [frs_cons]
    rw [show (i + 1) * 3 = i * 3 + 3 by omega, show i * 3 + 3 + 1 = i * 3 + 1 + 3 by omega, show i * 3 + 3 + 2 = i * 3 + 2 + 3 by omega]
    simpa using this
theorem frs_inv : ∀ (l : List Fr) (j : Nat) (v : Value), (frs l)[j]? = some v → ∃ i t, l[i]? = some t ∧ ((j = i * 3 ∧ v = .int .i64 t.page) ∨ (j = i * 3 + 1 ∧ v = .bool t.used) ∨ (j = i * 3 + 2 ∧ v = .int .i64 t.pins))
  | [], j, v, h => by simp [frs] at h
  | f :: l, 0, v, h => by
    rw [frs_cons] at h
    simp at h
    exact ⟨0, f, rfl, .inl ⟨rfl, h.symm⟩⟩
  | f :: l, 1, v, h => by
    rw [frs_cons] at h
    simp at h
    exact ⟨0, f, rfl, .inr (.inl ⟨rfl, h.symm⟩)⟩
  | f :: l, 2, v, h => by
    rw [frs_cons] at h
    simp at h
    exact ⟨0, f, rfl, .inr (.inr ⟨rfl, h.symm⟩)⟩
  | f :: l, j + 3, v, h => by
    rw [frs_cons] at h
    simp at h
    obtain ⟨i, t, h1, h2⟩ := frs_inv l j v h
    refine ⟨i + 1, t, by simpa using h1, ?_⟩
    rcases h2 with ⟨e1, e2⟩ | ⟨e1, e2⟩ | ⟨e1, e2⟩
    · exact .inl ⟨by omega, e2⟩
    · exact .inr (.inl ⟨by omega, e2⟩)
    · exact .inr (.inr ⟨by omega, e2⟩)

theorem add_at (G o j : Nat) : (⟨G, o, none⟩ : Addr).add j = ⟨G, o + j, none⟩ := by unfold Addr.add; split <;> simp_all
theorem SlF.src {w : World} {b o : Nat} {l : List Fr} (h : SlF w (some ⟨b, o, none⟩) l) : ∀ j v, (frs l)[j]? = some v → w.cell? ((⟨b, o, none⟩ : Addr).add j) = some v := by
  intro j v hj
  obtain ⟨i, t, ht, hc⟩ := frs_inv l j v hj
  obtain ⟨_, h1, h2, h3⟩ := h.cells _ rfl i t ht
  rw [add_at]
  rcases hc with ⟨rfl, rfl⟩ | ⟨rfl, rfl⟩ | ⟨rfl, rfl⟩
  · exact h1
  · rw [← Nat.add_assoc]; exact h2
  · rw [← Nat.add_assoc]; exact h3
theorem SlF.ofRow {w : World} {B : Nat} {v : Value} {n : Nat} {l : List Fr} (h : w.ownsRow B 123 3 v n (frs l)) : n = l.length ∧ ∃ a c, v = .slice a l.length c ∧ SlF w a l := by
  have hn : n = l.length := by have := h.1; rw [frs_length] at this; omega
  subst hn
  refine ⟨rfl, ?_⟩
  rcases h.2 with ⟨rfl, h0⟩ | ⟨g, cap, cur, rfl, _⟩
  · have : l = [] := List.eq_nil_of_length_eq_zero h0
    subst this
    exact ⟨none, 0, rfl, SlF.nil w⟩
  · refine ⟨_, _, rfl, fun e => by simp at e, fun x hx i t ht => ?_⟩
    have hc := h.cells (g := g) rfl
    simp only [Option.some.injEq] at hx
    subst hx
    obtain ⟨h1, h2, h3⟩ := frs_get l i t ht
    have k1 := hc _ _ h1
    have k2 := hc _ _ h2
    have k3 := hc _ _ h3
    rw [add_at] at k1 k2 k3
    exact ⟨rfl, k1, by rw [Nat.add_assoc]; exact k2, by rw [Nat.add_assoc]; exact k3⟩

/-- A row of frames in block g, which may be written. -/
structure RowF (w : World) (g : Nat) (l : List Fr) : Prop where
  lt : g < w.heap.size
  at_ : ∀ i (hi : i < l.length), w.cell? ⟨g, i * 3, none⟩ = some (.int .i64 l[i].page) ∧ w.cell? ⟨g, i * 3 + 1, none⟩ = some (.bool l[i].used) ∧ w.cell? ⟨g, i * 3 + 2, none⟩ = some (.int .i64 l[i].pins) ∧
    w.frozen? ⟨g, i * 3, none⟩ = false ∧ w.frozen? ⟨g, i * 3 + 1, none⟩ = false ∧ w.frozen? ⟨g, i * 3 + 2, none⟩ = false
theorem RowF.below {w w' : World} {g : Nat} {l : List Fr} (h : RowF w g l) (hb : Below w.heap.size w w') : RowF w' g l :=
  ⟨Nat.lt_of_lt_of_le h.lt hb.size, fun i hi => by
    obtain ⟨h1, h2, h3, h4, h5, h6⟩ := h.at_ i hi
    have hl := h.lt
    exact ⟨(hb.cell (p := ⟨g, _, none⟩) hl).trans h1, (hb.cell (p := ⟨g, _, none⟩) hl).trans h2, (hb.cell (p := ⟨g, _, none⟩) hl).trans h3, (hb.frozen (p := ⟨g, _, none⟩) hl).trans h4, (hb.frozen (p := ⟨g, _, none⟩) hl).trans h5, (hb.frozen (p := ⟨g, _, none⟩) hl).trans h6⟩⟩
theorem RowF.sl {w : World} {g : Nat} {l : List Fr} (h : RowF w g l) : SlF w (some ⟨g, 0, none⟩) l :=
  ⟨fun e => by simp at e, fun x hx i t ht => by
    simp only [Option.some.injEq] at hx
    subst hx
    obtain ⟨hi, rfl⟩ := List.getElem?_eq_some_iff.1 ht
    obtain ⟨h1, h2, h3, _⟩ := h.at_ i hi
    exact ⟨rfl, by simpa using h1, by simpa using h2, by simpa using h3⟩⟩
theorem RowF.other {w : World} {g : Nat} {l : List Fr} (h : RowF w g l) (p : Addr) (v : Value) (hp : p.block ≠ g) : RowF (w.setCell p v) g l :=
  ⟨by simpa using h.lt, fun i hi => by
    obtain ⟨h1, h2, h3, h4, h5, h6⟩ := h.at_ i hi
    have ne : ∀ o, p ≠ ⟨g, o, none⟩ := fun o e => hp (by rw [e])
    refine ⟨by rw [World.cell?_setCell_other (h := ne _)]; exact h1, by rw [World.cell?_setCell_other (h := ne _)]; exact h2, by rw [World.cell?_setCell_other (h := ne _)]; exact h3, by rw [World.frozen?_setCell]; exact h4, by rw [World.frozen?_setCell]; exact h5, by rw [World.frozen?_setCell]; exact h6⟩⟩
theorem RowF.setP {w : World} {g : Nat} {l : List Fr} (h : RowF w g l) (k : Nat) (hk : k < l.length) (p : Int) : RowF (w.setCell ⟨g, k * 3, none⟩ (.int .i64 p)) g (l.set k ⟨p, l[k].used, l[k].pins⟩) := by
  refine ⟨by simpa using h.lt, fun i hi => ?_⟩
  simp only [List.length_set] at hi
  obtain ⟨h1, h2, h3, h4, h5, h6⟩ := h.at_ i hi
  rw [List.getElem_set]
  refine ⟨?_, ?_, ?_, by rw [World.frozen?_setCell]; exact h4, by rw [World.frozen?_setCell]; exact h5, by rw [World.frozen?_setCell]; exact h6⟩
  · by_cases e : k = i
    · subst e
      rw [World.cell?_setCell_same _ _ _ h1]
      simp
    · rw [World.cell?_setCell_other (h := by simp; try omega), if_neg e]
      exact h1
  · rw [World.cell?_setCell_other (h := by simp; try omega), h2]
    split
    · rename_i e; subst e; rfl
    · rfl
  · rw [World.cell?_setCell_other (h := by simp; try omega), h3]
    split
    · rename_i e; subst e; rfl
    · rfl
theorem RowF.setU {w : World} {g : Nat} {l : List Fr} (h : RowF w g l) (k : Nat) (hk : k < l.length) (u : Bool) : RowF (w.setCell ⟨g, k * 3 + 1, none⟩ (.bool u)) g (l.set k ⟨l[k].page, u, l[k].pins⟩) := by
  refine ⟨by simpa using h.lt, fun i hi => ?_⟩
  simp only [List.length_set] at hi
  obtain ⟨h1, h2, h3, h4, h5, h6⟩ := h.at_ i hi
  rw [List.getElem_set]
  refine ⟨?_, ?_, ?_, by rw [World.frozen?_setCell]; exact h4, by rw [World.frozen?_setCell]; exact h5, by rw [World.frozen?_setCell]; exact h6⟩
  · rw [World.cell?_setCell_other (h := by simp; try omega), h1]
    split
    · rename_i e; subst e; rfl
    · rfl
  · by_cases e : k = i
    · subst e
      rw [World.cell?_setCell_same _ _ _ h2]
      simp
    · rw [World.cell?_setCell_other (h := by simp; try omega), if_neg e]
      exact h2
  · rw [World.cell?_setCell_other (h := by simp; try omega), h3]
    split
    · rename_i e; subst e; rfl
    · rfl
theorem RowF.setN {w : World} {g : Nat} {l : List Fr} (h : RowF w g l) (k : Nat) (hk : k < l.length) (p : Int) : RowF (w.setCell ⟨g, k * 3 + 2, none⟩ (.int .i64 p)) g (l.set k ⟨l[k].page, l[k].used, p⟩) := by
  refine ⟨by simpa using h.lt, fun i hi => ?_⟩
  simp only [List.length_set] at hi
  obtain ⟨h1, h2, h3, h4, h5, h6⟩ := h.at_ i hi
  rw [List.getElem_set]
  refine ⟨?_, ?_, ?_, by rw [World.frozen?_setCell]; exact h4, by rw [World.frozen?_setCell]; exact h5, by rw [World.frozen?_setCell]; exact h6⟩
  · rw [World.cell?_setCell_other (h := by simp; try omega), h1]
    split
    · rename_i e; subst e; rfl
    · rfl
  · rw [World.cell?_setCell_other (h := by simp; try omega), h2]
    split
    · rename_i e; subst e; rfl
    · rfl
  · by_cases e : k = i
    · subst e
      rw [World.cell?_setCell_same _ _ _ h3]
      simp
    · rw [World.cell?_setCell_other (h := by simp; try omega), if_neg e]
      exact h3
theorem RowF.setAll {w : World} {g : Nat} {l : List Fr} (h : RowF w g l) (k : Nat) (hk : k < l.length) (f : Fr) :
    RowF (((w.setCell ⟨g, k * 3, none⟩ (.int .i64 f.page)).setCell ⟨g, k * 3 + 1, none⟩ (.bool f.used)).setCell ⟨g, k * 3 + 2, none⟩ (.int .i64 f.pins)) g (l.set k f) := by
  have h1 := h.setP k hk f.page
  have h2 := h1.setU k (by simpa using hk) f.used
  have h3 := h2.setN k (by simpa using hk) f.pins
  simpa using h3

theorem below_setCells {B b : Nat} {w0 : World} (hB : B ≤ b) : ∀ (vs : List Value) (o : Nat) (w : World), Below B w0 w → Below B w0 (w.setCells b o vs)
  | [], _, _, h => h
  | v :: vs, o, _, h => below_setCells hB vs (o + 1) _ (h.setCell (p := ⟨b, o, none⟩) hB v)
theorem size_setCells (b : Nat) : ∀ (vs : List Value) (o : Nat) (w : World), (w.setCells b o vs).heap.size = w.heap.size
  | [], _, _ => rfl
  | v :: vs, o, w => by rw [World.setCells, size_setCells b vs]; simp

theorem run_copy3 {P : Program} (w : World) (dT sT ty elem : TypeId) (g n dCap : Nat) (a : Addr) (sCap : Nat) (cs : List Value) (i : TypeInfo)
    (hu : P.underlying dT = some (.slice elem)) (hi : P.info? elem = some i) (hsz : i.size = 3) (hn : cs.length = n * 3)
    (hsrc : ∀ j v, cs[j]? = some v → w.cell? (a.add j) = some v) (hc : ∀ j, j < cs.length → (w.cell? ⟨g, 0 + j, none⟩).isSome = true) (hf : ∀ j, j < cs.length → w.frozen? ⟨g, 0 + j, none⟩ = false) (h1 : ∀ v ∈ cs, v.oneCell' = true) :
    (Builtin.copy_ #[dT, sT] ty #[.slice (some ⟨g, 0, none⟩) n dCap, .slice (some a) n sCap]).run P w = .ok (goInt n) (w.setCells g 0 cs) := by
  have hl := run_loadCells_list (P := P) w a cs hsrc
  have hst := run_storeCells_cells (P := P) g 0 cs 0 w (by simpa using hc) (by simpa using hf) h1
  rw [hn] at hl
  simp [Builtin.copy_, run_underlying hu, Builtin.lenOf, Builtin.firstCells, sizeOf, typeInfo, hi, hsz, hl, hst]
end Go.Proofs.Ytcloinonhpaojaa.Ck
