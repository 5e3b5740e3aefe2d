/-
  The walk of left.
-/
import Derived.Test.YticnkppnpfgceaaFCf
namespace Go.Proofs.Yticnkppnpfgceaa.Mg
open Go.RowKit Go.Maps Go.Shelf Go.Sort

theorem cellsF {w : World} {g : Nat} {a b c d : Value} {t : TypeId} (h : w.heap[g]? = some (.cells #[a, b, c, d] t)) :
    w.cell? ⟨g, 0, none⟩ = some a ∧ w.cell? ⟨g, 1, none⟩ = some b ∧ w.cell? ⟨g, 2, none⟩ = some c ∧ w.cell? ⟨g, 3, none⟩ = some d ∧ w.frozen? ⟨g, 0, none⟩ = false ∧ w.frozen? ⟨g, 1, none⟩ = false ∧ w.frozen? ⟨g, 2, none⟩ = false ∧ w.frozen? ⟨g, 3, none⟩ = false := by
  refine ⟨?_, ?_, ?_, ?_, ?_, ?_, ?_, ?_⟩ <;> simp [World.cell?, World.frozen?, h]
theorem cellsW {w : World} {g : Nat} {a b : Value} {t : TypeId} (h : w.heap[g]? = some (.cells #[a, b] t)) : w.cell? ⟨g, 0, none⟩ = some a ∧ w.cell? ⟨g, 1, none⟩ = some b := by
  refine ⟨?_, ?_⟩ <;> simp [World.cell?, h]
theorem set4_0 {w : World} {g : Nat} {a b c d : Value} {t : TypeId} (h : w.heap[g]? = some (.cells #[a, b, c, d] t)) (v : Value) : (w.setCell ⟨g, 0, none⟩ v).heap[g]? = some (.cells #[v, b, c, d] t) := by rw [cells_set h]; rfl
theorem set4_1 {w : World} {g : Nat} {a b c d : Value} {t : TypeId} (h : w.heap[g]? = some (.cells #[a, b, c, d] t)) (v : Value) : (w.setCell ⟨g, 1, none⟩ v).heap[g]? = some (.cells #[a, v, c, d] t) := by rw [cells_set h]; rfl
theorem set4_2 {w : World} {g : Nat} {a b c d : Value} {t : TypeId} (h : w.heap[g]? = some (.cells #[a, b, c, d] t)) (v : Value) : (w.setCell ⟨g, 2, none⟩ v).heap[g]? = some (.cells #[a, b, v, d] t) := by rw [cells_set h]; rfl
theorem set4_3 {w : World} {g : Nat} {a b c d : Value} {t : TypeId} (h : w.heap[g]? = some (.cells #[a, b, c, d] t)) (v : Value) : (w.setCell ⟨g, 3, none⟩ v).heap[g]? = some (.cells #[a, b, c, v] t) := by rw [cells_set h]; rfl
theorem put4_same {w : World} {g : Nat} {a b c d : Value} {t : TypeId} (h : w.heap[g]? = some (.cells #[a, b, c, d] t)) (x y z u : Value) : ((((w.setCell ⟨g, 0, none⟩ x).setCell ⟨g, 1, none⟩ y).setCell ⟨g, 2, none⟩ z).setCell ⟨g, 3, none⟩ u).heap[g]? = some (.cells #[x, y, z, u] t) := set4_3 (set4_2 (set4_1 (set4_0 h x) y) z) u
theorem put4_below {w0 w : World} {B g : Nat} (h : Below B w0 w) (hg : B ≤ g) (x y z u : Value) : Below B w0 ((((w.setCell ⟨g, 0, none⟩ x).setCell ⟨g, 1, none⟩ y).setCell ⟨g, 2, none⟩ z).setCell ⟨g, 3, none⟩ u) := (((h.setCell hg _).setCell hg _).setCell hg _).setCell hg _

/-- What the walk of left holds: its variables, the rows so far, the two maps. -/
structure Lm (w W : World) (A D : Nat) (K : List Lit) (x : Lf) (yt yn : List (Int × Gt)) (yd : List (Int × Nat)) (vt vn vd : Value) (n : Nat) : Prop where
  low : Below w.heap.size w W
  box : W.heap[w.heap.size]? = some (.cells (wkC A D) 65)
  res : W.heap[w.heap.size + 1]? = some (.cells #[.slice none 0 0, .slice none 0 0, .slice none 0 0, .int .u64 0] 32)
  var : W.heap[w.heap.size + 1 + 1]? = some (.cells #[vt, vn, vd, .int .u64 (n : Int)] 32)
  t : W.ownsRow w.heap.size 57 3 vt yt.length (tCells yt)
  n : W.ownsRow w.heap.size 30 1 vn yn.length (nCells yn)
  d : W.ownsRow w.heap.size 60 2 vd yd.length (dCells yd)
  wk : Wk W A D K x
  hA : A < w.heap.size
  hD : D < w.heap.size

theorem kind_block {w : World} {i j : Nat} {c d : Array Value} {s t : TypeId} {f g : Nat × Nat} (h1 : w.heap[i]? = some (.cells c s f)) (h2 : w.heap[j]? = some (.cells d t g)) (hne : s ≠ t) : i ≠ j := fun e => by
  subst e
  rw [h1] at h2
  injection h2 with h2
  injection h2 with h3 h4
  exact hne h4
/-- Blocks of all types but two stay. -/
def Keep (W W' : World) (s t : TypeId) : Prop := ∀ (k : Nat) (cs : Array Value) (e : TypeId), W.heap[k]? = some (Obj.cells cs e) → e ≠ s → e ≠ t → W'.heap[k]? = some (Obj.cells cs e)
section
variable {w W W' : World} {A D : Nat} {K : List Lit} {x : Lf} {yt yn : List (Int × Gt)} {yd : List (Int × Nat)} {vt vn vd : Value} {n : Nat}
theorem Lm.next (h : Lm w W A D K x yt yn yd vt vn vd n) (hb : Below W.heap.size W W') : Lm w W' A D K x yt yn yd vt vn vd n :=
  ⟨h.low.trans (hb.mono h.low.size), (hb.block _ (some_lt h.box)).trans h.box, (hb.block _ (some_lt h.res)).trans h.res, (hb.block _ (some_lt h.var)).trans h.var, own_below h.t hb, own_below h.n hb, own_below h.d hb, h.wk.below hb, h.hA, h.hD⟩
theorem keep_of {v v' : Value} {j : Nat} {e : TypeId} {s m : Nat} {xs : List Value} {cs : Array Value} (hg : W.grownBy W' v.ownBlock) (hv : W.ownsRow w.heap.size e s v m xs) (hvar : W'.heap[w.heap.size + 1 + 1]? = some (.cells cs 32)) : Keep W (W'.setCell ⟨w.heap.size + 1 + 1, j, none⟩ v') e 32 := fun k ds f hk h1 h2 => by
  have e1 : W'.heap[k]? = some (.cells ds f) := (hg.block k (some_lt hk) (fun e2 => by
    obtain ⟨_, cur, h4⟩ := own_kind hv e2.symm
    exact kind_block hk h4 h1 rfl)).trans hk
  rw [Below.heap_setCell _ _ _ _ (kind_block e1 hvar h2)]
  exact e1
/-- A row of one kind grew. -/
theorem Lm.grown (h : Lm w W A D K x yt yn yd vt vn vd n) {e : TypeId} {o : Option Nat} (hg : W.grownBy W' o) (ho : ∀ i, o = some i → w.heap.size ≤ i ∧ ∃ cur, W.heap[i]? = some (.cells cur e (0, 0))) (he : e = 57 ∨ e = 30 ∨ e = 60) :
    Below w.heap.size w W' ∧ W'.heap[w.heap.size]? = some (.cells (wkC A D) 65) ∧ W'.heap[w.heap.size + 1]? = some (.cells #[.slice none 0 0, .slice none 0 0, .slice none 0 0, .int .u64 0] 32) ∧ W'.heap[w.heap.size + 1 + 1]? = some (.cells #[vt, vn, vd, .int .u64 (n : Int)] 32) ∧ Wk W' A D K x ∧
    (e ≠ 57 → W'.ownsRow w.heap.size 57 3 vt yt.length (tCells yt)) ∧ (e ≠ 30 → W'.ownsRow w.heap.size 30 1 vn yn.length (nCells yn)) ∧ (e ≠ 60 → W'.ownsRow w.heap.size 60 2 vd yd.length (dCells yd)) := by
  have key : ∀ (k : Nat) (cs : Array Value) (t : TypeId), W.heap[k]? = some (Obj.cells cs t) → t ≠ e → W'.heap[k]? = some (Obj.cells cs t) := fun k cs t hk ht => (hg.block k (some_lt hk) (fun e2 => by
    obtain ⟨_, cur, h2⟩ := ho k e2.symm
    exact kind_block hk h2 ht rfl)).trans hk
  have hA := h.hA
  have hD := h.hD
  have hlow : ∀ i, i < w.heap.size → W'.heap[i]? = W.heap[i]? := fun i hi => hg.block i (by have := h.low.size; omega) (fun e2 => by have := (ho i e2.symm).1; omega)
  have hne : ∀ t : TypeId, (t = 65 ∨ t = 32) → t ≠ e := by rintro t (rfl | rfl) <;> rcases he with rfl | rfl | rfl <;> decide
  refine ⟨h.low.trans ((Turn.of_grown hg).below h.low.size fun i hi e2 => by have := (ho i e2.symm).1; omega), key _ _ _ h.box (hne _ (.inl rfl)), key _ _ _ h.res (hne _ (.inr rfl)), key _ _ _ h.var (hne _ (.inr rfl)), h.wk.at (hlow A hA) (hlow D hD), fun hn => own_stay h.t fun k c _ hc => ?_, fun hn => own_stay h.n fun k c _ hc => ?_, fun hn => own_stay h.d fun k c _ hc => ?_⟩
  · rw [key k c _ hc (fun e2 => hn e2.symm), hc]
  · rw [key k c _ hc (fun e2 => hn e2.symm), hc]
  · rw [key k c _ hc (fun e2 => hn e2.symm), hc]
theorem row_set {e s m : Nat} {v u : Value} {xs : List Value} {g j : Nat} {cs : Array Value} (hv : W.ownsRow w.heap.size e s v m xs) (hg : W.heap[g]? = some (.cells cs 32)) (he : e ≠ 32) : (W.setCell ⟨g, j, none⟩ u).ownsRow w.heap.size e s v m xs :=
  own_stay hv fun _ _ _ hc => Below.heap_setCell _ _ _ _ (kind_block hc hg he)
/-- Behind the store into the variable. -/
theorem Lm.stored {zt zn : List (Int × Gt)} {zd : List (Int × Nat)} {ut un ud : Value} {m : Nat} {j : Nat} {u : Value} (hlow : Below w.heap.size w W') (hbox : W'.heap[w.heap.size]? = some (.cells (wkC A D) 65)) (hres : W'.heap[w.heap.size + 1]? = some (.cells #[.slice none 0 0, .slice none 0 0, .slice none 0 0, .int .u64 0] 32)) {cs : Array Value} (hvar : W'.heap[w.heap.size + 1 + 1]? = some (.cells cs 32)) (hvar' : (W'.setCell ⟨w.heap.size + 1 + 1, j, none⟩ u).heap[w.heap.size + 1 + 1]? = some (.cells #[ut, un, ud, .int .u64 (m : Int)] 32))
    (hk : Wk W' A D K x) (hA : A < w.heap.size) (hD : D < w.heap.size) (ht : W'.ownsRow w.heap.size 57 3 ut zt.length (tCells zt)) (hn : W'.ownsRow w.heap.size 30 1 un zn.length (nCells zn)) (hd : W'.ownsRow w.heap.size 60 2 ud zd.length (dCells zd)) :
    Lm w (W'.setCell ⟨w.heap.size + 1 + 1, j, none⟩ u) A D K x zt zn zd ut un ud m :=
  ⟨hlow.setCell (by simp; omega) _, (Below.heap_setCell _ _ _ _ (by simp; omega)).trans hbox, (Below.heap_setCell _ _ _ _ (by simp)).trans hres, hvar', row_set ht hvar (by decide), row_set hn hvar (by decide), row_set hd hvar (by decide), hk.at (Below.heap_setCell _ _ _ _ (by simp; omega)) (Below.heap_setCell _ _ _ _ (by simp; omega)), hA, hD⟩
theorem Lm.addT (h : Lm w W A D K x yt yn yd vt vn vd n) {p : Int × Gt} {v : Value} (o1 : W'.ownsRow w.heap.size 57 3 v (yt.length + 1) (tCells yt ++ [.int .i64 p.1, .int .i64 p.2.st, .int .u64 (p.2.last : Int)])) (o2 : W.grownBy W' vt.ownBlock) :
    Lm w (W'.setCell ⟨w.heap.size + 1 + 1, 0, none⟩ v) A D K x (yt ++ [p]) yn yd v vn vd n ∧ Keep W (W'.setCell ⟨w.heap.size + 1 + 1, 0, none⟩ v) 57 32 ∧ W'.heap[w.heap.size + 1 + 1]? = some (.cells #[vt, vn, vd, .int .u64 (n : Int)] 32) := by
  obtain ⟨g1, g2, g3, g4, g5, _, g7, g8⟩ := h.grown o2 (fun i hi => own_kind h.t hi) (.inl rfl)
  exact ⟨Lm.stored g1 g2 g3 g4 (set4_0 g4 v) g5 h.hA h.hD (by rw [tCells_snoc, List.length_append]; exact o1) (g7 (by decide)) (g8 (by decide)), keep_of o2 h.t g4, g4⟩
theorem Lm.addN (h : Lm w W A D K x yt yn yd vt vn vd n) {p : Int × Gt} {v : Value} (o1 : W'.ownsRow w.heap.size 30 1 v (yn.length + 1) (nCells yn ++ [.int .u64 (p.2.next : Int)])) (o2 : W.grownBy W' vn.ownBlock) :
    Lm w (W'.setCell ⟨w.heap.size + 1 + 1, 1, none⟩ v) A D K x yt (yn ++ [p]) yd vt v vd n ∧ Keep W (W'.setCell ⟨w.heap.size + 1 + 1, 1, none⟩ v) 30 32 ∧ W'.heap[w.heap.size + 1 + 1]? = some (.cells #[vt, vn, vd, .int .u64 (n : Int)] 32) := by
  obtain ⟨g1, g2, g3, g4, g5, g6, _, g8⟩ := h.grown o2 (fun i hi => own_kind h.n hi) (.inr (.inl rfl))
  exact ⟨Lm.stored g1 g2 g3 g4 (set4_1 g4 v) g5 h.hA h.hD (g6 (by decide)) (by rw [nCells_snoc, List.length_append]; exact o1) (g8 (by decide)), keep_of o2 h.n g4, g4⟩
theorem Lm.addD (h : Lm w W A D K x yt yn yd vt vn vd n) {p : Int × Nat} {v : Value} (o1 : W'.ownsRow w.heap.size 60 2 v (yd.length + 1) (dCells yd ++ [.int .i64 p.1, .int .u64 (p.2 : Int)])) (o2 : W.grownBy W' vd.ownBlock) :
    Lm w (W'.setCell ⟨w.heap.size + 1 + 1, 2, none⟩ v) A D K x yt yn (yd ++ [p]) vt vn v n ∧ Keep W (W'.setCell ⟨w.heap.size + 1 + 1, 2, none⟩ v) 60 32 ∧ W'.heap[w.heap.size + 1 + 1]? = some (.cells #[vt, vn, vd, .int .u64 (n : Int)] 32) := by
  obtain ⟨g1, g2, g3, g4, g5, g6, g7, _⟩ := h.grown o2 (fun i hi => own_kind h.d hi) (.inr (.inr rfl))
  exact ⟨Lm.stored g1 g2 g3 g4 (set4_2 g4 v) g5 h.hA h.hD (g6 (by decide)) (g7 (by decide)) (by rw [dCells_snoc, List.length_append]; exact o1), keep_of o2 h.d g4, g4⟩
theorem Lm.setR (h : Lm w W A D K x yt yn yd vt vn vd n) (m : Nat) : Lm w (W.setCell ⟨w.heap.size + 1 + 1, 3, none⟩ (.int .u64 (m : Int))) A D K x yt yn yd vt vn vd m ∧ Keep W (W.setCell ⟨w.heap.size + 1 + 1, 3, none⟩ (.int .u64 (m : Int))) 32 32 :=
  ⟨Lm.stored h.low h.box h.res h.var (set4_3 h.var _) h.wk h.hA h.hD h.t h.n h.d, fun k cs e hk h1 _ => by rw [Below.heap_setCell _ _ _ _ (kind_block hk h.var h1)]; exact hk⟩
theorem Keep.row {s t e sz m : Nat} {v : Value} {xs : List Value} (h : Keep W W' s t) (hv : W.ownsRow w.heap.size e sz v m xs) (h1 : e ≠ s) (h2 : e ≠ t) : W'.ownsRow w.heap.size e sz v m xs :=
  own_stay hv fun k c _ hc => (h k c e hc h1 h2).trans hc.symm
end
end Go.Proofs.Yticnkppnpfgceaa.Mg
