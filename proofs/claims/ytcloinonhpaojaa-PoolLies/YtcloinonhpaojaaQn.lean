/-
  Whole structs that are stored and loaded at once; the document's New.
-/
import Derived.Test.YtcloinonhpaojaaQl
import Derived.Laws.Tables
import Derived.Laws.Rows
namespace Go.Proofs.Ytcloinonhpaojaa
open Go.RowKit

theorem wpList_loadW {P : Program} {ops : Array Oper} {rest : List Oper} {op : Oper} {a : Act} {w : World} {Q : Exit → Act → World → Prop} (hgd : op.guard = none) (ty : TypeId) (x : Operand) (ho : op.op = .load ty x) (g : Nat)
    (hx : a.eval x = .pointer (some ⟨g, 0, none⟩)) (c : Array Value) (t : TypeId) (hg : w.heap[g]? = some (.cells c t)) (d : TypeDesc) (hu : P.underlying ty = some d) (hd : (match d with | .struct _ | .array _ _ => true | _ => false) = true) (hi : (P.info? ty).map (·.size) = some c.size)
    (h : wpList P ops Q rest (a.put op.dst (.agg c)) w) : wpList P ops Q (op :: rest) a w :=
  wpList_plain hgd fun _ hK => by
    unfold Oper.wp execOp
    have hr : (Instr.loadAt ty (.pointer (some ⟨g, 0, none⟩))).run P w = .ok (.agg c) w := by
      simp only [Instr.loadAt, Instr.sureAddr, Sem.run_bind, Sem.run_pure, Result.andThen]
      exact run_loadVar_row w g t ty c (0, 0) d hg hu hd hi
    simp only [ho, hx, hr, Sem.run_bind, Sem.run_pure, Result.andThen_ok]
    exact hK _ _ h
theorem wpList_storeW {P : Program} {ops : Array Oper} {rest : List Oper} {op : Oper} {a : Act} {w : World} {Q : Exit → Act → World → Prop} (hgd : op.guard = none) (ty : TypeId) (x y : Operand) (ho : op.op = .store ty x y) (g : Nat)
    (hx : a.eval x = .pointer (some ⟨g, 0, none⟩)) (c' : Array Value) (hy : a.eval y = .agg c') (c : Array Value) (t : TypeId) (hg : w.heap[g]? = some (.cells c t)) (hi : (P.info? ty).map (·.size) = some c'.size) (hsz : c.size = c'.size) (h1 : c'.all (·.oneCell') = true)
    (hd : op.dst = none) (h : wpList P ops Q rest a (w.setRow g c')) : wpList P ops Q (op :: rest) a w :=
  wpList_plain hgd fun _ hK => by
    unfold Oper.wp execOp
    have hr : (Instr.storeAt ty (.pointer (some ⟨g, 0, none⟩)) (.agg c')).run P w = .ok () (w.setRow g c') := by
      simp only [Instr.storeAt, Instr.sureAddr, Sem.run_bind, Sem.run_pure, Result.andThen]
      exact run_storeVar_row w g t ty c c' hg hi hsz h1
    simp only [ho, hx, hy, hr, Sem.run_bind, Sem.run_pure, Result.andThen_ok]
    exact hK _ _ (by rw [hd]; exact h)

/-- The cells of a document's pool, of which nothing is asked. -/
structure RefC (X : Array Value) : Prop where
  size : X.size = 66
  one : X.all (·.oneCell') = true

theorem results_cell_tmp {fn : Func} {p u : Tmp} {ty : TypeId} (h : fn.results = #[.cell p ty, .tmp u]) (tmps : Array Value) (w : World) {P : Program} (g : Nat) (cs : Array Value)
    (hp : tmps.getD p undef = .pointer (some ⟨g, 0, none⟩)) (hl : (loadVar ty ⟨g, 0, none⟩).run P w = .ok (.agg cs) w) (v : Value) (hv : tmps.getD u undef = v) :
    (results fn tmps).run P w = .ok (.tuple #[.agg cs, v]) w := by
  have hp' : tmps[p]?.getD undef = .pointer (some ⟨g, 0, none⟩) := by simpa using hp
  have hv' : tmps[u]?.getD undef = v := by simpa using hv
  simp [results, h, hp', hv', asAddr, hl]

theorem heap_setRow {w : World} {g : Nat} {c c' : Array Value} {t : TypeId} (hg : w.heap[g]? = some (.cells c t)) : (w.setRow g c').heap[g]? = some (.cells c' t) := setRow_heap w g c c' t _ hg
theorem heap_setRow_other {w : World} {g k : Nat} {c' : Array Value} (h : k ≠ g) : (w.setRow g c').heap[k]? = w.heap[k]? := by
  simp only [World.setRow, Array.getElem?_modify]
  rw [if_neg (fun e => h e.symm)]
theorem below_setRow {B g : Nat} {w w' : World} {c' : Array Value} (h : Below B w w') (hg : B ≤ g) : Below B w (w'.setRow g c') :=
  ⟨h.os, h.tape, h.output, by simpa [World.setRow] using h.size, fun k hk => by rw [heap_setRow_other (by omega)]; exact h.block k hk⟩
theorem size_setRow (w : World) (g : Nat) (c' : Array Value) : (w.setRow g c').heap.size = w.heap.size := by simp [World.setRow]
theorem three_cells (w : World) (a b c : Value) (t : TypeId) : ∀ j u, [a, b, c][j]? = some u → (w.alloc (.cells #[a, b, c] t)).cell? ((⟨w.heap.size, 0, none⟩ : Addr).add j) = some u := by
  intro j u hu
  rw [addr_add]
  obtain ⟨q0, q1, q2, _⟩ := Ck.cell3 (heap_alloc_new w (.cells #[a, b, c] t))
  match j, hu with
  | 0, hu => simp at hu; subst hu; exact q0
  | 1, hu => simp at hu; subst hu; exact q1
  | 2, hu => simp at hu; subst hu; exact q2

theorem info43 : (Try.prog.info? 43).map (·.size) = some 66 := by kernel_rfl
theorem z43 : RefC Try.zeroCells43 := ⟨by kernel_rfl, by kernel_rfl⟩
theorem z43_at : Try.zeroCells43[0]? = some (.slice none 0 0) := by kernel_rfl

/-- The document's pool is told. -/
def RetX (w w' : World) (b : Bool) (e : Ending) : Prop := ∃ X, RefC X ∧ e = .returned (.tuple #[.agg X, .bool b]) ∧ Below w.heap.size w w'

theorem first_store (w : World) : ∃ W1 : World, W1.heap[w.heap.size]? = some (.cells Try.zeroCells43 43) ∧ W1.heap[w.heap.size + 1]? = some (.cells Try.zeroCells43 43) ∧ Below w.heap.size w W1 ∧ W1 = ((w.alloc (.cells Try.zeroCells43 43)).alloc (.cells Try.zeroCells43 43)).setRow (w.heap.size + 1) Try.zeroCells43 := by
  obtain ⟨y0, y1⟩ := blk2 w (.cells Try.zeroCells43 43) (.cells Try.zeroCells43 43)
  have hb0 : Below w.heap.size w ((w.alloc (.cells Try.zeroCells43 43)).alloc (.cells Try.zeroCells43 43)) := ((Below.refl _ _).alloc (Nat.le_refl _) _).alloc (by simp) _
  exact ⟨_, by rw [heap_setRow_other (by omega)]; exact y0, heap_setRow y1, below_setRow hb0 (by omega), rfl⟩

set_option maxRecDepth 20000 in
set_option maxHeartbeats 2000000 in
theorem ref_no (n : Int) (w : World) (hn : ¬ (1 ≤ n ∧ n ≤ 16)) : Calls Try.prog 26 #[.int .i64 n] w fun e w' => RetX w w' false e := by
  obtain ⟨-, y1⟩ := blk2 w (.cells Try.zeroCells43 43) (.cells Try.zeroCells43 43)
  by_cases h1 : n < 1
  · have k1 : decide (n < 1) = true := by simpa using h1
    go_enter Try.func26, Try.ntmps26
    go_wp2_with (first | (refine wpList_storeW rfl 43 _ _ rfl (w.heap.size + 1) rfl Try.zeroCells43 rfl Try.zeroCells43 43 y1 (by rw [z43.size]; exact info43) rfl z43.one rfl ?_; obtain ⟨W1, x0, x1, xb, xe⟩ := first_store w; rw [← xe]; clear xe y1) | (refine wpList_loadW rfl 43 _ rfl (w.heap.size + 1) rfl Try.zeroCells43 43 x1 _ Try.underlying43 rfl (by rw [z43.size]; exact info43) ?_) | (refine wpList_storeW rfl 43 _ _ rfl w.heap.size rfl Try.zeroCells43 rfl Try.zeroCells43 43 x0 (by rw [z43.size]; exact info43) rfl z43.one rfl ?_))
    have q := heap_setRow (c' := Try.zeroCells43) x0
    exact bodyPost_ret (v := .tuple #[.agg Try.zeroCells43, .bool false]) (results_cell_tmp rfl _ _ w.heap.size _ rfl (run_loadVar_row _ _ 43 43 _ _ _ q Try.underlying43 rfl (by rw [z43.size]; exact info43)) _ rfl) rfl ⟨_, z43, rfl, below_setRow xb (Nat.le_refl _)⟩
  · have k1 : decide (n < 1) = false := by simpa using h1
    have k2 : decide (16 < n) = true := by simp; omega
    go_enter Try.func26, Try.ntmps26
    go_wp2_with (first | (refine wpList_storeW rfl 43 _ _ rfl (w.heap.size + 1) rfl Try.zeroCells43 rfl Try.zeroCells43 43 y1 (by rw [z43.size]; exact info43) rfl z43.one rfl ?_; obtain ⟨W1, x0, x1, xb, xe⟩ := first_store w; rw [← xe]; clear xe y1) | (refine wpList_loadW rfl 43 _ rfl (w.heap.size + 1) rfl Try.zeroCells43 43 x1 _ Try.underlying43 rfl (by rw [z43.size]; exact info43) ?_) | (refine wpList_storeW rfl 43 _ _ rfl w.heap.size rfl Try.zeroCells43 rfl Try.zeroCells43 43 x0 (by rw [z43.size]; exact info43) rfl z43.one rfl ?_))
    have q := heap_setRow (c' := Try.zeroCells43) x0
    exact bodyPost_ret (v := .tuple #[.agg Try.zeroCells43, .bool false]) (results_cell_tmp rfl _ _ w.heap.size _ rfl (run_loadVar_row _ _ 43 43 _ _ _ q Try.underlying43 rfl (by rw [z43.size]; exact info43)) _ rfl) rfl ⟨_, z43, rfl, below_setRow xb (Nat.le_refl _)⟩
end Go.Proofs.Ytcloinonhpaojaa
