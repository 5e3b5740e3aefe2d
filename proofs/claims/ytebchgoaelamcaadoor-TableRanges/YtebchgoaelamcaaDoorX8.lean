/-
  Texts put together: Bk Re Sl.
-/
import Derived.Test.YtebchgoaelamcaaDoorAf
import Derived.Test.YtebchgoaelamcaaDoorX3
namespace Go.Proofs.YtebchgoaelamcaaDoor
open Go.RowKit
set_option maxRecDepth 100000

/-- A log record, its rows as slices that lie somewhere. -/
structure Rc where
  kind : Int
  lsn : Nat
  txn : Int
  prev : Nat
  undo : Nat
  page : Int
  act : Ac
  ta : Option Addr
  tn : Nat
  tc : Nat
  da : Option Addr
  dn : Nat
  dc : Nat
instance : Inhabited Rc := ⟨⟨0, 0, 0, 0, 0, 0, ⟨0, [], [], []⟩, none, 0, 0, none, 0, 0⟩⟩
abbrev recC (r : Rc) : Array Value := #[.int .i64 r.kind, .int .u64 (r.lsn : Int), .int .i64 r.txn, .int .u64 (r.prev : Int), .int .u64 (r.undo : Int), .int .i64 r.page, .int .i64 r.act.kind, .string (txt r.act.key), .string (txt r.act.old), .string (txt r.act.new), .slice r.ta r.tn r.tc, .slice r.da r.dn r.dc]
abbrev recV (r : Rc) : Value := .agg (recC r)
def Rc.zero : Rc := ⟨0, 0, 0, 0, 0, 0, Ac.zero, none, 0, 0, none, 0, 0⟩
/-- Back. -/
def backR (r : Rc) (l prev undo : Nat) : Rc × Int :=
  if r.kind = 1 ∧ mayA r.act = true then (⟨2, l, r.txn, prev, undo, r.page, turnA r.act, none, 0, 0, none, 0, 0⟩, 0) else (Rc.zero, 1)

theorem cell12 {w : World} {g : Nat} {v0 v1 v2 v3 v4 v5 v6 v7 v8 v9 v10 v11 : Value} {t : TypeId} (h : w.heap[g]? = some (.cells #[v0, v1, v2, v3, v4, v5, v6, v7, v8, v9, v10, v11] t)) :
    w.cell? ⟨g, 0, none⟩ = some v0 ∧ w.cell? ⟨g, 1, none⟩ = some v1 ∧ w.cell? ⟨g, 2, none⟩ = some v2 ∧ w.cell? ⟨g, 3, none⟩ = some v3 ∧ w.cell? ⟨g, 4, none⟩ = some v4 ∧ w.cell? ⟨g, 5, none⟩ = some v5 ∧ w.cell? ⟨g, 6, none⟩ = some v6 ∧ w.cell? ⟨g, 7, none⟩ = some v7 ∧ w.cell? ⟨g, 8, none⟩ = some v8 ∧ w.cell? ⟨g, 9, none⟩ = some v9 ∧ w.cell? ⟨g, 10, none⟩ = some v10 ∧ w.cell? ⟨g, 11, none⟩ = some v11 ∧ g < w.heap.size := by
  have hg := (Array.getElem?_eq_some_iff.mp h).1
  refine ⟨?_, ?_, ?_, ?_, ?_, ?_, ?_, ?_, ?_, ?_, ?_, ?_, hg⟩ <;> simp [World.cell?, h]
theorem frozen12 {w : World} {g : Nat} {v0 v1 v2 v3 v4 v5 v6 v7 v8 v9 v10 v11 : Value} {t : TypeId} (h : w.heap[g]? = some (.cells #[v0, v1, v2, v3, v4, v5, v6, v7, v8, v9, v10, v11] t)) :
    w.frozen? ⟨g, 0, none⟩ = false ∧ w.frozen? ⟨g, 1, none⟩ = false ∧ w.frozen? ⟨g, 2, none⟩ = false ∧ w.frozen? ⟨g, 3, none⟩ = false ∧ w.frozen? ⟨g, 4, none⟩ = false ∧ w.frozen? ⟨g, 5, none⟩ = false ∧ w.frozen? ⟨g, 6, none⟩ = false ∧ w.frozen? ⟨g, 7, none⟩ = false ∧ w.frozen? ⟨g, 8, none⟩ = false ∧ w.frozen? ⟨g, 9, none⟩ = false ∧ w.frozen? ⟨g, 10, none⟩ = false ∧ w.frozen? ⟨g, 11, none⟩ = false := by
  refine ⟨?_, ?_, ?_, ?_, ?_, ?_, ?_, ?_, ?_, ?_, ?_, ?_⟩ <;> simp [World.frozen?, h]
theorem put12 {w : World} {g : Nat} {v0 v1 v2 v3 v4 v5 v6 v7 v8 v9 v10 v11 u0 u1 u2 u3 u4 u5 u6 u7 u8 u9 u10 u11 : Value} {t : TypeId} (h : w.heap[g]? = some (.cells #[v0, v1, v2, v3, v4, v5, v6, v7, v8, v9, v10, v11] t)) :
    ((((((((((((w.setCell ⟨g, 0, none⟩ u0).setCell ⟨g, 1, none⟩ u1).setCell ⟨g, 2, none⟩ u2).setCell ⟨g, 3, none⟩ u3).setCell ⟨g, 4, none⟩ u4).setCell ⟨g, 5, none⟩ u5).setCell ⟨g, 6, none⟩ u6).setCell ⟨g, 7, none⟩ u7).setCell ⟨g, 8, none⟩ u8).setCell ⟨g, 9, none⟩ u9).setCell ⟨g, 10, none⟩ u10).setCell ⟨g, 11, none⟩ u11).heap[g]? = some (.cells #[u0, u1, u2, u3, u4, u5, u6, u7, u8, u9, u10, u11] t) := by
  have h0 : (w.setCell ⟨g, 0, none⟩ u0).heap[g]? = some (.cells #[u0, v1, v2, v3, v4, v5, v6, v7, v8, v9, v10, v11] t) := heap_setCell_same _ _ 0 _ t _ h
  have h1 : ((w.setCell ⟨g, 0, none⟩ u0).setCell ⟨g, 1, none⟩ u1).heap[g]? = some (.cells #[u0, u1, v2, v3, v4, v5, v6, v7, v8, v9, v10, v11] t) := heap_setCell_same _ _ 1 _ t _ h0
  have h2 : (((w.setCell ⟨g, 0, none⟩ u0).setCell ⟨g, 1, none⟩ u1).setCell ⟨g, 2, none⟩ u2).heap[g]? = some (.cells #[u0, u1, u2, v3, v4, v5, v6, v7, v8, v9, v10, v11] t) := heap_setCell_same _ _ 2 _ t _ h1
  have h3 : ((((w.setCell ⟨g, 0, none⟩ u0).setCell ⟨g, 1, none⟩ u1).setCell ⟨g, 2, none⟩ u2).setCell ⟨g, 3, none⟩ u3).heap[g]? = some (.cells #[u0, u1, u2, u3, v4, v5, v6, v7, v8, v9, v10, v11] t) := heap_setCell_same _ _ 3 _ t _ h2
  have h4 : (((((w.setCell ⟨g, 0, none⟩ u0).setCell ⟨g, 1, none⟩ u1).setCell ⟨g, 2, none⟩ u2).setCell ⟨g, 3, none⟩ u3).setCell ⟨g, 4, none⟩ u4).heap[g]? = some (.cells #[u0, u1, u2, u3, u4, v5, v6, v7, v8, v9, v10, v11] t) := heap_setCell_same _ _ 4 _ t _ h3
  have h5 : ((((((w.setCell ⟨g, 0, none⟩ u0).setCell ⟨g, 1, none⟩ u1).setCell ⟨g, 2, none⟩ u2).setCell ⟨g, 3, none⟩ u3).setCell ⟨g, 4, none⟩ u4).setCell ⟨g, 5, none⟩ u5).heap[g]? = some (.cells #[u0, u1, u2, u3, u4, u5, v6, v7, v8, v9, v10, v11] t) := heap_setCell_same _ _ 5 _ t _ h4
  have h6 : (((((((w.setCell ⟨g, 0, none⟩ u0).setCell ⟨g, 1, none⟩ u1).setCell ⟨g, 2, none⟩ u2).setCell ⟨g, 3, none⟩ u3).setCell ⟨g, 4, none⟩ u4).setCell ⟨g, 5, none⟩ u5).setCell ⟨g, 6, none⟩ u6).heap[g]? = some (.cells #[u0, u1, u2, u3, u4, u5, u6, v7, v8, v9, v10, v11] t) := heap_setCell_same _ _ 6 _ t _ h5
  have h7 : ((((((((w.setCell ⟨g, 0, none⟩ u0).setCell ⟨g, 1, none⟩ u1).setCell ⟨g, 2, none⟩ u2).setCell ⟨g, 3, none⟩ u3).setCell ⟨g, 4, none⟩ u4).setCell ⟨g, 5, none⟩ u5).setCell ⟨g, 6, none⟩ u6).setCell ⟨g, 7, none⟩ u7).heap[g]? = some (.cells #[u0, u1, u2, u3, u4, u5, u6, u7, v8, v9, v10, v11] t) := heap_setCell_same _ _ 7 _ t _ h6
  have h8 : (((((((((w.setCell ⟨g, 0, none⟩ u0).setCell ⟨g, 1, none⟩ u1).setCell ⟨g, 2, none⟩ u2).setCell ⟨g, 3, none⟩ u3).setCell ⟨g, 4, none⟩ u4).setCell ⟨g, 5, none⟩ u5).setCell ⟨g, 6, none⟩ u6).setCell ⟨g, 7, none⟩ u7).setCell ⟨g, 8, none⟩ u8).heap[g]? = some (.cells #[u0, u1, u2, u3, u4, u5, u6, u7, u8, v9, v10, v11] t) := heap_setCell_same _ _ 8 _ t _ h7
  have h9 : ((((((((((w.setCell ⟨g, 0, none⟩ u0).setCell ⟨g, 1, none⟩ u1).setCell ⟨g, 2, none⟩ u2).setCell ⟨g, 3, none⟩ u3).setCell ⟨g, 4, none⟩ u4).setCell ⟨g, 5, none⟩ u5).setCell ⟨g, 6, none⟩ u6).setCell ⟨g, 7, none⟩ u7).setCell ⟨g, 8, none⟩ u8).setCell ⟨g, 9, none⟩ u9).heap[g]? = some (.cells #[u0, u1, u2, u3, u4, u5, u6, u7, u8, u9, v10, v11] t) := heap_setCell_same _ _ 9 _ t _ h8
  have h10 : (((((((((((w.setCell ⟨g, 0, none⟩ u0).setCell ⟨g, 1, none⟩ u1).setCell ⟨g, 2, none⟩ u2).setCell ⟨g, 3, none⟩ u3).setCell ⟨g, 4, none⟩ u4).setCell ⟨g, 5, none⟩ u5).setCell ⟨g, 6, none⟩ u6).setCell ⟨g, 7, none⟩ u7).setCell ⟨g, 8, none⟩ u8).setCell ⟨g, 9, none⟩ u9).setCell ⟨g, 10, none⟩ u10).heap[g]? = some (.cells #[u0, u1, u2, u3, u4, u5, u6, u7, u8, u9, u10, v11] t) := heap_setCell_same _ _ 10 _ t _ h9
  have h11 : ((((((((((((w.setCell ⟨g, 0, none⟩ u0).setCell ⟨g, 1, none⟩ u1).setCell ⟨g, 2, none⟩ u2).setCell ⟨g, 3, none⟩ u3).setCell ⟨g, 4, none⟩ u4).setCell ⟨g, 5, none⟩ u5).setCell ⟨g, 6, none⟩ u6).setCell ⟨g, 7, none⟩ u7).setCell ⟨g, 8, none⟩ u8).setCell ⟨g, 9, none⟩ u9).setCell ⟨g, 10, none⟩ u10).setCell ⟨g, 11, none⟩ u11).heap[g]? = some (.cells #[u0, u1, u2, u3, u4, u5, u6, u7, u8, u9, u10, u11] t) := heap_setCell_same _ _ 11 _ t _ h10
  exact h11
theorem keep12 {w : World} {g q : Nat} {o : Obj} (u0 u1 u2 u3 u4 u5 u6 u7 u8 u9 u10 u11 : Value) (h : w.heap[q]? = some o) (hq : q ≠ g) : ((((((((((((w.setCell ⟨g, 0, none⟩ u0).setCell ⟨g, 1, none⟩ u1).setCell ⟨g, 2, none⟩ u2).setCell ⟨g, 3, none⟩ u3).setCell ⟨g, 4, none⟩ u4).setCell ⟨g, 5, none⟩ u5).setCell ⟨g, 6, none⟩ u6).setCell ⟨g, 7, none⟩ u7).setCell ⟨g, 8, none⟩ u8).setCell ⟨g, 9, none⟩ u9).setCell ⟨g, 10, none⟩ u10).setCell ⟨g, 11, none⟩ u11).heap[q]? = some o := by
  rw [heap_setCell_other _ _ _ _ hq, heap_setCell_other _ _ _ _ hq, heap_setCell_other _ _ _ _ hq, heap_setCell_other _ _ _ _ hq, heap_setCell_other _ _ _ _ hq, heap_setCell_other _ _ _ _ hq, heap_setCell_other _ _ _ _ hq, heap_setCell_other _ _ _ _ hq, heap_setCell_other _ _ _ _ hq, heap_setCell_other _ _ _ _ hq, heap_setCell_other _ _ _ _ hq, heap_setCell_other _ _ _ _ hq]
  exact h
theorem below_put12 {w0 w : World} {D g : Nat} (h : Below D w0 w) (hg : D ≤ g) (u0 u1 u2 u3 u4 u5 u6 u7 u8 u9 u10 u11 : Value) : Below D w0 ((((((((((((w.setCell ⟨g, 0, none⟩ u0).setCell ⟨g, 1, none⟩ u1).setCell ⟨g, 2, none⟩ u2).setCell ⟨g, 3, none⟩ u3).setCell ⟨g, 4, none⟩ u4).setCell ⟨g, 5, none⟩ u5).setCell ⟨g, 6, none⟩ u6).setCell ⟨g, 7, none⟩ u7).setCell ⟨g, 8, none⟩ u8).setCell ⟨g, 9, none⟩ u9).setCell ⟨g, 10, none⟩ u10).setCell ⟨g, 11, none⟩ u11) :=
  (((((((((((h.setCell hg _).setCell hg _).setCell hg _).setCell hg _).setCell hg _).setCell hg _).setCell hg _).setCell hg _).setCell hg _).setCell hg _).setCell hg _).setCell hg _

end Go.Proofs.YtebchgoaelamcaaDoor

namespace Go.Proofs.YtebchgoaelamcaaDoor
open Go.RowKit
set_option maxRecDepth 100000

def chgB (k : Int) : Bool := decide (k = 1 ∨ k = 2)

theorem ins_err {l : List Cl} {k x : List UInt8} (h : (insL l k x).2 ≠ 0) : (insL l k x).1 = l := by
  unfold insL fillL addL at *
  repeat' split at h
  all_goals simp_all
theorem upd_err {l : List Cl} {k x : List UInt8} (h : (updL l k x).2 ≠ 0) : (updL l k x).1 = l := by
  unfold updL fillL at *
  repeat' split at h
  all_goals simp_all
theorem del_err {l : List Cl} {k : List UInt8} (h : (delL l k).2 ≠ 0) : (delL l k).1 = l := by
  unfold delL at *
  repeat' split at h
  all_goals simp_all
theorem do_err {l : List Cl} {a : Ac} (h : (doL l a).2 ≠ 0) : (doL l a).1 = l := by
  unfold doL at *
  split
  · rfl
  · rename_i h1
    rw [if_neg h1] at h
    split
    · rename_i h2
      rw [if_pos h2] at h
      exact ins_err h
    · rename_i h2
      rw [if_neg h2] at h
      split
      · rfl
      · rename_i h3
        rw [if_neg h3] at h
        split
        · rename_i h4
          rw [if_pos h4] at h
          exact upd_err h
        · rename_i h4
          rw [if_neg h4] at h
          exact del_err h

/-- What a record makes of slots and an LSN, whether it is done, and why not. -/
def redoM (id : Int) (l : List Cl) (lsn : Nat) (r : Rc) : (List Cl × Nat) × Bool × Int :=
  if chgB r.kind = false ∨ r.page ≠ id then ((l, lsn), false, 1) else if r.lsn ≤ lsn then ((l, lsn), false, 0) else if (doL l r.act).2 ≠ 0 then ((l, lsn), false, (doL l r.act).2) else (((doL l r.act).1, r.lsn), true, 0)

theorem redo_good {id : Int} {l : List Cl} {lsn : Nat} {r : Rc} (h : GoodL l) : GoodL (redoM id l lsn r).1.1 := by
  unfold redoM
  repeat' split
  · exact h
  · exact h
  · exact h
  · exact do_good h _

theorem PgOk.drewN {w : World} {B p : Nat} {id : Int} {lsn : Nat} {v : Value} {l : List Cl} (h : PgOk w B p id lsn v l) (n : Nat) : PgOk (w.drewN n) B p id lsn v l := ⟨h.blk, h.own, h.ne, h.base⟩
theorem below_drewN {n : Nat} {w w' : World} (h : Below n w w') (m : Nat) : Below n w (w'.drewN m) := ⟨h.os, h.tape, h.output, h.size, h.block⟩

end Go.Proofs.YtebchgoaelamcaaDoor

namespace Go.Proofs.YtebchgoaelamcaaDoor
open Go.RowKit
set_option maxRecDepth 100000

instance : Inhabited Ac := ⟨⟨0, [], [], []⟩⟩

/-- A slice of changes. -/
structure SlA (w : World) (a : Option Addr) (l : List Ac) : Prop where
  nonil : a = none → l = []
  cells : ∀ x, a = some x → ∀ i t, l[i]? = some t → x.spot = none ∧ w.cell? ⟨x.block, x.off + i * 4, none⟩ = some (.int .i64 t.kind) ∧ w.cell? ⟨x.block, x.off + i * 4 + 1, none⟩ = some (.string (txt t.key)) ∧ w.cell? ⟨x.block, x.off + i * 4 + 2, none⟩ = some (.string (txt t.old)) ∧ w.cell? ⟨x.block, x.off + i * 4 + 3, none⟩ = some (.string (txt t.new))
  small : ∀ t ∈ l, t.key.length ≤ maxLen ∧ t.old.length ≤ maxLen ∧ t.new.length ≤ maxLen

theorem SlA.below {w w' : World} {a : Option Addr} {l : List Ac} {D : Nat} (h : SlA w a l) (hb : Below D w w') (hD : ∀ x, a = some x → x.block < D) : SlA w' a l :=
  ⟨h.nonil, fun x hx i t ht => by
    obtain ⟨h0, h1, h2, h3, h4⟩ := h.cells x hx i t ht
    have hlt := hD x hx
    exact ⟨h0, by rw [hb.cell (by exact hlt)]; exact h1, by rw [hb.cell (by exact hlt)]; exact h2, by rw [hb.cell (by exact hlt)]; exact h3, by rw [hb.cell (by exact hlt)]; exact h4⟩, h.small⟩

theorem SlA.on {w w' : World} {a : Option Addr} {l : List Ac} (h : SlA w a l) (hb : Below w.heap.size w w') : SlA w' a l :=
  ⟨h.nonil, fun x hx i t ht => by
    obtain ⟨h0, h1, h2, h3, h4⟩ := h.cells x hx i t ht
    have hlt := World.block_lt_of_cell? _ _ h1
    exact ⟨h0, by rw [hb.cell (by exact hlt)]; exact h1, by rw [hb.cell (by exact hlt)]; exact h2, by rw [hb.cell (by exact hlt)]; exact h3, by rw [hb.cell (by exact hlt)]; exact h4⟩, h.small⟩

theorem SlA.at {w : World} {a : Option Addr} {l : List Ac} (h : SlA w a l) (i : Nat) (hi : i < l.length) : ∃ b o, a = some ⟨b, o, none⟩ ∧ b < w.heap.size ∧
    w.cell? ⟨b, o + i * 4, none⟩ = some (.int .i64 l[i].kind) ∧ w.cell? ⟨b, o + i * 4 + 1, none⟩ = some (.string (txt l[i].key)) ∧ w.cell? ⟨b, o + i * 4 + 2, none⟩ = some (.string (txt l[i].old)) ∧ w.cell? ⟨b, o + i * 4 + 3, none⟩ = some (.string (txt l[i].new)) := by
  cases a with
  | none => have := h.nonil rfl; subst this; simp at hi
  | some x =>
    obtain ⟨b, o, sp⟩ := x
    obtain ⟨h0, h1, h2, h3, h4⟩ := h.cells _ rfl i _ (List.getElem?_eq_getElem hi)
    simp only at h0 h1 h2 h3 h4
    subst h0
    exact ⟨b, o, rfl, World.block_lt_of_cell? _ _ h1, h1, h2, h3, h4⟩

/-- A key and its value. -/
structure Pr where
  key : List UInt8
  val : List UInt8
deriving DecidableEq
instance : Inhabited Pr := ⟨⟨[], []⟩⟩

/-- A slice of pairs. -/
structure SlP (w : World) (a : Option Addr) (l : List Pr) : Prop where
  nonil : a = none → l = []
  cells : ∀ x, a = some x → ∀ i t, l[i]? = some t → x.spot = none ∧ w.cell? ⟨x.block, x.off + i * 2, none⟩ = some (.string (txt t.key)) ∧ w.cell? ⟨x.block, x.off + i * 2 + 1, none⟩ = some (.string (txt t.val))
  small : ∀ t ∈ l, t.key.length ≤ maxLen ∧ t.val.length ≤ maxLen

theorem SlP.on {w w' : World} {a : Option Addr} {l : List Pr} (h : SlP w a l) (hb : Below w.heap.size w w') : SlP w' a l :=
  ⟨h.nonil, fun x hx i t ht => by
    obtain ⟨h0, h1, h2⟩ := h.cells x hx i t ht
    have hlt := World.block_lt_of_cell? _ _ h1
    exact ⟨h0, by rw [hb.cell (by exact hlt)]; exact h1, by rw [hb.cell (by exact hlt)]; exact h2⟩, h.small⟩

theorem SlP.at {w : World} {a : Option Addr} {l : List Pr} (h : SlP w a l) (i : Nat) (hi : i < l.length) : ∃ b o, a = some ⟨b, o, none⟩ ∧ b < w.heap.size ∧
    w.cell? ⟨b, o + i * 2, none⟩ = some (.string (txt l[i].key)) ∧ w.cell? ⟨b, o + i * 2 + 1, none⟩ = some (.string (txt l[i].val)) := by
  cases a with
  | none => have := h.nonil rfl; subst this; simp at hi
  | some x =>
    obtain ⟨b, o, sp⟩ := x
    obtain ⟨h0, h1, h2⟩ := h.cells _ rfl i _ (List.getElem?_eq_getElem hi)
    simp only at h0 h1 h2
    subst h0
    exact ⟨b, o, rfl, World.block_lt_of_cell? _ _ h1, h1, h2⟩

end Go.Proofs.YtebchgoaelamcaaDoor

