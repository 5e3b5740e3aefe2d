/-
  Records, their rows, logs of them, and several logs, in memory; Rises.
-/
import Derived.Test.YticnkppnpfgceaaDy
import Derived.Test.YticnkppnpfgceaaMHm
import Derived.Deep.QuietTactic
import Derived.BigQuiet
namespace Go.Proofs.Yticnkppnpfgceaa.Mg
open Go.RowKit

/-- What is there stays there. -/
def Stay (w w' : World) (b : Nat) : Prop := w'.heap[b]? = w.heap[b]?
theorem _root_.Go.Proofs.Yticnkppnpfgceaa.SlT.stay {w w' : World} {a : Option Addr} {l : List Tx} (h : SlT w a l) (hb : ∀ x, a = some x → w'.heap[x.block]? = w.heap[x.block]?) : SlT w' a l :=
  ⟨h.nonil, fun x hx i t ht => by
    obtain ⟨h0, h1, h2, h3⟩ := h.cells x hx i t ht
    have e : ∀ o, w'.cell? ⟨x.block, o, none⟩ = w.cell? ⟨x.block, o, none⟩ := fun o => World.cell?_of_block (w := w) (hb x hx)
    exact ⟨h0, by rw [e]; exact h1, by rw [e]; exact h2, by rw [e]; exact h3⟩⟩
theorem _root_.Go.Proofs.Yticnkppnpfgceaa.SlD.stay {w w' : World} {a : Option Addr} {l : List Di} (h : SlD w a l) (hb : ∀ x, a = some x → w'.heap[x.block]? = w.heap[x.block]?) : SlD w' a l :=
  ⟨h.nonil, fun x hx i t ht => by
    obtain ⟨h0, h1, h2⟩ := h.cells x hx i t ht
    have e : ∀ o, w'.cell? ⟨x.block, o, none⟩ = w.cell? ⟨x.block, o, none⟩ := fun o => World.cell?_of_block (w := w) (hb x hx)
    exact ⟨h0, by rw [e]; exact h1, by rw [e]; exact h2⟩⟩
/-- A record as it lies somewhere: its rows' places. -/
structure Pl where
  ta : Option Addr
  tc : Nat
  da : Option Addr
  dc : Nat

abbrev recC (r : Rc) (p : Pl) : Array Value :=
  #[.int .i64 r.kind, .int .u64 (r.lsn : Int), .int .i64 r.txn, .int .u64 (r.prev : Int), .int .u64 (r.undo : Int), .int .i64 r.page, .int .i64 r.ak, .string (txt r.key), .string (txt r.old), .string (txt r.new), .slice p.ta r.txns.length p.tc, .slice p.da r.dirty.length p.dc]
abbrev recV (r : Rc) (p : Pl) : Value := .agg (recC r p)
def recL (r : Rc) (p : Pl) : List Value := (recC r p).toList
theorem recL_length (r : Rc) (p : Pl) : (recL r p).length = 12 := rfl

structure RI (w : World) (r : Rc) (p : Pl) : Prop where
  t : SlT w p.ta r.txns
  d : SlD w p.da r.dirty
  ct : p.ta = none → p.tc = 0
  cd : p.da = none → p.dc = 0
theorem RI.below {w w' : World} {r : Rc} {p : Pl} (h : RI w r p) (hb : Below w.heap.size w w') : RI w' r p := ⟨h.t.below hb, h.d.below hb, h.ct, h.cd⟩
/-- Rows that are not too long. -/
def Lim (r : Rc) : Prop := r.txns.length ≤ 1000 ∧ r.dirty.length ≤ 1000

/-- The twelve cells of a record. -/
def At12 (w : World) (b o : Nat) (r : Rc) (p : Pl) : Prop :=
  w.cell? ⟨b, o, none⟩ = some (.int .i64 r.kind) ∧ w.cell? ⟨b, o + 1, none⟩ = some (.int .u64 (r.lsn : Int)) ∧ w.cell? ⟨b, o + 2, none⟩ = some (.int .i64 r.txn) ∧ w.cell? ⟨b, o + 3, none⟩ = some (.int .u64 (r.prev : Int)) ∧ w.cell? ⟨b, o + 4, none⟩ = some (.int .u64 (r.undo : Int)) ∧ w.cell? ⟨b, o + 5, none⟩ = some (.int .i64 r.page) ∧
  w.cell? ⟨b, o + 6, none⟩ = some (.int .i64 r.ak) ∧ w.cell? ⟨b, o + 7, none⟩ = some (.string (txt r.key)) ∧ w.cell? ⟨b, o + 8, none⟩ = some (.string (txt r.old)) ∧ w.cell? ⟨b, o + 9, none⟩ = some (.string (txt r.new)) ∧ w.cell? ⟨b, o + 10, none⟩ = some (.slice p.ta r.txns.length p.tc) ∧ w.cell? ⟨b, o + 11, none⟩ = some (.slice p.da r.dirty.length p.dc)
theorem At12.stay {w w' : World} {b o : Nat} {r : Rc} {p : Pl} (h : At12 w b o r p) (hb : w'.heap[b]? = w.heap[b]?) : At12 w' b o r p := by
  have e : ∀ o, w'.cell? ⟨b, o, none⟩ = w.cell? ⟨b, o, none⟩ := fun o => World.cell?_of_block (w := w) hb
  unfold At12 at *
  simp only [e]
  exact h
theorem At12.lt {w : World} {b o : Nat} {r : Rc} {p : Pl} (h : At12 w b o r p) : b < w.heap.size := World.block_lt_of_cell? _ _ h.1

/-- A slice of records. -/
structure SlR (w : World) (a : Option Addr) (l : List Rc) : Prop where
  nonil : a = none → l = []
  place : ∀ x, a = some x → ∀ i r, l[i]? = some r → x.spot = none ∧ ∃ p, At12 w x.block (x.off + i * 12) r p ∧ RI w r p
theorem SlR.below {w w' : World} {a : Option Addr} {l : List Rc} (h : SlR w a l) (hb : Below w.heap.size w w') : SlR w' a l :=
  ⟨h.nonil, fun x hx i r hr => by
    obtain ⟨h0, p, h1, h2⟩ := h.place x hx i r hr
    exact ⟨h0, p, h1.stay (hb.block _ h1.lt), h2.below hb⟩⟩
theorem SlR.get {w : World} {b o : Nat} {l : List Rc} (h : SlR w (some ⟨b, o, none⟩) l) (i : Nat) (hi : i < l.length) : ∃ p, At12 w b (o + i * 12) l[i] p ∧ RI w l[i] p :=
  (h.place _ rfl i _ (List.getElem?_eq_getElem hi)).2
theorem SlR.there {w : World} {a : Option Addr} {l : List Rc} (h : SlR w a l) (hl : 0 < l.length) : ∃ b o, a = some ⟨b, o, none⟩ ∧ b < w.heap.size := by
  cases a with
  | none => have := h.nonil rfl; subst this; simp at hl
  | some x =>
    obtain ⟨b, o, sp⟩ := x
    obtain ⟨h0, p, h2, _⟩ := h.place _ rfl 0 _ (List.getElem?_eq_getElem hl)
    simp only at h0
    subst h0
    exact ⟨b, o, rfl, h2.lt⟩
theorem SlR.nil (w : World) (x : Option Addr) (_h : ∀ y, x = some y → y.spot = none) : SlR w x [] := ⟨fun _ => rfl, fun y hy i r hr => by simp at hr⟩
theorem SlR.tail {w : World} {b o : Nat} {r : Rc} {l : List Rc} (h : SlR w (Option.some ⟨b, o, none⟩) (r :: l)) : SlR w (Option.some ⟨b, o + 12, none⟩) l :=
  ⟨fun e => by simp at e, fun x hx i q hq => by
    simp at hx
    subst hx
    obtain ⟨_, p, h1, h2⟩ := h.place _ rfl (i + 1) q (by simpa using hq)
    refine ⟨rfl, p, ?_, h2⟩
    simp only at h1 ⊢
    rwa [show o + (i + 1) * 12 = o + 12 + i * 12 by omega] at h1⟩

/-- A slice of logs. -/
structure SlL (w : World) (a : Option Addr) (l : List (List Rc)) : Prop where
  nonil : a = none → l = []
  place : ∀ x, a = some x → ∀ i q, l[i]? = some q → x.spot = none ∧ ∃ la lc, w.cell? ⟨x.block, x.off + i, none⟩ = some (.slice la q.length lc) ∧ SlR w la q ∧ q.length ≤ lc
theorem SlL.below {w w' : World} {a : Option Addr} {l : List (List Rc)} (h : SlL w a l) (hb : Below w.heap.size w w') : SlL w' a l :=
  ⟨h.nonil, fun x hx i r hr => by
    obtain ⟨h0, la, lc, h1, h2, h3⟩ := h.place x hx i r hr
    exact ⟨h0, la, lc, by rw [hb.cell (World.block_lt_of_cell? _ _ h1)]; exact h1, h2.below hb, h3⟩⟩
theorem SlL.get {w : World} {a : Option Addr} {l : List (List Rc)} (h : SlL w a l) (i : Nat) (hi : i < l.length) : ∃ b o la lc, a = Option.some ⟨b, o, none⟩ ∧ w.cell? ⟨b, o + i, none⟩ = Option.some (.slice la l[i].length lc) ∧ SlR w la l[i] ∧ l[i].length ≤ lc := by
  cases a with
  | none => have := h.nonil rfl; subst this; simp at hi
  | some x =>
    obtain ⟨b, o, sp⟩ := x
    obtain ⟨h0, la, lc, h2, h3, h4⟩ := h.place _ rfl i _ (List.getElem?_eq_getElem hi)
    simp only at h0
    subst h0
    exact ⟨b, o, la, lc, rfl, h2, h3, h4⟩

/-- Do records rise? -/
def RisL (l : List Rc) : Prop := ∀ i, (h : i + 1 < l.length) → l[i].lsn < l[i + 1].lsn
def risB : List Rc → Bool
  | [] => true
  | [_] => true
  | a :: b :: r => decide (a.lsn < b.lsn) && risB (b :: r)
theorem risB_iff (l : List Rc) : risB l = true ↔ RisL l := by
  induction l with
  | nil => simp [risB, RisL]
  | cons a r ih =>
    cases r with
    | nil => simp [risB, RisL]
    | cons b r =>
      rw [risB, Bool.and_eq_true, ih]
      simp only [decide_eq_true_eq]
      constructor
      · rintro ⟨h1, h2⟩ i hi
        cases i with
        | zero => exact h1
        | succ i => exact h2 i (by simpa using hi)
      · intro h
        exact ⟨h 0 (by simp), fun i hi => h (i + 1) (by simp at hi ⊢; omega)⟩
theorem risB_false {l : List Rc} {i : Nat} (h : i + 1 < l.length) (hf : ¬ l[i].lsn < l[i + 1].lsn) : risB l = false := by
  cases e : risB l
  · rfl
  · exact absurd ((risB_iff l).1 e i h) hf

end Go.Proofs.Yticnkppnpfgceaa.Mg
