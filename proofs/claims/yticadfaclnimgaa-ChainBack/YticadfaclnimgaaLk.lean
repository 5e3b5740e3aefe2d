/-
  What is kept beside a table; a row whatever there is; two rows held against one another.
-/
import Derived.Test.YticadfaclnimgaaLc
import Derived.Test.YticadfaclnimgaaOo
namespace Go.Proofs.Yticadfaclnimgaa
open Go.RowKit Go.Maps

/-- Blocks of cells that are no transactions and no rows of LSNs stay. -/
def Kp (w w' : World) : Prop := w.heap.size ≤ w'.heap.size ∧ ∀ (k : Nat) (cs : Array Value) (ty : TypeId) (fr : Nat × Nat), w.heap[k]? = some (.cells cs ty fr) → ty ≠ 74 → ty ≠ 27 → w'.heap[k]? = some (.cells cs ty fr)
theorem Kp.refl (w : World) : Kp w w := ⟨Nat.le_refl _, fun _ _ _ _ h _ _ => h⟩
theorem Kp.trans {a b c : World} (h : Kp a b) (k : Kp b c) : Kp a c := ⟨Nat.le_trans h.1 k.1, fun i cs ty fr hi h1 h2 => k.2 i cs ty fr (h.2 i cs ty fr hi h1 h2) h1 h2⟩
theorem Kp.below {w w' : World} (h : Below w.heap.size w w') : Kp w w' := ⟨h.size, fun k _ _ _ hk _ _ => (h.block k (some_lt hk)).trans hk⟩
theorem Kp.alloc (w : World) (o : Obj) : Kp w (w.alloc o) := Kp.below ((Below.refl _ _).alloc (Nat.le_refl _) _)
theorem Kp.step {w w' : World} {B T A M : Nat} {K : List Lit} {σ σ' : Sg} (h : Tb w B T A K M σ) (s : Step A w σ w' σ') : Kp w w' := ⟨s.turn.size, fun _ _ _ _ hk h1 h2 => s.kind h hk h1 h2⟩
theorem Kp.left {w w' : World} {B T A M M' : Nat} {K : List Lit} {σ : Sg} {f : Int → Option Tn} (h : Tb w B T A K M σ) (s : Left w B T A K M' σ w' f) : Kp w w' := by
  obtain ⟨σ', _, s, _⟩ := s
  exact Kp.step h s
theorem Left.below {w w' : World} {B T A M M' : Nat} {K : List Lit} {σ : Sg} {f : Int → Option Tn} (h : Tb w B T A K M σ) (s : Left w B T A K M' σ w' f) : Below B w w' := by
  obtain ⟨σ', _, s, _⟩ := s
  exact s.below h (Nat.le_trans h.hA (Nat.le_of_lt h.ltA))

def stO : Option Tn → Int
  | some x => x.st
  | none => 0
def lastO : Option Tn → Nat
  | some x => x.last
  | none => 0
def idO (t : Int) : Option Tn → Int
  | some _ => t
  | none => 0
abbrev txV (t : Int) (o : Option Tn) : Array Value := #[.int .i64 (idO t o), .int .i64 (stO o), .int .u64 (lastO o : Int)]
theorem row12 {w : World} {B T A M : Nat} {K : List Lit} {σ : Sg} {t : Int} (h : Tb w B T A K M σ) (ht : Wt t) : Calls Try.prog 12 #[.pointer (some ⟨T, 0, none⟩), .int .i64 t] w fun e w' => e = .returned (.tuple #[.agg (txV t (σ.f t)), .bool (σ.f t).isSome]) ∧ Below w.heap.size w w' := by
  cases hx : σ.f t with
  | none => exact row12_no h ht hx
  | some x => exact row12_yes h ht hx

theorem Try.held43 : Try.prog.stoodInHeld 43 = false := by kernel_rfl
theorem Try.struct43 : Try.prog.underlying 43 = some (.struct (Try.prog.fieldsOf 43)) := by kernel_rfl
theorem txq_eq (a b c a' b' c' : Int) (w : World) :
    (Op.equalIn 10000 43 (.agg #[.int .i64 a, .int .i64 b, .int .u64 c]) (.agg #[.int .i64 a', .int .i64 b', .int .u64 c'])).run Try.prog w = .ok ((a == a') && ((b == b') && (c == c'))) w := by
  rw [show (10000 : Nat) = 9999 + 1 from rfl, run_equalIn_struct w 9999 43 _ _ Try.struct43 Try.held43]
  simp [Program.fieldsOf, Try.underlying43, Op.eqFields, go_sem]
  repeat' split
  all_goals simp_all
theorem txq_same (a b c : Int) (w : World) : (Op.equalIn 10000 43 (.agg #[.int .i64 a, .int .i64 b, .int .u64 c]) (.agg #[.int .i64 a, .int .i64 b, .int .u64 c])).run Try.prog w = .ok true w := by
  rw [txq_eq]; simp

/-- A step in a box. -/
abbrev Op15 (W : World) (g : Nat) (o : OpL) : Prop :=
  W.cell? ⟨g, 0, none⟩ = some (.int .i64 o.kind) ∧ W.cell? ⟨g, 1, none⟩ = some (.int .i64 o.txn) ∧ W.cell? ⟨g, 2, none⟩ = some (.int .i64 o.n) ∧ W.cell? ⟨g, 3, none⟩ = some (.int .i64 o.r.kind) ∧ W.cell? ⟨g, 4, none⟩ = some (.int .u64 (o.r.lsn : Int)) ∧ W.cell? ⟨g, 5, none⟩ = some (.int .i64 o.r.txn) ∧ W.cell? ⟨g, 6, none⟩ = some (.int .u64 (o.r.prev : Int)) ∧ W.cell? ⟨g, 7, none⟩ = some (.int .u64 (o.r.undo : Int)) ∧ W.cell? ⟨g, 8, none⟩ = some (.int .i64 o.r.page) ∧
  W.cell? ⟨g, 9, none⟩ = some (.int .i64 o.r.ak) ∧ W.cell? ⟨g, 10, none⟩ = some (.string (txt o.r.key)) ∧ W.cell? ⟨g, 11, none⟩ = some (.string (txt o.r.old)) ∧ W.cell? ⟨g, 12, none⟩ = some (.string (txt o.r.new)) ∧ W.cell? ⟨g, 13, none⟩ = some (.slice o.ta o.r.txns.length o.tc) ∧ W.cell? ⟨g, 14, none⟩ = some (.slice o.da o.r.dirty.length o.dc)
theorem op15 {W : World} {g : Nat} {o : OpL} (h : W.heap[g]? = some (.cells (opC o) 36)) : Op15 W g o := by
  refine ⟨?_, ?_, ?_, ?_, ?_, ?_, ?_, ?_, ?_, ?_, ?_, ?_, ?_, ?_, ?_⟩ <;> simp [World.cell?, h]
theorem SlO.get {w : World} {a : Option Addr} {l : List OpL} (h : SlO w a l) {k : Nat} (hk : k < l.length) : ∃ b o, a = some ⟨b, o, none⟩ ∧ At15 w b (o + k * 15) l[k] ∧ OpI w l[k] := by
  cases a with
  | none => rw [h.nonil rfl] at hk; simp at hk
  | some x =>
    obtain ⟨h1, h2, h3⟩ := h.at' x rfl k l[k] (List.getElem?_eq_getElem hk)
    obtain ⟨b, o, sp⟩ := x
    have h1 : sp = none := h1
    subst h1
    exact ⟨b, o, rfl, h2, h3⟩
theorem cellsB {W : World} {g : Nat} {t : Int} {o : Option Tn} (h : W.heap[g]? = some (.cells (txV t o) 43)) : W.cell? ⟨g, 0, none⟩ = some (.int .i64 (idO t o)) ∧ W.cell? ⟨g, 1, none⟩ = some (.int .i64 (stO o)) ∧ W.cell? ⟨g, 2, none⟩ = some (.int .u64 (lastO o : Int)) := by
  obtain ⟨c0, c1, c2, _⟩ := cells3 h
  exact ⟨c0, c1, c2⟩
end Go.Proofs.Yticadfaclnimgaa
