/-
  A change turned round: the program's, and the document's.
-/
import Derived.Test.YtebchgoaelamcaaDoorAa
namespace Go.Proofs.YtebchgoaelamcaaDoor
open Go.RowKit
set_option maxRecDepth 100000

theorem cell4 {w : World} {g : Nat} {a b c d : Value} {t : TypeId} (h : w.heap[g]? = some (.cells #[a, b, c, d] t)) :
    w.cell? ⟨g, 0, none⟩ = some a ∧ w.cell? ⟨g, 1, none⟩ = some b ∧ w.cell? ⟨g, 2, none⟩ = some c ∧ w.cell? ⟨g, 3, none⟩ = some d ∧ w.frozen? ⟨g, 0, none⟩ = false ∧ w.frozen? ⟨g, 1, none⟩ = false ∧ w.frozen? ⟨g, 2, none⟩ = false ∧ w.frozen? ⟨g, 3, none⟩ = false ∧ g < w.heap.size := by
  have hg := (Array.getElem?_eq_some_iff.mp h).1
  refine ⟨?_, ?_, ?_, ?_, ?_, ?_, ?_, ?_, hg⟩ <;> simp [World.cell?, World.frozen?, h]

theorem two_kept {w w' : World} {A B : Obj} (hb : Below ((w.alloc A).alloc B).heap.size ((w.alloc A).alloc B) w') : w'.heap[w.heap.size]? = some A ∧ w'.heap[w.heap.size + 1]? = some B := by
  constructor
  · rw [hb.block _ (by simp; omega), Below.heap_alloc _ _ _ (by simp)]
    exact heap_alloc_new w A
  · rw [hb.block _ (by simp)]
    have := heap_alloc_new (w.alloc A) B
    simpa using this

/-- The cells of a block that is written over. -/
theorem put4 {w : World} {g : Nat} {a b c d a' b' c' d' : Value} {t : TypeId} (h : w.heap[g]? = some (.cells #[a, b, c, d] t)) :
    ((((w.setCell ⟨g, 0, none⟩ a').setCell ⟨g, 1, none⟩ b').setCell ⟨g, 2, none⟩ c').setCell ⟨g, 3, none⟩ d').heap[g]? = some (.cells #[a', b', c', d'] t) :=
  heap_setCell_same _ _ 3 _ t _ (heap_setCell_same _ _ 2 _ t _ (heap_setCell_same _ _ 1 _ t _ (heap_setCell_same _ _ 0 _ t _ h)))

theorem below_put4 {w w' : World} {D g : Nat} (h : Below D w w') (hg : D ≤ g) (a b c d : Value) : Below D w ((((w'.setCell ⟨g, 0, none⟩ a).setCell ⟨g, 1, none⟩ b).setCell ⟨g, 2, none⟩ c).setCell ⟨g, 3, none⟩ d) :=
  (((h.setCell hg _).setCell hg _).setCell hg _).setCell hg _

theorem Tryd.held35 : Tryd.prog.stoodInHeld 46 = false := by kernel_rfl
theorem Tryd.struct35 : Tryd.prog.underlying 46 = some (.struct (Tryd.prog.fieldsOf 46)) := by kernel_rfl
theorem Tryd.guard35 : Tryd.prog.eqGuardType Tryd.prog.depth 46 = false := by kernel_rfl

theorem act_eq (ak bk : Int) (k o n k' o' n' : ByteArray) (w : World) :
    (Op.equalIn 10000 46 (.agg #[.int .i64 ak, .string k, .string o, .string n]) (.agg #[.int .i64 bk, .string k', .string o', .string n'])).run Tryd.prog w = .ok ((ak == bk) && ((k.toList == k'.toList) && ((o.toList == o'.toList) && (n.toList == n'.toList)))) w := by
  rw [show (10000 : Nat) = 9999 + 1 from rfl, run_equalIn_struct w 9999 46 _ _ Tryd.struct35 Tryd.held35]
  simp [Program.fieldsOf, Tryd.underlying46, Op.eqFields, go_sem]
  repeat' split
  all_goals simp_all
theorem act_same (a b : Ac) (w : World) : (Op.equalIn 10000 46 (actV a) (actV b)).run Tryd.prog w = .ok (decide (a = b)) w := by
  obtain ⟨ak, k, o, n⟩ := a
  obtain ⟨bk, k', o', n'⟩ := b
  rw [act_eq]
  congr 1
  simp only [txt_toList]
  rw [Bool.eq_iff_iff]
  simp

end Go.Proofs.YtebchgoaelamcaaDoor
