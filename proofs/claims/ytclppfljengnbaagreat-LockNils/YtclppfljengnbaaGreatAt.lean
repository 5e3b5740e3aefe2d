/-
  At (17): the place of an edge.
-/
import Derived.Test.YtclppfljengnbaaGreatWs
import Derived.Laws.StructEq
namespace Go.Proofs.YtclppfljengnbaaGreat
open Go.RowKit Go.Maps

structure SlE (W : World) (a : Option Addr) (l : List (Int × Int)) : Prop where
  at_ : ∀ j (hj : j < l.length), ∃ b o, a = some ⟨b, o, none⟩ ∧ W.cell? ⟨b, o + j * 2, none⟩ = some (.int .i64 l[j].1) ∧ W.cell? ⟨b, o + j * 2 + 1, none⟩ = some (.int .i64 l[j].2)

theorem cell_lt {w : World} {g o : Nat} {v : Value} (h : w.cell? ⟨g, o, none⟩ = some v) : g < w.heap.size := by
  rcases Nat.lt_or_ge g w.heap.size with h1 | h1
  · exact h1
  · simp [World.cell?, Array.getElem?_eq_none h1] at h
theorem cell_low {w w' : World} {B g o : Nat} {v : Value} (h : w.cell? ⟨g, o, none⟩ = some v) (hg : g < B) (hb : Below B w w') : w'.cell? ⟨g, o, none⟩ = some v := by
  rw [← h]
  simp [World.cell?, hb.block g hg]
theorem SlE.below {w w' : World} {a : Option Addr} {l : List (Int × Int)} (h : SlE w a l) (hb : Below w.heap.size w w') : SlE w' a l :=
  ⟨fun j hj => by
    obtain ⟨b, o, h1, h2, h3⟩ := h.at_ j hj
    exact ⟨b, o, h1, cell_low h2 (cell_lt h2) hb, cell_low h3 (cell_lt h3) hb⟩⟩

theorem below_trans {B : Nat} {w w1 w2 : World} (h : Below B w w1) (k : Below B w1 w2) : Below B w w2 := ⟨k.os.trans h.os, k.tape.trans h.tape, k.output.trans h.output, Nat.le_trans h.size k.size, fun i hi => (k.block i hi).trans (h.block i hi)⟩

theorem Tryz.held50 : Tryz.prog.stoodInHeld 78 = false := by kernel_rfl
theorem Tryz.struct50 : Tryz.prog.underlying 78 = some (.struct (Tryz.prog.fieldsOf 78)) := by kernel_rfl
theorem Tryz.guard50 : Tryz.prog.eqGuardType Tryz.prog.depth 78 = false := by kernel_rfl
theorem eql50 (a b a' b' : Int) (w : World) : (binOp .eql 78 (.agg #[.int .i64 a, .int .i64 b]) (.agg #[.int .i64 a', .int .i64 b'])).run Tryz.prog w = .ok (.bool (decide ((a, b) = (a', b')))) w := by
  have h : (Op.equalIn 10000 78 (.agg #[.int .i64 a, .int .i64 b]) (.agg #[.int .i64 a', .int .i64 b'])).run Tryz.prog w = .ok ((a == a') && (b == b')) w := by
    rw [show (10000 : Nat) = 9999 + 1 from rfl, run_equalIn_struct w 9999 78 _ _ Tryz.struct50 Tryz.held50]
    simp [Program.fieldsOf, Tryz.underlying78, Op.eqFields, go_sem, Tryz.underlying3]
    by_cases h1 : a = a' <;> by_cases h2 : b = b' <;> simp [h1, h2]
  rw [run_eql_struct, h]
  simp [Result.andThen]
  by_cases h1 : a = a' <;> by_cases h2 : b = b' <;> simp [h1, h2]

end Go.Proofs.YtclppfljengnbaaGreat
