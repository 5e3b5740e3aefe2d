/-
  The walk of lives.
-/
import Derived.Test.YtebchgoaelamcaaDoorAe
namespace Go.Proofs.YtebchgoaelamcaaDoor
open Go.RowKit
set_option maxRecDepth 100000

theorem PgOk.touched {w w' : World} {B p : Nat} {id : Int} {lsn : Nat} {v : Value} {l : List Cl} (h : PgOk w B p id lsn v l) (ht : Touch p v.ownBlock w w') : Below B w w' :=
  ht.below h.base (fun k hk => (h.own.lt k hk).1) (by have := lt_of_blk h.blk; have := h.base; omega)

theorem do_ax : doL [] ⟨1, [97], [], [120]⟩ = ([⟨true, [97], [120]⟩], 0) := by decide
theorem do_ay : doL [⟨true, [97], [120]⟩] ⟨3, [97], [122], []⟩ = ([⟨true, [97], [120]⟩], 10) := by decide
theorem good_ax : GoodL [⟨true, [97], [120]⟩] := by have := do_good goodL_nil ⟨1, [97], [], [120]⟩; rw [do_ax] at this; exact this
theorem turn_ax : turnA ⟨2, [97], [120], [122]⟩ = ⟨2, [97], [122], [120]⟩ := by decide

end Go.Proofs.YtebchgoaelamcaaDoor
