/-
  The walks of lives and of made.
-/
import Derived.Test.YtcloinonhpaojaaBe
namespace Go.Proofs.Ytcloinonhpaojaa
open Go.RowKit

theorem PgOk.touched {w w' : World} {B p : Nat} {id : Int} {lsn : Nat} {v : Value} {l : List Cl} (h : PgOk w B p id lsn v l) (ht : Touch p v.ownBlock w w') : Below B w w' :=
  ht.below h.base (fun k hk => (h.own.lt k hk).1) (by have := lt_of_blk h.blk; have := h.base; omega)

theorem ins_ax : insL [] [97] [120] = ([⟨true, [97], [120]⟩], 0) := by decide
theorem good_ax : GoodL [⟨true, [97], [120]⟩] := by have := ins_good goodL_nil [97] [120]; rw [ins_ax] at this; exact this
theorem get_ax : getL [⟨true, [97], [120]⟩] [97] = some [120] := by decide
theorem free_ax : freeL [⟨true, [97], [120]⟩] = 489 := by decide

end Go.Proofs.Ytcloinonhpaojaa
