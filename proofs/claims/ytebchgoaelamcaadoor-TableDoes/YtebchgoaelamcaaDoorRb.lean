/-
  The document's bytes of a page.
-/
import Derived.Test.YtebchgoaelamcaaDoorRa
namespace Go.Proofs.YtebchgoaelamcaaDoor
open Go.RowKit
set_option maxRecDepth 100000

/-- How long a text is. -/
def strLen : Value → Nat
  | .string b => b.size
  | _ => 0

theorem layS_take (l : List Cl) (k : Nat) (hk : k < l.length) : layS 512 (l.take (k + 1)) = layS 512 (l.take k) ++ (if l[k].used then leB (512 - sumC (l.take (k + 1))) 2 ++ leB (sizeC l[k]) 2 else leB 0 2 ++ leB 0 2) := by
  have et : l.take (k + 1) = l.take k ++ [l[k]] := by rw [List.take_add_one, List.getElem?_eq_getElem hk]; rfl
  rw [sumC_take l k hk, et, layS_append]
  congr 1
  simp only [layS, List.append_nil]
  split
  · rw [Nat.sub_sub]
  · rfl
theorem layC_take (l : List Cl) (k : Nat) (hk : k < l.length) : layC (l.take (k + 1)) = cellB l[k] ++ layC (l.take k) := by
  have et : l.take (k + 1) = l.take k ++ [l[k]] := by rw [List.take_add_one, List.getElem?_eq_getElem hk]; rfl
  rw [et, layC_append]
  simp [layC]

end Go.Proofs.YtebchgoaelamcaaDoor
