/-
  Great frames, by a function from slots to values; pieces of a code.
-/
import Derived.Test.YtoahcihhpimmgabMd
import Derived.Lib.Hide
namespace Go.Proofs.Ytoahcihhpimmgab
open Go.RowKit

theorem toHid {p : Prop} (h : p) : Hid p := h
def frameN (n : Nat) (u : Nat → Value) : Act := ⟨((List.range n).map u).toArray, []⟩
theorem frameN_lit (n : Nat) (a : Act) (hs : a.tmps.size = n) (hd : a.defers = []) : a = frameN n (fun i => a.tmps.getD i undef) := by
  obtain ⟨⟨l⟩, d⟩ := a
  simp at hs hd
  subst hd
  unfold frameN
  congr 2
  apply List.ext_getElem
  · simp [hs]
  · intro i h1 h2
    simp [h1]
set_option maxRecDepth 100000 in
theorem frame_open173 (u : Nat → Value) : frameN 173 u = ⟨#[u 0, u 1, u 2, u 3, u 4, u 5, u 6, u 7, u 8, u 9, u 10, u 11, u 12, u 13, u 14, u 15, u 16, u 17, u 18, u 19, u 20, u 21, u 22, u 23, u 24, u 25, u 26, u 27, u 28, u 29, u 30, u 31, u 32, u 33, u 34, u 35, u 36, u 37, u 38, u 39, u 40, u 41, u 42, u 43, u 44, u 45, u 46, u 47, u 48, u 49, u 50, u 51, u 52, u 53, u 54, u 55, u 56, u 57, u 58, u 59, u 60, u 61, u 62, u 63, u 64, u 65, u 66, u 67, u 68, u 69, u 70, u 71, u 72, u 73, u 74, u 75, u 76, u 77, u 78, u 79, u 80, u 81, u 82, u 83, u 84, u 85, u 86, u 87, u 88, u 89, u 90, u 91, u 92, u 93, u 94, u 95, u 96, u 97, u 98, u 99, u 100, u 101, u 102, u 103, u 104, u 105, u 106, u 107, u 108, u 109, u 110, u 111, u 112, u 113, u 114, u 115, u 116, u 117, u 118, u 119, u 120, u 121, u 122, u 123, u 124, u 125, u 126, u 127, u 128, u 129, u 130, u 131, u 132, u 133, u 134, u 135, u 136, u 137, u 138, u 139, u 140, u 141, u 142, u 143, u 144, u 145, u 146, u 147, u 148, u 149, u 150, u 151, u 152, u 153, u 154, u 155, u 156, u 157, u 158, u 159, u 160, u 161, u 162, u 163, u 164, u 165, u 166, u 167, u 168, u 169, u 170, u 171, u 172], []⟩ := by kernel_rfl

/-- The loops of a code, one behind the other. -/
def loopsOf : Code → List Code
  | .loop c => [c]
  | .seq a b => loopsOf a ++ loopsOf b
  | .block _ c => loopsOf c
  | .scope c => loopsOf c
  | .cond _ a b => loopsOf a ++ loopsOf b
  | _ => []
def tailOf : Nat → Code → Code
  | 0, c => c
  | k + 1, .seq _ b => tailOf k b
  | _, c => c
def headOf : Code → Code
  | .seq a _ => a
  | c => c
def blkOf : Code → Code
  | .block _ c => c
  | c => c

end Go.Proofs.Ytoahcihhpimmgab
