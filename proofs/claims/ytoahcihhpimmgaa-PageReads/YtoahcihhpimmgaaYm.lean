/-
  Slices of bytes that came in.
-/
import Derived.Test.YtoahcihhpimmgaaAg
namespace Go.Proofs.Ytoahcihhpimmgaa
open Go.ChangeShapes Go.WideShapes Go.ChangeAt Go.RowKit

def toB (zs : List Int) : List UInt8 := zs.map fun n => UInt8.ofNat n.toNat

theorem slB_ints {W : World} {x : Addr} {zs : List Int} {len : Nat} (hcell : ∀ i, i < zs.length → W.cell? (x.add i) = some (.int .u8 (zs.getD i 0))) (hwz : ∀ n ∈ zs, (Lit.int .u8 n).wf = true) : SlB W (some x) (toB (zs.take len)) := by
  refine ⟨fun h => by simp at h, fun y hy j u hu => ?_⟩
  simp at hy
  subst hy
  have hj : j < (zs.take len).length := by have := (List.getElem?_eq_some_iff.1 hu).1; simpa [bcells, toB] using this
  have hj2 : j < zs.length := by simp at hj; omega
  rw [hcell j hj2]
  have hw := hwz zs[j] (List.getElem_mem hj2)
  have hb : 0 ≤ zs[j] ∧ zs[j] ≤ 255 := by simpa [Lit.wf, IntKind.min, IntKind.max, IntKind.signed, IntKind.bits] using hw
  simp [bcells, toB, List.getElem?_take, hj2] at hu
  obtain ⟨h1, rfl⟩ := hu
  simp [List.getD, List.getElem?_eq_getElem hj2]
  omega

theorem SlB.empty {w : World} : SlB w none [] := ⟨fun _ => rfl, fun x hx => by simp at hx⟩

end Go.Proofs.Ytoahcihhpimmgaa
