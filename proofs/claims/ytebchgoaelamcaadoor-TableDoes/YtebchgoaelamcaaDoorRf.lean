/-
  The walks of the document's More, Sum, Four and Seal.
-/
import Derived.Test.YtebchgoaelamcaaDoorMo
namespace Go.Proofs.YtebchgoaelamcaaDoor
open Go.RowKit
set_option maxRecDepth 100000

theorem crun_snoc8 (n : Nat) (l : List UInt8) (b : UInt8) : crun n (l ++ [b]) = zrun 8 (crun n l ^^^ b.toNat) := by
  rw [crun_append]
  rfl

theorem conv_slB {W : World} {a : Option Addr} {c : Nat} {l : List UInt8} (h : SlB W a l) : (convert 42 9 (.slice a l.length c)).run Tryd.prog W = .ok (.string ⟨l.toArray⟩) W := by
  cases a with
  | none =>
    have := h.nonil rfl
    subst this
    exact run_convert_bytes_nil W 42 5 Tryd.underlying42 Tryd.underlying5 _ _ 9 Tryd.underlying9
  | some x =>
    exact run_convert_bytes_back W 42 9 5 x c l Tryd.underlying42 Tryd.underlying5 Tryd.underlying9 (fun j hj => h.cells x rfl j _ (by simp [bcells, List.getElem?_eq_getElem hj]))

theorem slB_new (w : World) (l : List UInt8) (fr : Nat × Nat) : SlB (w.alloc (.cells (bcells l).toArray 5 fr)) (some ⟨w.heap.size, 0, none⟩) l :=
  ⟨fun h => by simp at h, fun x hx j u hu => by
    simp at hx
    subst hx
    have e : (⟨w.heap.size, 0, none⟩ : Addr).add j = ⟨w.heap.size, j, none⟩ := by unfold Addr.add; split <;> simp_all
    rw [e]
    have hh := heap_alloc_new w (.cells (bcells l).toArray 5 fr)
    simp only [World.cell?, hh]
    rw [← hu]
    simp⟩

theorem four_cells (n : Nat) (hn : n < 4294967296) : (#[.int .u8 ((n : Int) % 256), .int .u8 ((n : Int) / 256 % 256), .int .u8 ((n : Int) / 65536 % 256), .int .u8 ((n : Int) / 16777216)] : Array Value) = (bcells (leB n 4)).toArray := by
  simp [bcells, leB]
  omega

/-- A sum's bytes behind what it is the sum of. -/
def sealB (l : List UInt8) : List UInt8 := l ++ leB (more 0 l) 4
theorem sealB_length (l : List UInt8) : (sealB l).length = l.length + 4 := by simp [sealB, leB_length]

end Go.Proofs.YtebchgoaelamcaaDoor
