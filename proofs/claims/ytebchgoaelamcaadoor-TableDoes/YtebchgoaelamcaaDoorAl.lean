/-
  alike, of a page and the document's page that are the same.
-/
import Derived.Test.YtebchgoaelamcaaDoorRr
namespace Go.Proofs.YtebchgoaelamcaaDoor
open Go.RowKit
set_option maxRecDepth 100000

theorem conv_buf {W : World} {G : Nat} {L : List UInt8} (h : Buf W G L) (hl : L.length = 512) : (convert 42 9 (.slice (some ⟨G, 0, none⟩) 512 512)).run Tryd.prog W = .ok (.string (txt L)) W := by
  have := conv_slB (c := 512) (Buf.slB h 0)
  rw [List.drop_zero, hl] at this
  exact this

end Go.Proofs.YtebchgoaelamcaaDoor
