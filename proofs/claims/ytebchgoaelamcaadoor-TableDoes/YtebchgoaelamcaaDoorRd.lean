/-
  The document's Do.
-/
import Derived.Test.YtebchgoaelamcaaDoorRu
import Derived.Test.YtebchgoaelamcaaDoorRe
namespace Go.Proofs.YtebchgoaelamcaaDoor
open Go.RowKit
set_option maxRecDepth 100000

theorem get_find {l : List Cl} {k : List UInt8} {m : Nat} (hf : l.findIdx? (isKey k) = some m) (hm : m < l.length) : getL l k = some l[m].val := by
  simp [getL, hf, List.getElem?_eq_getElem hm]

end Go.Proofs.YtebchgoaelamcaaDoor
