/-
  What the frames want of the program.
-/
import Derived.Test.YtfdpmffoajjchaaProg
import Derived.ProofKit
import Derived.OpenShut
import Derived.SizedLaws
import Derived.ChangeMaps5
import Derived.Deep.Grids
namespace Go.Proofs.Ytfdpmffoajjchaa
open Go.ChangeShapes Go.WideShapes Go.ChangeAt Go.RowKit

theorem Try.own : ownKnob Try.prog.godebug = none := by kernel_rfl
theorem Try.laidOut : laidOutB Try.prog = true := by kernel_rfl

end Go.Proofs.Ytfdpmffoajjchaa
