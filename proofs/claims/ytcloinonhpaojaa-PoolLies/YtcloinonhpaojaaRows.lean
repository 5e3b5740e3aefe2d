/-
  No cell of these rows narrows 'for every input' (looked for: loops, veiled, ifaces, maps, wideKeys, modest, calm, conditions, laid).
  DERIVED. THE GIVEN ROWS OF THIS SEAT. 4 by the template 'for every input the law returns true; each argument reads behind the call as it read before'; 0 by the template 'total and deterministic' (their statements: YtcloinonhpaojaaTotals.lean).
  GIVEN WITH THE SEED: the statements are not yours to turn. If you find one false, say at which input.
  Laid BY PROGRAM, IN A SANDBOX (cutbox-rows.mjs): the forced cells as the released guide's own fill.sh prints them over the translation 45513eb8878ae6ef… (all of the seat's roots in one cut). By AI agents, Wed Nov 11 2026. No macro, syntax, notation, axiom, sorry.
-/
import Derived.Test.YtcloinonhpaojaaChecked
import GoSem.Claim
import GoSem.ClaimJoined
import GoSem.ClaimMapViews
import Derived.JoinedTies
import Derived.KernelRfl
namespace Go.Proofs.Ytcloinonhpaojaa
/- THE CELL 'sum', in the pinned program and in every row, IS THE sha256 OF THE DUMP (.gsa) THAT YtcloinonhpaojaaProg.lean LOADS. Nothing in Lean hashes anything: it is a label: what it is worth is what the hold of that sum in a sandbox is worth. -/
noncomputable def Try.pinned : Pinned := { name := "ytcloinonhpaojaa", sum := "45513eb8878ae6efe3ab60d9c5d31725fa3a7165beb6ed1e026a83ba0a2fc17f", checked := Try.checked }
namespace Rows
def none {H : Type} : Left H := { results := [], args := [] }

/-- 'flotillalaw15.PoolAhead': WHATEVER THE INPUT: true; the input reads as it did. -/
def poolAheadSpec : ChangeSpec := { name := "poolAhead", fn := fun _ => fun
  | [d1, d2] => { results := [.lit (.bool true)], args := [d1, d2] }
  | _ => none }
def poolAheadRow : OpenClaim := { program := "ytcloinonhpaojaa", sum := "45513eb8878ae6efe3ab60d9c5d31725fa3a7165beb6ed1e026a83ba0a2fc17f", func := "flotilla/flotillalaw15.PoolAhead", spec := "poolAhead", unfollowed := true, recurses := true, apart := false }
def PoolAheadSaid : Prop := poolAheadRow.holds Try.pinned (OpenSpec.ofChange poolAheadSpec)

/-- ITS FALSE NEIGHBOUR: 'it returns false'. Refute it at one input. -/
def poolAheadWrong : ChangeSpec := { name := "poolAhead", fn := fun _ => fun
  | [d1, d2] => { results := [.lit (.bool false)], args := [d1, d2] }
  | _ => none }
def PoolAheadWrongFalsely : Prop := poolAheadRow.holds Try.pinned (OpenSpec.ofChange poolAheadWrong)

/-- 'flotillalaw15.PoolLies': WHATEVER THE INPUT: true; the input reads as it did. -/
def poolLiesSpec : ChangeSpec := { name := "poolLies", fn := fun _ => fun
  | [d1, d2] => { results := [.lit (.bool true)], args := [d1, d2] }
  | _ => none }
def poolLiesRow : OpenClaim := { program := "ytcloinonhpaojaa", sum := "45513eb8878ae6efe3ab60d9c5d31725fa3a7165beb6ed1e026a83ba0a2fc17f", func := "flotilla/flotillalaw15.PoolLies", spec := "poolLies", unfollowed := true, recurses := true, apart := false }
def PoolLiesSaid : Prop := poolLiesRow.holds Try.pinned (OpenSpec.ofChange poolLiesSpec)

/-- ITS FALSE NEIGHBOUR: 'it returns false'. Refute it at one input. -/
def poolLiesWrong : ChangeSpec := { name := "poolLies", fn := fun _ => fun
  | [d1, d2] => { results := [.lit (.bool false)], args := [d1, d2] }
  | _ => none }
def PoolLiesWrongFalsely : Prop := poolLiesRow.holds Try.pinned (OpenSpec.ofChange poolLiesWrong)

/-- 'flotillalaw15.PoolFrames': WHATEVER THE INPUT: true; the input reads as it did. -/
def poolFramesSpec : ChangeSpec := { name := "poolFrames", fn := fun _ => fun
  | [d1, d2, d3] => { results := [.lit (.bool true)], args := [d1, d2, d3] }
  | _ => none }
def poolFramesRow : OpenClaim := { program := "ytcloinonhpaojaa", sum := "45513eb8878ae6efe3ab60d9c5d31725fa3a7165beb6ed1e026a83ba0a2fc17f", func := "flotilla/flotillalaw15.PoolFrames", spec := "poolFrames", unfollowed := true, recurses := true, apart := false }
def PoolFramesSaid : Prop := poolFramesRow.holds Try.pinned (OpenSpec.ofChange poolFramesSpec)

/-- ITS FALSE NEIGHBOUR: 'it returns false'. Refute it at one input. -/
def poolFramesWrong : ChangeSpec := { name := "poolFrames", fn := fun _ => fun
  | [d1, d2, d3] => { results := [.lit (.bool false)], args := [d1, d2, d3] }
  | _ => none }
def PoolFramesWrongFalsely : Prop := poolFramesRow.holds Try.pinned (OpenSpec.ofChange poolFramesWrong)

/-- 'flotillalaw15.PoolNils': WHATEVER THE INPUT: true; the input reads as it did. -/
def poolNilsSpec : ChangeSpec := { name := "poolNils", fn := fun _ => fun
  | [d1, d2, d3] => { results := [.lit (.bool true)], args := [d1, d2, d3] }
  | _ => none }
def poolNilsRow : OpenClaim := { program := "ytcloinonhpaojaa", sum := "45513eb8878ae6efe3ab60d9c5d31725fa3a7165beb6ed1e026a83ba0a2fc17f", func := "flotilla/flotillalaw15.PoolNils", spec := "poolNils", unfollowed := true, recurses := true, apart := false }
def PoolNilsSaid : Prop := poolNilsRow.holds Try.pinned (OpenSpec.ofChange poolNilsSpec)

/-- ITS FALSE NEIGHBOUR: 'it returns false'. Refute it at one input. -/
def poolNilsWrong : ChangeSpec := { name := "poolNils", fn := fun _ => fun
  | [d1, d2, d3] => { results := [.lit (.bool false)], args := [d1, d2, d3] }
  | _ => none }
def PoolNilsWrongFalsely : Prop := poolNilsRow.holds Try.pinned (OpenSpec.ofChange poolNilsWrong)

/- THE SECOND FORM. 'bulk': how many values and letters a reading holds, each counted each time it is reached (what is shared counts as often as it is met; a slice's spare places count too). A statement '..UptoSaid' is the law's where the arguments, and the package variables that the reading takes, are together of bulk at most 1048576: NARROWER than '..Said'. Prove '..Said' where nothing that the law and all that it calls make is longer than what came in: it says more and counts as full. Else prove '..UptoSaid'. A law counts once. -/
mutual
def uptoBulk {H : Type} : DataW H → Nat
  | .lit (.string bytes) => bytes.length + 1
  | .lit _ => 1
  | .nil => 1
  | .ptr d => uptoBulk d + 1
  | .slice elems spare => uptoBulkAll elems + uptoBulkAll spare + 1
  | .agg parts => uptoBulkAll parts + 1
  | .iface _ d => uptoBulk d + 1
  | .map entries => uptoBulkEntries entries + 1
  | .held _ => 1
def uptoBulkAll {H : Type} : List (DataW H) → Nat
  | [] => 0
  | d :: r => uptoBulk d + uptoBulkAll r
def uptoBulkEntries {H : Type} : List (Lit × DataW H) → Nat
  | [] => 0
  | x :: r => uptoBulkEntry x + uptoBulkEntries r
def uptoBulkEntry {H : Type} : Lit × DataW H → Nat
  | (.string bytes, d) => bytes.length + uptoBulk d + 1
  | (_, d) => uptoBulk d + 1
 end
def uptoSmall : (H : Type) → List (DataW H) → Bool := fun _ ds => decide (uptoBulkAll ds ≤ 1048576)
def OpenSpec.upto (s : _root_.Go.ChangeSpec) : _root_.Go.OpenSpec := { _root_.Go.OpenSpec.ofChange s with cond := some uptoSmall }

/-- 'flotillalaw15.PoolAhead', WHERE WHAT IT READS IS OF BULK AT MOST 1048576: true; the input reads as it did. -/
def poolAheadUptoRow : OpenClaim := { program := "ytcloinonhpaojaa", sum := "45513eb8878ae6efe3ab60d9c5d31725fa3a7165beb6ed1e026a83ba0a2fc17f", func := "flotilla/flotillalaw15.PoolAhead", spec := "poolAhead", unfollowed := true, recurses := true, apart := false, narrowed := true }
def PoolAheadUptoSaid : Prop := poolAheadUptoRow.holds Try.pinned (OpenSpec.upto poolAheadSpec)

/-- 'flotillalaw15.PoolLies', WHERE WHAT IT READS IS OF BULK AT MOST 1048576: true; the input reads as it did. -/
def poolLiesUptoRow : OpenClaim := { program := "ytcloinonhpaojaa", sum := "45513eb8878ae6efe3ab60d9c5d31725fa3a7165beb6ed1e026a83ba0a2fc17f", func := "flotilla/flotillalaw15.PoolLies", spec := "poolLies", unfollowed := true, recurses := true, apart := false, narrowed := true }
def PoolLiesUptoSaid : Prop := poolLiesUptoRow.holds Try.pinned (OpenSpec.upto poolLiesSpec)

/-- 'flotillalaw15.PoolFrames', WHERE WHAT IT READS IS OF BULK AT MOST 1048576: true; the input reads as it did. -/
def poolFramesUptoRow : OpenClaim := { program := "ytcloinonhpaojaa", sum := "45513eb8878ae6efe3ab60d9c5d31725fa3a7165beb6ed1e026a83ba0a2fc17f", func := "flotilla/flotillalaw15.PoolFrames", spec := "poolFrames", unfollowed := true, recurses := true, apart := false, narrowed := true }
def PoolFramesUptoSaid : Prop := poolFramesUptoRow.holds Try.pinned (OpenSpec.upto poolFramesSpec)

/-- 'flotillalaw15.PoolNils', WHERE WHAT IT READS IS OF BULK AT MOST 1048576: true; the input reads as it did. -/
def poolNilsUptoRow : OpenClaim := { program := "ytcloinonhpaojaa", sum := "45513eb8878ae6efe3ab60d9c5d31725fa3a7165beb6ed1e026a83ba0a2fc17f", func := "flotilla/flotillalaw15.PoolNils", spec := "poolNils", unfollowed := true, recurses := true, apart := false, narrowed := true }
def PoolNilsUptoSaid : Prop := poolNilsUptoRow.holds Try.pinned (OpenSpec.upto poolNilsSpec)

end Rows
end Go.Proofs.Ytcloinonhpaojaa
