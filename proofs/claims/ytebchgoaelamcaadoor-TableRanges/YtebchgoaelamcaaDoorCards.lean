/-
  DERIVED. GIVEN WITH THE SEED: THE CARDS: each row of YtebchgoaelamcaaDoorRows.lean that lists a variable, with what it lists TIED to the program's text (the seventh form; the later family's looks); each row that meets fmt, with fmt's text TOLD by the authors' own Lean function (tested against real Go, not proved from fmt's source: count such statements apart). THE CARD IS WHAT COUNTS. Prove the row's statement (the work); the ties are given (YtebchgoaelamcaaDoorTie.lean); close each card by the builder's one call (the guide's Derived/Test/ToyasCard.lean, 'card_holds'). Laid BY PROGRAM, IN A SANDBOX (cutbox-door.mjs). By AI agents, Wed Nov 11 2026. No macro, syntax, notation, axiom, sorry.
-/
import Derived.Test.YtebchgoaelamcaaDoorRows
import GoSem.ClaimSeven
namespace Go.Proofs.YtebchgoaelamcaaDoor
namespace Rows

/-- THE TIED CARD OF 'flotillalaw16.TableHomes'. -/
def tableHomesCard : Claim7 := { stood := { row := tableHomesRow, standIns := [], harness := (true, "f403fdf3d0f8521104a889ed195fd346f1f3e6ed6c36f1cff82809cfd6237526"), looks := false }, kinds := [], alts := [], laidByText := true, laidKinds := [.data, .data, .data], laidTests := true, laidLooks := .later }
def TableHomesCardSaid : Prop := Claim7.holds Tryd.pinned (.plain (OpenSpec.ofChange tableHomesSpec)) tableHomesCard

/-- THE TIED CARD OF 'flotillalaw16.TablePlans'. -/
def tablePlansCard : Claim7 := { stood := { row := tablePlansRow, standIns := [], harness := (true, "f403fdf3d0f8521104a889ed195fd346f1f3e6ed6c36f1cff82809cfd6237526"), looks := false }, kinds := [], alts := [], laidByText := true, laidKinds := [.data, .data, .data], laidTests := true, laidLooks := .later }
def TablePlansCardSaid : Prop := Claim7.holds Tryd.pinned (.plain (OpenSpec.ofChange tablePlansSpec)) tablePlansCard

/-- THE TIED CARD OF 'flotillalaw16.TableDoes'. -/
def tableDoesCard : Claim7 := { stood := { row := tableDoesRow, standIns := [], harness := (true, "f403fdf3d0f8521104a889ed195fd346f1f3e6ed6c36f1cff82809cfd6237526"), looks := false }, kinds := [], alts := [], laidByText := true, laidKinds := [.data, .data, .data], laidTests := true, laidLooks := .later }
def TableDoesCardSaid : Prop := Claim7.holds Tryd.pinned (.plain (OpenSpec.ofChange tableDoesSpec)) tableDoesCard

/-- THE TIED CARD OF 'flotillalaw16.TableRanges'. -/
def tableRangesCard : Claim7 := { stood := { row := tableRangesRow, standIns := [], harness := (true, "f403fdf3d0f8521104a889ed195fd346f1f3e6ed6c36f1cff82809cfd6237526"), looks := false }, kinds := [], alts := [], laidByText := true, laidKinds := [.data, .data, .data], laidTests := true, laidLooks := .later }
def TableRangesCardSaid : Prop := Claim7.holds Tryd.pinned (.plain (OpenSpec.ofChange tableRangesSpec)) tableRangesCard

/-- THE TIED CARD OF 'flotillalaw16.TableRises'. -/
def tableRisesCard : Claim7 := { stood := { row := tableRisesRow, standIns := [], harness := (true, "f403fdf3d0f8521104a889ed195fd346f1f3e6ed6c36f1cff82809cfd6237526"), looks := false }, kinds := [], alts := [], laidByText := true, laidKinds := [.data, .data, .data], laidTests := true, laidLooks := .later }
def TableRisesCardSaid : Prop := Claim7.holds Tryd.pinned (.plain (OpenSpec.ofChange tableRisesSpec)) tableRisesCard

/-- THE TIED CARD OF 'flotillalaw16.TableLocks'. -/
def tableLocksCard : Claim7 := { stood := { row := tableLocksRow, standIns := [], harness := (true, "f403fdf3d0f8521104a889ed195fd346f1f3e6ed6c36f1cff82809cfd6237526"), looks := false }, kinds := [], alts := [], laidByText := true, laidKinds := [.data, .data, .data], laidTests := true, laidLooks := .later }
def TableLocksCardSaid : Prop := Claim7.holds Tryd.pinned (.plain (OpenSpec.ofChange tableLocksSpec)) tableLocksCard

/-- THE SECOND FORM's CARD OF 'flotillalaw16.TableHomes'. -/
def tableHomesUptoCard : Claim7 := { stood := { row := tableHomesUptoRow, standIns := [], harness := (true, "f403fdf3d0f8521104a889ed195fd346f1f3e6ed6c36f1cff82809cfd6237526"), looks := false }, kinds := [], alts := [], laidByText := true, laidKinds := [.data, .data, .data], laidTests := true, laidLooks := .later }
def TableHomesUptoCardSaid : Prop := Claim7.holds Tryd.pinned (.plain (OpenSpec.upto tableHomesSpec)) tableHomesUptoCard

/-- THE SECOND FORM's CARD OF 'flotillalaw16.TablePlans'. -/
def tablePlansUptoCard : Claim7 := { stood := { row := tablePlansUptoRow, standIns := [], harness := (true, "f403fdf3d0f8521104a889ed195fd346f1f3e6ed6c36f1cff82809cfd6237526"), looks := false }, kinds := [], alts := [], laidByText := true, laidKinds := [.data, .data, .data], laidTests := true, laidLooks := .later }
def TablePlansUptoCardSaid : Prop := Claim7.holds Tryd.pinned (.plain (OpenSpec.upto tablePlansSpec)) tablePlansUptoCard

/-- THE SECOND FORM's CARD OF 'flotillalaw16.TableDoes'. -/
def tableDoesUptoCard : Claim7 := { stood := { row := tableDoesUptoRow, standIns := [], harness := (true, "f403fdf3d0f8521104a889ed195fd346f1f3e6ed6c36f1cff82809cfd6237526"), looks := false }, kinds := [], alts := [], laidByText := true, laidKinds := [.data, .data, .data], laidTests := true, laidLooks := .later }
def TableDoesUptoCardSaid : Prop := Claim7.holds Tryd.pinned (.plain (OpenSpec.upto tableDoesSpec)) tableDoesUptoCard

/-- THE SECOND FORM's CARD OF 'flotillalaw16.TableRanges'. -/
def tableRangesUptoCard : Claim7 := { stood := { row := tableRangesUptoRow, standIns := [], harness := (true, "f403fdf3d0f8521104a889ed195fd346f1f3e6ed6c36f1cff82809cfd6237526"), looks := false }, kinds := [], alts := [], laidByText := true, laidKinds := [.data, .data, .data], laidTests := true, laidLooks := .later }
def TableRangesUptoCardSaid : Prop := Claim7.holds Tryd.pinned (.plain (OpenSpec.upto tableRangesSpec)) tableRangesUptoCard

/-- THE SECOND FORM's CARD OF 'flotillalaw16.TableRises'. -/
def tableRisesUptoCard : Claim7 := { stood := { row := tableRisesUptoRow, standIns := [], harness := (true, "f403fdf3d0f8521104a889ed195fd346f1f3e6ed6c36f1cff82809cfd6237526"), looks := false }, kinds := [], alts := [], laidByText := true, laidKinds := [.data, .data, .data], laidTests := true, laidLooks := .later }
def TableRisesUptoCardSaid : Prop := Claim7.holds Tryd.pinned (.plain (OpenSpec.upto tableRisesSpec)) tableRisesUptoCard

/-- THE SECOND FORM's CARD OF 'flotillalaw16.TableLocks'. -/
def tableLocksUptoCard : Claim7 := { stood := { row := tableLocksUptoRow, standIns := [], harness := (true, "f403fdf3d0f8521104a889ed195fd346f1f3e6ed6c36f1cff82809cfd6237526"), looks := false }, kinds := [], alts := [], laidByText := true, laidKinds := [.data, .data, .data], laidTests := true, laidLooks := .later }
def TableLocksUptoCardSaid : Prop := Claim7.holds Tryd.pinned (.plain (OpenSpec.upto tableLocksSpec)) tableLocksUptoCard
end Rows
end Go.Proofs.YtebchgoaelamcaaDoor
