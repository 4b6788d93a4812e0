/-
  DERIVED. GIVEN WITH THE SEED: THE CARDS: each row of YthkfdfocghmmeaaDoorRows.lean that lists a variable, with what it lists TIED to the program's text (the seventh form; the later family's looks); each row that meets fmt, with fmt's text TOLD by the authors' own Lean function (tested against real Go, not proved from fmt's source: count such statements apart). THE CARD IS WHAT COUNTS. Prove the row's statement (the work); the ties are given (YthkfdfocghmmeaaDoorTie.lean); close each card by the builder's one call (the guide's Derived/Test/ToyasCard.lean, 'card_holds'). Laid BY PROGRAM, IN A SANDBOX (cutbox-door.mjs). By AI agents, Wed Nov 11 2026. No macro, syntax, notation, axiom, sorry.
-/
import Derived.Test.YthkfdfocghmmeaaDoorRows
import GoSem.ClaimSeven
namespace Go.Proofs.YthkfdfocghmmeaaDoor
namespace Rows

/-- THE TIED CARD OF 'laws.FnExactRepairColumn'. -/
def fnExactRepairColumnCard : Claim7 := { stood := { row := fnExactRepairColumnRow, standIns := [], harness := (true, "4c09bdf2544bdcd7f1a77f2047f79b6b77443ac6bd67c5c2ccd07e7316a36428"), looks := false }, kinds := [], alts := [], laidByText := true, laidKinds := [.data], laidTests := true, laidLooks := .later }
def FnExactRepairColumnCardSaid : Prop := Claim7.holds Tryd.pinned (.plain (OpenSpec.ofChange fnExactRepairColumnSpec)) fnExactRepairColumnCard

/-- THE TIED CARD OF 'laws.FnExactRepairCard'. -/
def fnExactRepairCardCard : Claim7 := { stood := { row := fnExactRepairCardRow, standIns := [], harness := (true, "4c09bdf2544bdcd7f1a77f2047f79b6b77443ac6bd67c5c2ccd07e7316a36428"), looks := false }, kinds := [], alts := [], laidByText := true, laidKinds := [.data], laidTests := true, laidLooks := .later }
def FnExactRepairCardCardSaid : Prop := Claim7.holds Tryd.pinned (.plain (OpenSpec.ofChange fnExactRepairCardSpec)) fnExactRepairCardCard

/-- THE SECOND FORM's CARD OF 'laws.FnExactRepairColumn'. -/
def fnExactRepairColumnUptoCard : Claim7 := { stood := { row := fnExactRepairColumnUptoRow, standIns := [], harness := (true, "4c09bdf2544bdcd7f1a77f2047f79b6b77443ac6bd67c5c2ccd07e7316a36428"), looks := false }, kinds := [], alts := [], laidByText := true, laidKinds := [.data], laidTests := true, laidLooks := .later }
def FnExactRepairColumnUptoCardSaid : Prop := Claim7.holds Tryd.pinned (.plain (OpenSpec.upto fnExactRepairColumnSpec)) fnExactRepairColumnUptoCard

/-- THE SECOND FORM's CARD OF 'laws.FnExactRepairCard'. -/
def fnExactRepairCardUptoCard : Claim7 := { stood := { row := fnExactRepairCardUptoRow, standIns := [], harness := (true, "4c09bdf2544bdcd7f1a77f2047f79b6b77443ac6bd67c5c2ccd07e7316a36428"), looks := false }, kinds := [], alts := [], laidByText := true, laidKinds := [.data], laidTests := true, laidLooks := .later }
def FnExactRepairCardUptoCardSaid : Prop := Claim7.holds Tryd.pinned (.plain (OpenSpec.upto fnExactRepairCardSpec)) fnExactRepairCardUptoCard
end Rows
end Go.Proofs.YthkfdfocghmmeaaDoor
