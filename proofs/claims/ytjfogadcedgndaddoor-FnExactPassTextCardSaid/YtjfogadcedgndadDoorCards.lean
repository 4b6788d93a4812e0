/-
  DERIVED. GIVEN WITH THE SEED: THE CARDS: each row of YtjfogadcedgndadDoorRows.lean that lists a variable, with what it lists TIED to the program's text (the seventh form; the later family's looks); each row that meets fmt, with fmt's text TOLD by the authors' own Lean function (tested against real Go, not proved from fmt's source: count such statements apart). THE CARD IS WHAT COUNTS. Prove the row's statement (the work); the ties are given (YtjfogadcedgndadDoorTie.lean); close each card by the builder's one call (the guide's Derived/Test/ToyasCard.lean, 'card_holds'). Laid BY PROGRAM, IN A SANDBOX (cutbox-door.mjs). By AI agents, Wed Nov 11 2026. No macro, syntax, notation, axiom, sorry.
-/
import Derived.Test.YtjfogadcedgndadDoorRows
import GoSem.ClaimSeven
namespace Go.Proofs.YtjfogadcedgndadDoor
namespace Rows

/-- THE TIED CARD OF 'laws.FnExactFirstStep'. -/
def fnExactFirstStepCard : Claim7 := { stood := { row := fnExactFirstStepRow, standIns := [], harness := (true, "70142b5e67df350546abfe2f9c8ecaf8386cdbf33c880940d18f7c6a275875d9"), looks := false }, kinds := [], alts := [], laidByText := true, laidKinds := [.data], laidTests := true, laidLooks := .later }
def FnExactFirstStepCardSaid : Prop := Claim7.holds Tryd.pinned (.plain (OpenSpec.ofChange fnExactFirstStepSpec)) fnExactFirstStepCard

/-- THE TIED CARD OF 'laws.FnExactPassText'. -/
def fnExactPassTextCard : Claim7 := { stood := { row := fnExactPassTextRow, standIns := [], harness := (true, "70142b5e67df350546abfe2f9c8ecaf8386cdbf33c880940d18f7c6a275875d9"), looks := false }, kinds := [], alts := [], laidByText := true, laidKinds := [.data, .data, .data, .data], laidTests := true, laidLooks := .later }
def FnExactPassTextCardSaid : Prop := Claim7.holds Tryd.pinned (.plain (OpenSpec.ofChange fnExactPassTextSpec)) fnExactPassTextCard

/-- THE SECOND FORM's CARD OF 'laws.FnExactFirstStep'. -/
def fnExactFirstStepUptoCard : Claim7 := { stood := { row := fnExactFirstStepUptoRow, standIns := [], harness := (true, "70142b5e67df350546abfe2f9c8ecaf8386cdbf33c880940d18f7c6a275875d9"), looks := false }, kinds := [], alts := [], laidByText := true, laidKinds := [.data], laidTests := true, laidLooks := .later }
def FnExactFirstStepUptoCardSaid : Prop := Claim7.holds Tryd.pinned (.plain (OpenSpec.upto fnExactFirstStepSpec)) fnExactFirstStepUptoCard

/-- THE SECOND FORM's CARD OF 'laws.FnExactPassText'. -/
def fnExactPassTextUptoCard : Claim7 := { stood := { row := fnExactPassTextUptoRow, standIns := [], harness := (true, "70142b5e67df350546abfe2f9c8ecaf8386cdbf33c880940d18f7c6a275875d9"), looks := false }, kinds := [], alts := [], laidByText := true, laidKinds := [.data, .data, .data, .data], laidTests := true, laidLooks := .later }
def FnExactPassTextUptoCardSaid : Prop := Claim7.holds Tryd.pinned (.plain (OpenSpec.upto fnExactPassTextSpec)) fnExactPassTextUptoCard
end Rows
end Go.Proofs.YtjfogadcedgndadDoor
