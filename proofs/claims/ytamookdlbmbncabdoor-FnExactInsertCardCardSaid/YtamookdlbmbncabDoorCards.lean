/-
  DERIVED. GIVEN WITH THE SEED: THE CARDS: each row of YtamookdlbmbncabDoorRows.lean that lists a variable, with what it lists TIED to the program's text (the seventh form; the later family's looks); each row that meets fmt, with fmt's text TOLD by the authors' own Lean function (tested against real Go, not proved from fmt's source: count such statements apart). THE CARD IS WHAT COUNTS. Prove the row's statement (the work); the ties are given (YtamookdlbmbncabDoorTie.lean); close each card by the builder's one call (the guide's Derived/Test/ToyasCard.lean, 'card_holds'). Laid BY PROGRAM, IN A SANDBOX (cutbox-door.mjs). By AI agents, Wed Nov 11 2026. No macro, syntax, notation, axiom, sorry.
-/
import Derived.Test.YtamookdlbmbncabDoorRows
import GoSem.ClaimSeven
namespace Go.Proofs.YtamookdlbmbncabDoor
namespace Rows

/-- THE TIED CARD OF 'laws.FnExactInsertCard'. -/
def fnExactInsertCardCard : Claim7 := { stood := { row := fnExactInsertCardRow, standIns := [], harness := (true, "58c7e96fda8c0cdee2c77a8ab1395da16a992322076f216c0cb810ce6e01759e"), looks := false }, kinds := [], alts := [], laidByText := true, laidKinds := [.data], laidTests := true, laidLooks := .later }
def FnExactInsertCardCardSaid : Prop := Claim7.holds Tryd.pinned (.plain (OpenSpec.ofChange fnExactInsertCardSpec)) fnExactInsertCardCard

/-- THE SECOND FORM's CARD OF 'laws.FnExactInsertCard'. -/
def fnExactInsertCardUptoCard : Claim7 := { stood := { row := fnExactInsertCardUptoRow, standIns := [], harness := (true, "58c7e96fda8c0cdee2c77a8ab1395da16a992322076f216c0cb810ce6e01759e"), looks := false }, kinds := [], alts := [], laidByText := true, laidKinds := [.data], laidTests := true, laidLooks := .later }
def FnExactInsertCardUptoCardSaid : Prop := Claim7.holds Tryd.pinned (.plain (OpenSpec.upto fnExactInsertCardSpec)) fnExactInsertCardUptoCard
end Rows
end Go.Proofs.YtamookdlbmbncabDoor
