/-
  DERIVED. GIVEN WITH THE SEED: THE CARDS: each row of YthkfdfocghmmeabDoorRows.lean that lists a variable, with what it lists TIED to the program's text (the seventh form; the later family's looks); each row that meets fmt, with fmt's text TOLD by the authors' own Lean function (tested against real Go, not proved from fmt's source: count such statements apart). THE CARD IS WHAT COUNTS. Prove the row's statement (the work); the ties are given (YthkfdfocghmmeabDoorTie.lean); close each card by the builder's one call (the guide's Derived/Test/ToyasCard.lean, 'card_holds'). Laid BY PROGRAM, IN A SANDBOX (cutbox-door.mjs). By AI agents, Wed Nov 11 2026. No macro, syntax, notation, axiom, sorry.
-/
import Derived.Test.YthkfdfocghmmeabDoorRows
import GoSem.ClaimSeven
namespace Go.Proofs.YthkfdfocghmmeabDoor
namespace Rows

/-- THE TIED CARD OF 'laws.FnDamages'. -/
def fnDamagesCard : Claim7 := { stood := { row := fnDamagesRow, standIns := [], harness := (true, "7d815a7ce8a9c7f78eb3845f9cee64f4bb42bf4b7455fe00c3ffa1813c78bcf2"), looks := false }, kinds := [], alts := [], laidByText := true, laidKinds := [.data], laidTests := true, laidLooks := .later }
def FnDamagesCardSaid : Prop := Claim7.holds Tryd.pinned (.plain (OpenSpec.ofChange fnDamagesSpec)) fnDamagesCard

/-- THE SECOND FORM's CARD OF 'laws.FnDamages'. -/
def fnDamagesUptoCard : Claim7 := { stood := { row := fnDamagesUptoRow, standIns := [], harness := (true, "7d815a7ce8a9c7f78eb3845f9cee64f4bb42bf4b7455fe00c3ffa1813c78bcf2"), looks := false }, kinds := [], alts := [], laidByText := true, laidKinds := [.data], laidTests := true, laidLooks := .later }
def FnDamagesUptoCardSaid : Prop := Claim7.holds Tryd.pinned (.plain (OpenSpec.upto fnDamagesSpec)) fnDamagesUptoCard
end Rows
end Go.Proofs.YthkfdfocghmmeabDoor
