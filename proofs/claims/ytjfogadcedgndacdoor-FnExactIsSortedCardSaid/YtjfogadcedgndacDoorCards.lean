/-
  DERIVED. GIVEN WITH THE SEED: THE CARDS: each row of YtjfogadcedgndacDoorRows.lean that lists a variable, with what it lists TIED to the program's text (the seventh form; the later family's looks); each row that meets fmt, with fmt's text TOLD by the authors' own Lean function (tested against real Go, not proved from fmt's source: count such statements apart). THE CARD IS WHAT COUNTS. Prove the row's statement (the work); the ties are given (YtjfogadcedgndacDoorTie.lean); close each card by the builder's one call (the guide's Derived/Test/ToyasCard.lean, 'card_holds'). Laid BY PROGRAM, IN A SANDBOX (cutbox-door.mjs). By AI agents, Wed Nov 11 2026. No macro, syntax, notation, axiom, sorry.
-/
import Derived.Test.YtjfogadcedgndacDoorRows
import GoSem.ClaimSeven
namespace Go.Proofs.YtjfogadcedgndacDoor
namespace Rows

/-- THE TIED CARD OF 'laws.FnExactOrderBy'. -/
def fnExactOrderByCard : Claim7 := { stood := { row := fnExactOrderByRow, standIns := [], harness := (true, "dfac6b1eb58baf03dd25156145a929d825a7a2840b6fa8c1a79ad8b0fd111c28"), looks := false }, kinds := [], alts := [], laidByText := true, laidKinds := [.data], laidTests := true, laidLooks := .later }
def FnExactOrderByCardSaid : Prop := Claim7.holds Tryd.pinned (.plain (OpenSpec.ofChange fnExactOrderBySpec)) fnExactOrderByCard

/-- THE TIED CARD OF 'laws.FnExactSortedBy'. -/
def fnExactSortedByCard : Claim7 := { stood := { row := fnExactSortedByRow, standIns := [], harness := (true, "dfac6b1eb58baf03dd25156145a929d825a7a2840b6fa8c1a79ad8b0fd111c28"), looks := false }, kinds := [], alts := [], laidByText := true, laidKinds := [.data], laidTests := true, laidLooks := .later }
def FnExactSortedByCardSaid : Prop := Claim7.holds Tryd.pinned (.plain (OpenSpec.ofChange fnExactSortedBySpec)) fnExactSortedByCard

/-- THE TIED CARD OF 'laws.FnExactIsSorted'. -/
def fnExactIsSortedCard : Claim7 := { stood := { row := fnExactIsSortedRow, standIns := [], harness := (true, "dfac6b1eb58baf03dd25156145a929d825a7a2840b6fa8c1a79ad8b0fd111c28"), looks := false }, kinds := [], alts := [], laidByText := true, laidKinds := [.data], laidTests := true, laidLooks := .later }
def FnExactIsSortedCardSaid : Prop := Claim7.holds Tryd.pinned (.plain (OpenSpec.ofChange fnExactIsSortedSpec)) fnExactIsSortedCard

/-- THE SECOND FORM's CARD OF 'laws.FnExactOrderBy'. -/
def fnExactOrderByUptoCard : Claim7 := { stood := { row := fnExactOrderByUptoRow, standIns := [], harness := (true, "dfac6b1eb58baf03dd25156145a929d825a7a2840b6fa8c1a79ad8b0fd111c28"), looks := false }, kinds := [], alts := [], laidByText := true, laidKinds := [.data], laidTests := true, laidLooks := .later }
def FnExactOrderByUptoCardSaid : Prop := Claim7.holds Tryd.pinned (.plain (OpenSpec.upto fnExactOrderBySpec)) fnExactOrderByUptoCard

/-- THE SECOND FORM's CARD OF 'laws.FnExactSortedBy'. -/
def fnExactSortedByUptoCard : Claim7 := { stood := { row := fnExactSortedByUptoRow, standIns := [], harness := (true, "dfac6b1eb58baf03dd25156145a929d825a7a2840b6fa8c1a79ad8b0fd111c28"), looks := false }, kinds := [], alts := [], laidByText := true, laidKinds := [.data], laidTests := true, laidLooks := .later }
def FnExactSortedByUptoCardSaid : Prop := Claim7.holds Tryd.pinned (.plain (OpenSpec.upto fnExactSortedBySpec)) fnExactSortedByUptoCard

/-- THE SECOND FORM's CARD OF 'laws.FnExactIsSorted'. -/
def fnExactIsSortedUptoCard : Claim7 := { stood := { row := fnExactIsSortedUptoRow, standIns := [], harness := (true, "dfac6b1eb58baf03dd25156145a929d825a7a2840b6fa8c1a79ad8b0fd111c28"), looks := false }, kinds := [], alts := [], laidByText := true, laidKinds := [.data], laidTests := true, laidLooks := .later }
def FnExactIsSortedUptoCardSaid : Prop := Claim7.holds Tryd.pinned (.plain (OpenSpec.upto fnExactIsSortedSpec)) fnExactIsSortedUptoCard
end Rows
end Go.Proofs.YtjfogadcedgndacDoor
