/-
  DERIVED. GIVEN WITH THE SEED: THE CARDS: each row of YtkiphejkgpfjjabDoorRows.lean that lists a variable, with what it lists TIED to the program's text (the seventh form; the later family's looks); each row that meets fmt, with fmt's text TOLD by the authors' own Lean function (tested against real Go, not proved from fmt's source: count such statements apart). THE CARD IS WHAT COUNTS. Prove the row's statement (the work); the ties are given (YtkiphejkgpfjjabDoorTie.lean); close each card by the builder's one call (the guide's Derived/Test/ToyasCard.lean, 'card_holds'). Laid BY PROGRAM, IN A SANDBOX (cutbox-door.mjs). By AI agents, Wed Nov 11 2026. No macro, syntax, notation, axiom, sorry.
-/
import Derived.Test.YtkiphejkgpfjjabDoorRows
import GoSem.ClaimSeven
namespace Go.Proofs.YtkiphejkgpfjjabDoor
namespace Rows

/-- THE TIED CARD OF 'laws.FnExactReadCounter'. -/
def fnExactReadCounterCard : Claim7 := { stood := { row := fnExactReadCounterRow, standIns := [], harness := (true, "2edf5887501791afe1514bbb9d75ec135e50cd5b21b1d6a44e42d5c95d51ee60"), looks := false }, kinds := [], alts := [], laidByText := true, laidKinds := [.sentinel, .sentinel], laidTests := true, laidLooks := .later }
def FnExactReadCounterCardSaid : Prop := Claim7.holds Tryd.pinned (.plain (OpenSpec.ofChange fnExactReadCounterSpec)) fnExactReadCounterCard

/-- THE TIED CARD OF 'laws.FnBalances'. -/
def fnBalancesCard : Claim7 := { stood := { row := fnBalancesRow, standIns := [], harness := (true, "2edf5887501791afe1514bbb9d75ec135e50cd5b21b1d6a44e42d5c95d51ee60"), looks := false }, kinds := [], alts := [], laidByText := true, laidKinds := [.data, .data, .data, .sentinel, .sentinel], laidTests := true, laidLooks := .later }
def FnBalancesCardSaid : Prop := Claim7.holds Tryd.pinned (.plain (OpenSpec.ofChange fnBalancesSpec)) fnBalancesCard

/-- THE SECOND FORM's CARD OF 'laws.FnExactReadCounter'. -/
def fnExactReadCounterUptoCard : Claim7 := { stood := { row := fnExactReadCounterUptoRow, standIns := [], harness := (true, "2edf5887501791afe1514bbb9d75ec135e50cd5b21b1d6a44e42d5c95d51ee60"), looks := false }, kinds := [], alts := [], laidByText := true, laidKinds := [.sentinel, .sentinel], laidTests := true, laidLooks := .later }
def FnExactReadCounterUptoCardSaid : Prop := Claim7.holds Tryd.pinned (.plain (OpenSpec.upto fnExactReadCounterSpec)) fnExactReadCounterUptoCard

/-- THE SECOND FORM's CARD OF 'laws.FnBalances'. -/
def fnBalancesUptoCard : Claim7 := { stood := { row := fnBalancesUptoRow, standIns := [], harness := (true, "2edf5887501791afe1514bbb9d75ec135e50cd5b21b1d6a44e42d5c95d51ee60"), looks := false }, kinds := [], alts := [], laidByText := true, laidKinds := [.data, .data, .data, .sentinel, .sentinel], laidTests := true, laidLooks := .later }
def FnBalancesUptoCardSaid : Prop := Claim7.holds Tryd.pinned (.plain (OpenSpec.upto fnBalancesSpec)) fnBalancesUptoCard
end Rows
end Go.Proofs.YtkiphejkgpfjjabDoor
