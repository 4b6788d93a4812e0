/-
  DERIVED. GIVEN WITH THE SEED: THE CARDS: each row of YtmmppflaacabbaaDoorRows.lean that lists a variable, with what it lists TIED to the program's text (the seventh form; the later family's looks); each row that meets fmt, with fmt's text TOLD by the authors' own Lean function (tested against real Go, not proved from fmt's source: count such statements apart). THE CARD IS WHAT COUNTS. Prove the row's statement (the work); the ties are given (YtmmppflaacabbaaDoorTie.lean); close each card by the builder's one call (the guide's Derived/Test/ToyasCard.lean, 'card_holds'). Laid BY PROGRAM, IN A SANDBOX (cutbox-door.mjs). By AI agents, Wed Nov 11 2026. No macro, syntax, notation, axiom, sorry.
-/
import Derived.Test.YtmmppflaacabbaaDoorRows
import GoSem.ClaimSeven
namespace Go.Proofs.YtmmppflaacabbaaDoor
namespace Rows

/-- THE TIED CARD OF 'laws.FnSorted'. -/
def fnSortedCard : Claim7 := { stood := { row := fnSortedRow, standIns := [], harness := (true, "02e6db7348096ebefd7b6d7fbf014a66a3697554f7b778abda1b1978d28a63ba"), looks := true }, kinds := [], alts := [], laidByText := true, laidKinds := [.data], laidTests := true, laidLooks := .later }
def FnSortedCardSaid : Prop := Claim7.holds Tryd.pinned (.plain (OpenSpec.ofChange fnSortedSpec)) fnSortedCard

/-- THE TIED CARD OF 'laws.FnExactPunchAll'. -/
def fnExactPunchAllCard : Claim7 := { stood := { row := fnExactPunchAllRow, standIns := [], harness := (true, "02e6db7348096ebefd7b6d7fbf014a66a3697554f7b778abda1b1978d28a63ba"), looks := true }, kinds := [], alts := [], laidByText := true, laidKinds := [.data, .sentinel, .sentinel, .sentinel, .sentinel, .pinned], laidTests := true, laidLooks := .later }
def FnExactPunchAllCardSaid : Prop := Claim7.holds Tryd.pinned (.plain (OpenSpec.ofChange fnExactPunchAllSpec)) fnExactPunchAllCard

/-- THE TIED CARD OF 'laws.FnFewest'. -/
def fnFewestCard : Claim7 := { stood := { row := fnFewestRow, standIns := [], harness := (true, "02e6db7348096ebefd7b6d7fbf014a66a3697554f7b778abda1b1978d28a63ba"), looks := true }, kinds := [], alts := [], laidByText := true, laidKinds := [.data], laidTests := true, laidLooks := .later }
def FnFewestCardSaid : Prop := Claim7.holds Tryd.pinned (.plain (OpenSpec.ofChange fnFewestSpec)) fnFewestCard

/-- THE SECOND FORM's CARD OF 'laws.FnSorted'. -/
def fnSortedUptoCard : Claim7 := { stood := { row := fnSortedUptoRow, standIns := [], harness := (true, "02e6db7348096ebefd7b6d7fbf014a66a3697554f7b778abda1b1978d28a63ba"), looks := true }, kinds := [], alts := [], laidByText := true, laidKinds := [.data], laidTests := true, laidLooks := .later }
def FnSortedUptoCardSaid : Prop := Claim7.holds Tryd.pinned (.plain (OpenSpec.upto fnSortedSpec)) fnSortedUptoCard

/-- THE SECOND FORM's CARD OF 'laws.FnExactPunchAll'. -/
def fnExactPunchAllUptoCard : Claim7 := { stood := { row := fnExactPunchAllUptoRow, standIns := [], harness := (true, "02e6db7348096ebefd7b6d7fbf014a66a3697554f7b778abda1b1978d28a63ba"), looks := true }, kinds := [], alts := [], laidByText := true, laidKinds := [.data, .sentinel, .sentinel, .sentinel, .sentinel, .pinned], laidTests := true, laidLooks := .later }
def FnExactPunchAllUptoCardSaid : Prop := Claim7.holds Tryd.pinned (.plain (OpenSpec.upto fnExactPunchAllSpec)) fnExactPunchAllUptoCard

/-- THE SECOND FORM's CARD OF 'laws.FnFewest'. -/
def fnFewestUptoCard : Claim7 := { stood := { row := fnFewestUptoRow, standIns := [], harness := (true, "02e6db7348096ebefd7b6d7fbf014a66a3697554f7b778abda1b1978d28a63ba"), looks := true }, kinds := [], alts := [], laidByText := true, laidKinds := [.data], laidTests := true, laidLooks := .later }
def FnFewestUptoCardSaid : Prop := Claim7.holds Tryd.pinned (.plain (OpenSpec.upto fnFewestSpec)) fnFewestUptoCard
end Rows
end Go.Proofs.YtmmppflaacabbaaDoor
