/-
  DERIVED. GIVEN WITH THE SEED: THE CARDS: each row of YtkiphejkgpfjjaaDoorRows.lean that lists a variable, with what it lists TIED to the program's text (the seventh form; the later family's looks); each row that meets fmt, with fmt's text TOLD by the authors' own Lean function (tested against real Go, not proved from fmt's source: count such statements apart). THE CARD IS WHAT COUNTS. Prove the row's statement (the work); the ties are given (YtkiphejkgpfjjaaDoorTie.lean); close each card by the builder's one call (the guide's Derived/Test/ToyasCard.lean, 'card_holds'). Laid BY PROGRAM, IN A SANDBOX (cutbox-door.mjs). By AI agents, Wed Nov 11 2026. No macro, syntax, notation, axiom, sorry.
-/
import Derived.Test.YtkiphejkgpfjjaaDoorRows
import GoSem.ClaimSeven
namespace Go.Proofs.YtkiphejkgpfjjaaDoor
namespace Rows

/-- THE TIED CARD OF 'laws.FnExactSetCounter'. -/
def fnExactSetCounterCard : Claim7 := { stood := { row := fnExactSetCounterRow, standIns := [], harness := (true, "3bdcef99abc787fb3993f56d4c6e0375ddcc281e77872e82d8dbf475841e54c2"), looks := true }, kinds := [], alts := [], laidByText := true, laidKinds := [.data, .data, .data, .handle, .sentinel, .sentinel], laidTests := true, laidLooks := .later }
def FnExactSetCounterCardSaid : Prop := Claim7.holds Tryd.pinned (.plain (OpenSpec.ofChange fnExactSetCounterSpec)) fnExactSetCounterCard

/-- THE TIED CARD OF 'laws.FnExactAddToCounter'. -/
def fnExactAddToCounterCard : Claim7 := { stood := { row := fnExactAddToCounterRow, standIns := [], harness := (true, "3bdcef99abc787fb3993f56d4c6e0375ddcc281e77872e82d8dbf475841e54c2"), looks := true }, kinds := [], alts := [], laidByText := true, laidKinds := [.data, .data, .data, .sentinel, .sentinel], laidTests := true, laidLooks := .later }
def FnExactAddToCounterCardSaid : Prop := Claim7.holds Tryd.pinned (.plain (OpenSpec.ofChange fnExactAddToCounterSpec)) fnExactAddToCounterCard

/-- THE TIED CARD OF 'laws.FnExactTakeFromCounter'. -/
def fnExactTakeFromCounterCard : Claim7 := { stood := { row := fnExactTakeFromCounterRow, standIns := [], harness := (true, "3bdcef99abc787fb3993f56d4c6e0375ddcc281e77872e82d8dbf475841e54c2"), looks := true }, kinds := [], alts := [], laidByText := true, laidKinds := [.data, .data, .data, .sentinel, .sentinel], laidTests := true, laidLooks := .later }
def FnExactTakeFromCounterCardSaid : Prop := Claim7.holds Tryd.pinned (.plain (OpenSpec.ofChange fnExactTakeFromCounterSpec)) fnExactTakeFromCounterCard

/-- THE TIED CARD OF 'laws.FnExactCarriesOf'. -/
def fnExactCarriesOfCard : Claim7 := { stood := { row := fnExactCarriesOfRow, standIns := [], harness := (true, "3bdcef99abc787fb3993f56d4c6e0375ddcc281e77872e82d8dbf475841e54c2"), looks := true }, kinds := [], alts := [], laidByText := true, laidKinds := [.data, .data, .data, .sentinel, .sentinel], laidTests := true, laidLooks := .later }
def FnExactCarriesOfCardSaid : Prop := Claim7.holds Tryd.pinned (.plain (OpenSpec.ofChange fnExactCarriesOfSpec)) fnExactCarriesOfCard

/-- THE TIED CARD OF 'laws.FnExactBalanceAfter'. -/
def fnExactBalanceAfterCard : Claim7 := { stood := { row := fnExactBalanceAfterRow, standIns := [], harness := (true, "3bdcef99abc787fb3993f56d4c6e0375ddcc281e77872e82d8dbf475841e54c2"), looks := true }, kinds := [], alts := [], laidByText := true, laidKinds := [.data, .data, .data, .sentinel, .sentinel], laidTests := true, laidLooks := .later }
def FnExactBalanceAfterCardSaid : Prop := Claim7.holds Tryd.pinned (.plain (OpenSpec.ofChange fnExactBalanceAfterSpec)) fnExactBalanceAfterCard

/-- THE TIED CARD OF 'laws.FnExactCounterText'. -/
def fnExactCounterTextCard : Claim7 := { stood := { row := fnExactCounterTextRow, standIns := [], harness := (true, "3bdcef99abc787fb3993f56d4c6e0375ddcc281e77872e82d8dbf475841e54c2"), looks := true }, kinds := [], alts := [], laidByText := true, laidKinds := [.data, .data, .data], laidTests := true, laidLooks := .later }
def FnExactCounterTextCardSaid : Prop := Claim7.holds Tryd.pinned (.plain (OpenSpec.ofChange fnExactCounterTextSpec)) fnExactCounterTextCard

/-- THE SECOND FORM's CARD OF 'laws.FnExactSetCounter'. -/
def fnExactSetCounterUptoCard : Claim7 := { stood := { row := fnExactSetCounterUptoRow, standIns := [], harness := (true, "3bdcef99abc787fb3993f56d4c6e0375ddcc281e77872e82d8dbf475841e54c2"), looks := true }, kinds := [], alts := [], laidByText := true, laidKinds := [.data, .data, .data, .handle, .sentinel, .sentinel], laidTests := true, laidLooks := .later }
def FnExactSetCounterUptoCardSaid : Prop := Claim7.holds Tryd.pinned (.plain (OpenSpec.upto fnExactSetCounterSpec)) fnExactSetCounterUptoCard

/-- THE SECOND FORM's CARD OF 'laws.FnExactAddToCounter'. -/
def fnExactAddToCounterUptoCard : Claim7 := { stood := { row := fnExactAddToCounterUptoRow, standIns := [], harness := (true, "3bdcef99abc787fb3993f56d4c6e0375ddcc281e77872e82d8dbf475841e54c2"), looks := true }, kinds := [], alts := [], laidByText := true, laidKinds := [.data, .data, .data, .sentinel, .sentinel], laidTests := true, laidLooks := .later }
def FnExactAddToCounterUptoCardSaid : Prop := Claim7.holds Tryd.pinned (.plain (OpenSpec.upto fnExactAddToCounterSpec)) fnExactAddToCounterUptoCard

/-- THE SECOND FORM's CARD OF 'laws.FnExactTakeFromCounter'. -/
def fnExactTakeFromCounterUptoCard : Claim7 := { stood := { row := fnExactTakeFromCounterUptoRow, standIns := [], harness := (true, "3bdcef99abc787fb3993f56d4c6e0375ddcc281e77872e82d8dbf475841e54c2"), looks := true }, kinds := [], alts := [], laidByText := true, laidKinds := [.data, .data, .data, .sentinel, .sentinel], laidTests := true, laidLooks := .later }
def FnExactTakeFromCounterUptoCardSaid : Prop := Claim7.holds Tryd.pinned (.plain (OpenSpec.upto fnExactTakeFromCounterSpec)) fnExactTakeFromCounterUptoCard

/-- THE SECOND FORM's CARD OF 'laws.FnExactCarriesOf'. -/
def fnExactCarriesOfUptoCard : Claim7 := { stood := { row := fnExactCarriesOfUptoRow, standIns := [], harness := (true, "3bdcef99abc787fb3993f56d4c6e0375ddcc281e77872e82d8dbf475841e54c2"), looks := true }, kinds := [], alts := [], laidByText := true, laidKinds := [.data, .data, .data, .sentinel, .sentinel], laidTests := true, laidLooks := .later }
def FnExactCarriesOfUptoCardSaid : Prop := Claim7.holds Tryd.pinned (.plain (OpenSpec.upto fnExactCarriesOfSpec)) fnExactCarriesOfUptoCard

/-- THE SECOND FORM's CARD OF 'laws.FnExactBalanceAfter'. -/
def fnExactBalanceAfterUptoCard : Claim7 := { stood := { row := fnExactBalanceAfterUptoRow, standIns := [], harness := (true, "3bdcef99abc787fb3993f56d4c6e0375ddcc281e77872e82d8dbf475841e54c2"), looks := true }, kinds := [], alts := [], laidByText := true, laidKinds := [.data, .data, .data, .sentinel, .sentinel], laidTests := true, laidLooks := .later }
def FnExactBalanceAfterUptoCardSaid : Prop := Claim7.holds Tryd.pinned (.plain (OpenSpec.upto fnExactBalanceAfterSpec)) fnExactBalanceAfterUptoCard

/-- THE SECOND FORM's CARD OF 'laws.FnExactCounterText'. -/
def fnExactCounterTextUptoCard : Claim7 := { stood := { row := fnExactCounterTextUptoRow, standIns := [], harness := (true, "3bdcef99abc787fb3993f56d4c6e0375ddcc281e77872e82d8dbf475841e54c2"), looks := true }, kinds := [], alts := [], laidByText := true, laidKinds := [.data, .data, .data], laidTests := true, laidLooks := .later }
def FnExactCounterTextUptoCardSaid : Prop := Claim7.holds Tryd.pinned (.plain (OpenSpec.upto fnExactCounterTextSpec)) fnExactCounterTextUptoCard
end Rows
end Go.Proofs.YtkiphejkgpfjjaaDoor
