/-
  DERIVED. GIVEN WITH THE SEED: THE CARDS: each row of YtfffdlmpiglojaaDoorRows.lean that lists a variable, with what it lists TIED to the program's text (the seventh form; the later family's looks); each row that meets fmt, with fmt's text TOLD by the authors' own Lean function (tested against real Go, not proved from fmt's source: count such statements apart). THE CARD IS WHAT COUNTS. Prove the row's statement (the work); the ties are given (YtfffdlmpiglojaaDoorTie.lean); close each card by the builder's one call (the guide's Derived/Test/ToyasCard.lean, 'card_holds'). Laid BY PROGRAM, IN A SANDBOX (cutbox-door.mjs). By AI agents, Wed Nov 11 2026. No macro, syntax, notation, axiom, sorry.
-/
import Derived.Test.YtfffdlmpiglojaaDoorRows
import GoSem.ClaimSeven
namespace Go.Proofs.YtfffdlmpiglojaaDoor
namespace Rows

/-- THE TIED CARD OF 'laws.FnExactShortPlan'. -/
def fnExactShortPlanCard : Claim7 := { stood := { row := fnExactShortPlanRow, standIns := [], harness := (true, "a734606cc9505b8d9493cc5620a0ddff97812d230be9a1db9c841bf65337444f"), looks := false }, kinds := [], alts := [], laidByText := true, laidKinds := [.data], laidTests := true, laidLooks := .later }
def FnExactShortPlanCardSaid : Prop := Claim7.holds Tryd.pinned (.plain (OpenSpec.ofChange fnExactShortPlanSpec)) fnExactShortPlanCard

/-- THE TIED CARD OF 'laws.FnExactIsPlanFor'. -/
def fnExactIsPlanForCard : Claim7 := { stood := { row := fnExactIsPlanForRow, standIns := [], harness := (true, "a734606cc9505b8d9493cc5620a0ddff97812d230be9a1db9c841bf65337444f"), looks := false }, kinds := [], alts := [], laidByText := true, laidKinds := [.data], laidTests := true, laidLooks := .later }
def FnExactIsPlanForCardSaid : Prop := Claim7.holds Tryd.pinned (.plain (OpenSpec.ofChange fnExactIsPlanForSpec)) fnExactIsPlanForCard

/-- THE TIED CARD OF 'laws.FnExactFewestPasses'. -/
def fnExactFewestPassesCard : Claim7 := { stood := { row := fnExactFewestPassesRow, standIns := [], harness := (true, "a734606cc9505b8d9493cc5620a0ddff97812d230be9a1db9c841bf65337444f"), looks := false }, kinds := [], alts := [], laidByText := true, laidKinds := [.data], laidTests := true, laidLooks := .later }
def FnExactFewestPassesCardSaid : Prop := Claim7.holds Tryd.pinned (.plain (OpenSpec.ofChange fnExactFewestPassesSpec)) fnExactFewestPassesCard

/-- THE TIED CARD OF 'laws.FnExactOrderBy'. -/
def fnExactOrderByCard : Claim7 := { stood := { row := fnExactOrderByRow, standIns := [], harness := (true, "a734606cc9505b8d9493cc5620a0ddff97812d230be9a1db9c841bf65337444f"), looks := false }, kinds := [], alts := [], laidByText := true, laidKinds := [.data], laidTests := true, laidLooks := .later }
def FnExactOrderByCardSaid : Prop := Claim7.holds Tryd.pinned (.plain (OpenSpec.ofChange fnExactOrderBySpec)) fnExactOrderByCard

/-- THE TIED CARD OF 'laws.FnExactSortedBy'. -/
def fnExactSortedByCard : Claim7 := { stood := { row := fnExactSortedByRow, standIns := [], harness := (true, "a734606cc9505b8d9493cc5620a0ddff97812d230be9a1db9c841bf65337444f"), looks := false }, kinds := [], alts := [], laidByText := true, laidKinds := [.data], laidTests := true, laidLooks := .later }
def FnExactSortedByCardSaid : Prop := Claim7.holds Tryd.pinned (.plain (OpenSpec.ofChange fnExactSortedBySpec)) fnExactSortedByCard

/-- THE SECOND FORM's CARD OF 'laws.FnExactShortPlan'. -/
def fnExactShortPlanUptoCard : Claim7 := { stood := { row := fnExactShortPlanUptoRow, standIns := [], harness := (true, "a734606cc9505b8d9493cc5620a0ddff97812d230be9a1db9c841bf65337444f"), looks := false }, kinds := [], alts := [], laidByText := true, laidKinds := [.data], laidTests := true, laidLooks := .later }
def FnExactShortPlanUptoCardSaid : Prop := Claim7.holds Tryd.pinned (.plain (OpenSpec.upto fnExactShortPlanSpec)) fnExactShortPlanUptoCard

/-- THE SECOND FORM's CARD OF 'laws.FnExactIsPlanFor'. -/
def fnExactIsPlanForUptoCard : Claim7 := { stood := { row := fnExactIsPlanForUptoRow, standIns := [], harness := (true, "a734606cc9505b8d9493cc5620a0ddff97812d230be9a1db9c841bf65337444f"), looks := false }, kinds := [], alts := [], laidByText := true, laidKinds := [.data], laidTests := true, laidLooks := .later }
def FnExactIsPlanForUptoCardSaid : Prop := Claim7.holds Tryd.pinned (.plain (OpenSpec.upto fnExactIsPlanForSpec)) fnExactIsPlanForUptoCard

/-- THE SECOND FORM's CARD OF 'laws.FnExactFewestPasses'. -/
def fnExactFewestPassesUptoCard : Claim7 := { stood := { row := fnExactFewestPassesUptoRow, standIns := [], harness := (true, "a734606cc9505b8d9493cc5620a0ddff97812d230be9a1db9c841bf65337444f"), looks := false }, kinds := [], alts := [], laidByText := true, laidKinds := [.data], laidTests := true, laidLooks := .later }
def FnExactFewestPassesUptoCardSaid : Prop := Claim7.holds Tryd.pinned (.plain (OpenSpec.upto fnExactFewestPassesSpec)) fnExactFewestPassesUptoCard

/-- THE SECOND FORM's CARD OF 'laws.FnExactOrderBy'. -/
def fnExactOrderByUptoCard : Claim7 := { stood := { row := fnExactOrderByUptoRow, standIns := [], harness := (true, "a734606cc9505b8d9493cc5620a0ddff97812d230be9a1db9c841bf65337444f"), looks := false }, kinds := [], alts := [], laidByText := true, laidKinds := [.data], laidTests := true, laidLooks := .later }
def FnExactOrderByUptoCardSaid : Prop := Claim7.holds Tryd.pinned (.plain (OpenSpec.upto fnExactOrderBySpec)) fnExactOrderByUptoCard

/-- THE SECOND FORM's CARD OF 'laws.FnExactSortedBy'. -/
def fnExactSortedByUptoCard : Claim7 := { stood := { row := fnExactSortedByUptoRow, standIns := [], harness := (true, "a734606cc9505b8d9493cc5620a0ddff97812d230be9a1db9c841bf65337444f"), looks := false }, kinds := [], alts := [], laidByText := true, laidKinds := [.data], laidTests := true, laidLooks := .later }
def FnExactSortedByUptoCardSaid : Prop := Claim7.holds Tryd.pinned (.plain (OpenSpec.upto fnExactSortedBySpec)) fnExactSortedByUptoCard
end Rows
end Go.Proofs.YtfffdlmpiglojaaDoor
