/-
  DERIVED. GIVEN WITH THE SEED: THE CARDS: each row of YtmdamciheekeoaaDoorRows.lean that lists a variable, with what it lists TIED to the program's text (the seventh form; the later family's looks); each row that meets fmt, with fmt's text TOLD by the authors' own Lean function (tested against real Go, not proved from fmt's source: count such statements apart). THE CARD IS WHAT COUNTS. Prove the row's statement (the work); the ties are given (YtmdamciheekeoaaDoorTie.lean); close each card by the builder's one call (the guide's Derived/Test/ToyasCard.lean, 'card_holds'). Laid BY PROGRAM, IN A SANDBOX (cutbox-door.mjs). By AI agents, Wed Nov 11 2026. No macro, syntax, notation, axiom, sorry.
-/
import Derived.Test.YtmdamciheekeoaaDoorRows
import GoSem.ClaimSeven
namespace Go.Proofs.YtmdamciheekeoaaDoor
namespace Rows

/-- THE TIED CARD OF 'laws.FnExactMergeDecks'. -/
def fnExactMergeDecksCard : Claim7 := { stood := { row := fnExactMergeDecksRow, standIns := [], harness := (true, "8c0193bc43c81fe2d2edbe054f0f2f4b9b84048f9ec46d37f828b78d95fedc49"), looks := false }, kinds := [], alts := [], laidByText := true, laidKinds := [.data], laidTests := true, laidLooks := .later }
def FnExactMergeDecksCardSaid : Prop := Claim7.holds Tryd.pinned (.plain (OpenSpec.ofChange fnExactMergeDecksSpec)) fnExactMergeDecksCard

/-- THE TIED CARD OF 'laws.FnExactMatchDecks'. -/
def fnExactMatchDecksCard : Claim7 := { stood := { row := fnExactMatchDecksRow, standIns := [], harness := (true, "8c0193bc43c81fe2d2edbe054f0f2f4b9b84048f9ec46d37f828b78d95fedc49"), looks := false }, kinds := [], alts := [], laidByText := true, laidKinds := [.data], laidTests := true, laidLooks := .later }
def FnExactMatchDecksCardSaid : Prop := Claim7.holds Tryd.pinned (.plain (OpenSpec.ofChange fnExactMatchDecksSpec)) fnExactMatchDecksCard

/-- THE TIED CARD OF 'laws.FnExactSequenceErrors'. -/
def fnExactSequenceErrorsCard : Claim7 := { stood := { row := fnExactSequenceErrorsRow, standIns := [], harness := (true, "8c0193bc43c81fe2d2edbe054f0f2f4b9b84048f9ec46d37f828b78d95fedc49"), looks := false }, kinds := [], alts := [], laidByText := true, laidKinds := [.data], laidTests := true, laidLooks := .later }
def FnExactSequenceErrorsCardSaid : Prop := Claim7.holds Tryd.pinned (.plain (OpenSpec.ofChange fnExactSequenceErrorsSpec)) fnExactSequenceErrorsCard

/-- THE TIED CARD OF 'laws.FnExactSelectEqual'. -/
def fnExactSelectEqualCard : Claim7 := { stood := { row := fnExactSelectEqualRow, standIns := [], harness := (true, "8c0193bc43c81fe2d2edbe054f0f2f4b9b84048f9ec46d37f828b78d95fedc49"), looks := false }, kinds := [], alts := [], laidByText := true, laidKinds := [.data], laidTests := true, laidLooks := .later }
def FnExactSelectEqualCardSaid : Prop := Claim7.holds Tryd.pinned (.plain (OpenSpec.ofChange fnExactSelectEqualSpec)) fnExactSelectEqualCard

/-- THE TIED CARD OF 'laws.FnExactSelectBetween'. -/
def fnExactSelectBetweenCard : Claim7 := { stood := { row := fnExactSelectBetweenRow, standIns := [], harness := (true, "8c0193bc43c81fe2d2edbe054f0f2f4b9b84048f9ec46d37f828b78d95fedc49"), looks := false }, kinds := [], alts := [], laidByText := true, laidKinds := [.data], laidTests := true, laidLooks := .later }
def FnExactSelectBetweenCardSaid : Prop := Claim7.holds Tryd.pinned (.plain (OpenSpec.ofChange fnExactSelectBetweenSpec)) fnExactSelectBetweenCard

/-- THE TIED CARD OF 'laws.FnExactGroupsOf'. -/
def fnExactGroupsOfCard : Claim7 := { stood := { row := fnExactGroupsOfRow, standIns := [], harness := (true, "8c0193bc43c81fe2d2edbe054f0f2f4b9b84048f9ec46d37f828b78d95fedc49"), looks := false }, kinds := [], alts := [], laidByText := true, laidKinds := [.data], laidTests := true, laidLooks := .later }
def FnExactGroupsOfCardSaid : Prop := Claim7.holds Tryd.pinned (.plain (OpenSpec.ofChange fnExactGroupsOfSpec)) fnExactGroupsOfCard

/-- THE TIED CARD OF 'laws.FnExactFirstOfGroups'. -/
def fnExactFirstOfGroupsCard : Claim7 := { stood := { row := fnExactFirstOfGroupsRow, standIns := [], harness := (true, "8c0193bc43c81fe2d2edbe054f0f2f4b9b84048f9ec46d37f828b78d95fedc49"), looks := false }, kinds := [], alts := [], laidByText := true, laidKinds := [.data], laidTests := true, laidLooks := .later }
def FnExactFirstOfGroupsCardSaid : Prop := Claim7.holds Tryd.pinned (.plain (OpenSpec.ofChange fnExactFirstOfGroupsSpec)) fnExactFirstOfGroupsCard

/-- THE TIED CARD OF 'laws.FnExactInsertCard'. -/
def fnExactInsertCardCard : Claim7 := { stood := { row := fnExactInsertCardRow, standIns := [], harness := (true, "8c0193bc43c81fe2d2edbe054f0f2f4b9b84048f9ec46d37f828b78d95fedc49"), looks := false }, kinds := [], alts := [], laidByText := true, laidKinds := [.data], laidTests := true, laidLooks := .later }
def FnExactInsertCardCardSaid : Prop := Claim7.holds Tryd.pinned (.plain (OpenSpec.ofChange fnExactInsertCardSpec)) fnExactInsertCardCard

/-- THE TIED CARD OF 'laws.FnExactFindCards'. -/
def fnExactFindCardsCard : Claim7 := { stood := { row := fnExactFindCardsRow, standIns := [], harness := (true, "8c0193bc43c81fe2d2edbe054f0f2f4b9b84048f9ec46d37f828b78d95fedc49"), looks := false }, kinds := [], alts := [], laidByText := true, laidKinds := [.data], laidTests := true, laidLooks := .later }
def FnExactFindCardsCardSaid : Prop := Claim7.holds Tryd.pinned (.plain (OpenSpec.ofChange fnExactFindCardsSpec)) fnExactFindCardsCard

/-- THE SECOND FORM's CARD OF 'laws.FnExactMergeDecks'. -/
def fnExactMergeDecksUptoCard : Claim7 := { stood := { row := fnExactMergeDecksUptoRow, standIns := [], harness := (true, "8c0193bc43c81fe2d2edbe054f0f2f4b9b84048f9ec46d37f828b78d95fedc49"), looks := false }, kinds := [], alts := [], laidByText := true, laidKinds := [.data], laidTests := true, laidLooks := .later }
def FnExactMergeDecksUptoCardSaid : Prop := Claim7.holds Tryd.pinned (.plain (OpenSpec.upto fnExactMergeDecksSpec)) fnExactMergeDecksUptoCard

/-- THE SECOND FORM's CARD OF 'laws.FnExactMatchDecks'. -/
def fnExactMatchDecksUptoCard : Claim7 := { stood := { row := fnExactMatchDecksUptoRow, standIns := [], harness := (true, "8c0193bc43c81fe2d2edbe054f0f2f4b9b84048f9ec46d37f828b78d95fedc49"), looks := false }, kinds := [], alts := [], laidByText := true, laidKinds := [.data], laidTests := true, laidLooks := .later }
def FnExactMatchDecksUptoCardSaid : Prop := Claim7.holds Tryd.pinned (.plain (OpenSpec.upto fnExactMatchDecksSpec)) fnExactMatchDecksUptoCard

/-- THE SECOND FORM's CARD OF 'laws.FnExactSequenceErrors'. -/
def fnExactSequenceErrorsUptoCard : Claim7 := { stood := { row := fnExactSequenceErrorsUptoRow, standIns := [], harness := (true, "8c0193bc43c81fe2d2edbe054f0f2f4b9b84048f9ec46d37f828b78d95fedc49"), looks := false }, kinds := [], alts := [], laidByText := true, laidKinds := [.data], laidTests := true, laidLooks := .later }
def FnExactSequenceErrorsUptoCardSaid : Prop := Claim7.holds Tryd.pinned (.plain (OpenSpec.upto fnExactSequenceErrorsSpec)) fnExactSequenceErrorsUptoCard

/-- THE SECOND FORM's CARD OF 'laws.FnExactSelectEqual'. -/
def fnExactSelectEqualUptoCard : Claim7 := { stood := { row := fnExactSelectEqualUptoRow, standIns := [], harness := (true, "8c0193bc43c81fe2d2edbe054f0f2f4b9b84048f9ec46d37f828b78d95fedc49"), looks := false }, kinds := [], alts := [], laidByText := true, laidKinds := [.data], laidTests := true, laidLooks := .later }
def FnExactSelectEqualUptoCardSaid : Prop := Claim7.holds Tryd.pinned (.plain (OpenSpec.upto fnExactSelectEqualSpec)) fnExactSelectEqualUptoCard

/-- THE SECOND FORM's CARD OF 'laws.FnExactSelectBetween'. -/
def fnExactSelectBetweenUptoCard : Claim7 := { stood := { row := fnExactSelectBetweenUptoRow, standIns := [], harness := (true, "8c0193bc43c81fe2d2edbe054f0f2f4b9b84048f9ec46d37f828b78d95fedc49"), looks := false }, kinds := [], alts := [], laidByText := true, laidKinds := [.data], laidTests := true, laidLooks := .later }
def FnExactSelectBetweenUptoCardSaid : Prop := Claim7.holds Tryd.pinned (.plain (OpenSpec.upto fnExactSelectBetweenSpec)) fnExactSelectBetweenUptoCard

/-- THE SECOND FORM's CARD OF 'laws.FnExactGroupsOf'. -/
def fnExactGroupsOfUptoCard : Claim7 := { stood := { row := fnExactGroupsOfUptoRow, standIns := [], harness := (true, "8c0193bc43c81fe2d2edbe054f0f2f4b9b84048f9ec46d37f828b78d95fedc49"), looks := false }, kinds := [], alts := [], laidByText := true, laidKinds := [.data], laidTests := true, laidLooks := .later }
def FnExactGroupsOfUptoCardSaid : Prop := Claim7.holds Tryd.pinned (.plain (OpenSpec.upto fnExactGroupsOfSpec)) fnExactGroupsOfUptoCard

/-- THE SECOND FORM's CARD OF 'laws.FnExactFirstOfGroups'. -/
def fnExactFirstOfGroupsUptoCard : Claim7 := { stood := { row := fnExactFirstOfGroupsUptoRow, standIns := [], harness := (true, "8c0193bc43c81fe2d2edbe054f0f2f4b9b84048f9ec46d37f828b78d95fedc49"), looks := false }, kinds := [], alts := [], laidByText := true, laidKinds := [.data], laidTests := true, laidLooks := .later }
def FnExactFirstOfGroupsUptoCardSaid : Prop := Claim7.holds Tryd.pinned (.plain (OpenSpec.upto fnExactFirstOfGroupsSpec)) fnExactFirstOfGroupsUptoCard

/-- THE SECOND FORM's CARD OF 'laws.FnExactInsertCard'. -/
def fnExactInsertCardUptoCard : Claim7 := { stood := { row := fnExactInsertCardUptoRow, standIns := [], harness := (true, "8c0193bc43c81fe2d2edbe054f0f2f4b9b84048f9ec46d37f828b78d95fedc49"), looks := false }, kinds := [], alts := [], laidByText := true, laidKinds := [.data], laidTests := true, laidLooks := .later }
def FnExactInsertCardUptoCardSaid : Prop := Claim7.holds Tryd.pinned (.plain (OpenSpec.upto fnExactInsertCardSpec)) fnExactInsertCardUptoCard

/-- THE SECOND FORM's CARD OF 'laws.FnExactFindCards'. -/
def fnExactFindCardsUptoCard : Claim7 := { stood := { row := fnExactFindCardsUptoRow, standIns := [], harness := (true, "8c0193bc43c81fe2d2edbe054f0f2f4b9b84048f9ec46d37f828b78d95fedc49"), looks := false }, kinds := [], alts := [], laidByText := true, laidKinds := [.data], laidTests := true, laidLooks := .later }
def FnExactFindCardsUptoCardSaid : Prop := Claim7.holds Tryd.pinned (.plain (OpenSpec.upto fnExactFindCardsSpec)) fnExactFindCardsUptoCard
end Rows
end Go.Proofs.YtmdamciheekeoaaDoor
