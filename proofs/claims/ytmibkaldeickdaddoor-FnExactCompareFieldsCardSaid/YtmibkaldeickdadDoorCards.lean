/-
  DERIVED. GIVEN WITH THE SEED: THE CARDS: each row of YtmibkaldeickdadDoorRows.lean that lists a variable, with what it lists TIED to the program's text (the seventh form; the later family's looks); each row that meets fmt, with fmt's text TOLD by the authors' own Lean function (tested against real Go, not proved from fmt's source: count such statements apart). THE CARD IS WHAT COUNTS. Prove the row's statement (the work); the ties are given (YtmibkaldeickdadDoorTie.lean); close each card by the builder's one call (the guide's Derived/Test/ToyasCard.lean, 'card_holds'). Laid BY PROGRAM, IN A SANDBOX (cutbox-door.mjs). By AI agents, Wed Nov 11 2026. No macro, syntax, notation, axiom, sorry.
-/
import Derived.Test.YtmibkaldeickdadDoorRows
import GoSem.ClaimSeven
namespace Go.Proofs.YtmibkaldeickdadDoor
namespace Rows

/-- THE TIED CARD OF 'laws.FnExactPunchText'. -/
def fnExactPunchTextCard : Claim7 := { stood := { row := fnExactPunchTextRow, standIns := [], harness := (true, "50c14fb57d6d4ec0364e1a651880968d49a751c585990b219f3f23a42a7a59ac"), looks := true }, kinds := [], alts := [], laidByText := true, laidKinds := [.sentinel, .sentinel], laidTests := true, laidLooks := .later }
def FnExactPunchTextCardSaid : Prop := Claim7.holds Tryd.pinned (.plain (OpenSpec.ofChange fnExactPunchTextSpec)) fnExactPunchTextCard

/-- THE TIED CARD OF 'laws.FnExactReadText'. -/
def fnExactReadTextCard : Claim7 := { stood := { row := fnExactReadTextRow, standIns := [], harness := (true, "50c14fb57d6d4ec0364e1a651880968d49a751c585990b219f3f23a42a7a59ac"), looks := true }, kinds := [], alts := [], laidByText := true, laidKinds := [.sentinel, .sentinel, .sentinel], laidTests := true, laidLooks := .later }
def FnExactReadTextCardSaid : Prop := Claim7.holds Tryd.pinned (.plain (OpenSpec.ofChange fnExactReadTextSpec)) fnExactReadTextCard

/-- THE TIED CARD OF 'laws.FnExactNumberIn'. -/
def fnExactNumberInCard : Claim7 := { stood := { row := fnExactNumberInRow, standIns := [], harness := (true, "50c14fb57d6d4ec0364e1a651880968d49a751c585990b219f3f23a42a7a59ac"), looks := true }, kinds := [], alts := [], laidByText := true, laidKinds := [.sentinel, .sentinel, .sentinel], laidTests := true, laidLooks := .later }
def FnExactNumberInCardSaid : Prop := Claim7.holds Tryd.pinned (.plain (OpenSpec.ofChange fnExactNumberInSpec)) fnExactNumberInCard

/-- THE TIED CARD OF 'laws.FnExactCompareFields'. -/
def fnExactCompareFieldsCard : Claim7 := { stood := { row := fnExactCompareFieldsRow, standIns := [], harness := (true, "50c14fb57d6d4ec0364e1a651880968d49a751c585990b219f3f23a42a7a59ac"), looks := true }, kinds := [], alts := [], laidByText := true, laidKinds := [.data], laidTests := true, laidLooks := .later }
def FnExactCompareFieldsCardSaid : Prop := Claim7.holds Tryd.pinned (.plain (OpenSpec.ofChange fnExactCompareFieldsSpec)) fnExactCompareFieldsCard

/-- THE TIED CARD OF 'laws.FnExactRankOf'. -/
def fnExactRankOfCard : Claim7 := { stood := { row := fnExactRankOfRow, standIns := [], harness := (true, "50c14fb57d6d4ec0364e1a651880968d49a751c585990b219f3f23a42a7a59ac"), looks := true }, kinds := [], alts := [], laidByText := true, laidKinds := [.data], laidTests := true, laidLooks := .later }
def FnExactRankOfCardSaid : Prop := Claim7.holds Tryd.pinned (.plain (OpenSpec.ofChange fnExactRankOfSpec)) fnExactRankOfCard

/-- THE SECOND FORM's CARD OF 'laws.FnExactPunchText'. -/
def fnExactPunchTextUptoCard : Claim7 := { stood := { row := fnExactPunchTextUptoRow, standIns := [], harness := (true, "50c14fb57d6d4ec0364e1a651880968d49a751c585990b219f3f23a42a7a59ac"), looks := true }, kinds := [], alts := [], laidByText := true, laidKinds := [.sentinel, .sentinel], laidTests := true, laidLooks := .later }
def FnExactPunchTextUptoCardSaid : Prop := Claim7.holds Tryd.pinned (.plain (OpenSpec.upto fnExactPunchTextSpec)) fnExactPunchTextUptoCard

/-- THE SECOND FORM's CARD OF 'laws.FnExactReadText'. -/
def fnExactReadTextUptoCard : Claim7 := { stood := { row := fnExactReadTextUptoRow, standIns := [], harness := (true, "50c14fb57d6d4ec0364e1a651880968d49a751c585990b219f3f23a42a7a59ac"), looks := true }, kinds := [], alts := [], laidByText := true, laidKinds := [.sentinel, .sentinel, .sentinel], laidTests := true, laidLooks := .later }
def FnExactReadTextUptoCardSaid : Prop := Claim7.holds Tryd.pinned (.plain (OpenSpec.upto fnExactReadTextSpec)) fnExactReadTextUptoCard

/-- THE SECOND FORM's CARD OF 'laws.FnExactNumberIn'. -/
def fnExactNumberInUptoCard : Claim7 := { stood := { row := fnExactNumberInUptoRow, standIns := [], harness := (true, "50c14fb57d6d4ec0364e1a651880968d49a751c585990b219f3f23a42a7a59ac"), looks := true }, kinds := [], alts := [], laidByText := true, laidKinds := [.sentinel, .sentinel, .sentinel], laidTests := true, laidLooks := .later }
def FnExactNumberInUptoCardSaid : Prop := Claim7.holds Tryd.pinned (.plain (OpenSpec.upto fnExactNumberInSpec)) fnExactNumberInUptoCard

/-- THE SECOND FORM's CARD OF 'laws.FnExactCompareFields'. -/
def fnExactCompareFieldsUptoCard : Claim7 := { stood := { row := fnExactCompareFieldsUptoRow, standIns := [], harness := (true, "50c14fb57d6d4ec0364e1a651880968d49a751c585990b219f3f23a42a7a59ac"), looks := true }, kinds := [], alts := [], laidByText := true, laidKinds := [.data], laidTests := true, laidLooks := .later }
def FnExactCompareFieldsUptoCardSaid : Prop := Claim7.holds Tryd.pinned (.plain (OpenSpec.upto fnExactCompareFieldsSpec)) fnExactCompareFieldsUptoCard

/-- THE SECOND FORM's CARD OF 'laws.FnExactRankOf'. -/
def fnExactRankOfUptoCard : Claim7 := { stood := { row := fnExactRankOfUptoRow, standIns := [], harness := (true, "50c14fb57d6d4ec0364e1a651880968d49a751c585990b219f3f23a42a7a59ac"), looks := true }, kinds := [], alts := [], laidByText := true, laidKinds := [.data], laidTests := true, laidLooks := .later }
def FnExactRankOfUptoCardSaid : Prop := Claim7.holds Tryd.pinned (.plain (OpenSpec.upto fnExactRankOfSpec)) fnExactRankOfUptoCard
end Rows
end Go.Proofs.YtmibkaldeickdadDoor
