/-
  DERIVED. GIVEN WITH THE SEED: THE CARDS: each row of YtmdgpkiicjmfhaaDoorRows.lean that lists a variable, with what it lists TIED to the program's text (the seventh form; the later family's looks); each row that meets fmt, with fmt's text TOLD by the authors' own Lean function (tested against real Go, not proved from fmt's source: count such statements apart). THE CARD IS WHAT COUNTS. Prove the row's statement (the work); the ties are given (YtmdgpkiicjmfhaaDoorTie.lean); close each card by the builder's one call (the guide's Derived/Test/ToyasCard.lean, 'card_holds'). Laid BY PROGRAM, IN A SANDBOX (cutbox-door.mjs). By AI agents, Wed Nov 11 2026. No macro, syntax, notation, axiom, sorry.
-/
import Derived.Test.YtmdgpkiicjmfhaaDoorRows
import GoSem.ClaimSeven
namespace Go.Proofs.YtmdgpkiicjmfhaaDoor
namespace Rows

/-- THE TIED CARD OF 'laws.FnExactItemTotal'. -/
def fnExactItemTotalCard : Claim7 := { stood := { row := fnExactItemTotalRow, standIns := [], harness := (true, "58dbab60c78d31108a01a2bd0bc794bd77033df4931873e3dabe23ab1cb41422"), looks := true }, kinds := [], alts := [], laidByText := true, laidKinds := [.sentinel, .sentinel, .sentinel], laidTests := true, laidLooks := .later }
def FnExactItemTotalCardSaid : Prop := Claim7.holds Tryd.pinned (.plain (OpenSpec.ofChange fnExactItemTotalSpec)) fnExactItemTotalCard

/-- THE TIED CARD OF 'laws.FnExactLayoutText'. -/
def fnExactLayoutTextCard : Claim7 := { stood := { row := fnExactLayoutTextRow, standIns := [], harness := (true, "58dbab60c78d31108a01a2bd0bc794bd77033df4931873e3dabe23ab1cb41422"), looks := true }, kinds := [], alts := [], laidByText := true, laidKinds := [.data, .data, .data, .data], laidTests := true, laidLooks := .later }
def FnExactLayoutTextCardSaid : Prop := Claim7.holds Tryd.pinned (.plain (OpenSpec.ofChange fnExactLayoutTextSpec)) fnExactLayoutTextCard

/-- THE SECOND FORM's CARD OF 'laws.FnExactItemTotal'. -/
def fnExactItemTotalUptoCard : Claim7 := { stood := { row := fnExactItemTotalUptoRow, standIns := [], harness := (true, "58dbab60c78d31108a01a2bd0bc794bd77033df4931873e3dabe23ab1cb41422"), looks := true }, kinds := [], alts := [], laidByText := true, laidKinds := [.sentinel, .sentinel, .sentinel], laidTests := true, laidLooks := .later }
def FnExactItemTotalUptoCardSaid : Prop := Claim7.holds Tryd.pinned (.plain (OpenSpec.upto fnExactItemTotalSpec)) fnExactItemTotalUptoCard

/-- THE SECOND FORM's CARD OF 'laws.FnExactLayoutText'. -/
def fnExactLayoutTextUptoCard : Claim7 := { stood := { row := fnExactLayoutTextUptoRow, standIns := [], harness := (true, "58dbab60c78d31108a01a2bd0bc794bd77033df4931873e3dabe23ab1cb41422"), looks := true }, kinds := [], alts := [], laidByText := true, laidKinds := [.data, .data, .data, .data], laidTests := true, laidLooks := .later }
def FnExactLayoutTextUptoCardSaid : Prop := Claim7.holds Tryd.pinned (.plain (OpenSpec.upto fnExactLayoutTextSpec)) fnExactLayoutTextUptoCard
end Rows
end Go.Proofs.YtmdgpkiicjmfhaaDoor
