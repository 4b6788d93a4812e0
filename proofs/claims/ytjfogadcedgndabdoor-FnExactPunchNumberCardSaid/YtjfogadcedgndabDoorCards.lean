/-
  DERIVED. GIVEN WITH THE SEED: THE CARDS: each row of YtjfogadcedgndabDoorRows.lean that lists a variable, with what it lists TIED to the program's text (the seventh form; the later family's looks); each row that meets fmt, with fmt's text TOLD by the authors' own Lean function (tested against real Go, not proved from fmt's source: count such statements apart). THE CARD IS WHAT COUNTS. Prove the row's statement (the work); the ties are given (YtjfogadcedgndabDoorTie.lean); close each card by the builder's one call (the guide's Derived/Test/ToyasCard.lean, 'card_holds'). Laid BY PROGRAM, IN A SANDBOX (cutbox-door.mjs). By AI agents, Wed Nov 11 2026. No macro, syntax, notation, axiom, sorry.
-/
import Derived.Test.YtjfogadcedgndabDoorRows
import GoSem.ClaimSeven
namespace Go.Proofs.YtjfogadcedgndabDoor
namespace Rows

/-- THE TIED CARD OF 'laws.FnExactPunchNumber'. -/
def fnExactPunchNumberCard : Claim7 := { stood := { row := fnExactPunchNumberRow, standIns := [], harness := (true, "6c0b6f8842b679a560c49850c4a5964a0654735170923f1262e281a7a97929bb"), looks := true }, kinds := [], alts := [], laidByText := true, laidKinds := [.data, .data, .data, .sentinel, .sentinel], laidTests := true, laidLooks := .later }
def FnExactPunchNumberCardSaid : Prop := Claim7.holds Tryd.pinned (.plain (OpenSpec.ofChange fnExactPunchNumberSpec)) fnExactPunchNumberCard

/-- THE TIED CARD OF 'laws.FnExactNumberIn'. -/
def fnExactNumberInCard : Claim7 := { stood := { row := fnExactNumberInRow, standIns := [], harness := (true, "6c0b6f8842b679a560c49850c4a5964a0654735170923f1262e281a7a97929bb"), looks := true }, kinds := [], alts := [], laidByText := true, laidKinds := [.sentinel, .sentinel, .sentinel], laidTests := true, laidLooks := .later }
def FnExactNumberInCardSaid : Prop := Claim7.holds Tryd.pinned (.plain (OpenSpec.ofChange fnExactNumberInSpec)) fnExactNumberInCard

/-- THE SECOND FORM's CARD OF 'laws.FnExactPunchNumber'. -/
def fnExactPunchNumberUptoCard : Claim7 := { stood := { row := fnExactPunchNumberUptoRow, standIns := [], harness := (true, "6c0b6f8842b679a560c49850c4a5964a0654735170923f1262e281a7a97929bb"), looks := true }, kinds := [], alts := [], laidByText := true, laidKinds := [.data, .data, .data, .sentinel, .sentinel], laidTests := true, laidLooks := .later }
def FnExactPunchNumberUptoCardSaid : Prop := Claim7.holds Tryd.pinned (.plain (OpenSpec.upto fnExactPunchNumberSpec)) fnExactPunchNumberUptoCard

/-- THE SECOND FORM's CARD OF 'laws.FnExactNumberIn'. -/
def fnExactNumberInUptoCard : Claim7 := { stood := { row := fnExactNumberInUptoRow, standIns := [], harness := (true, "6c0b6f8842b679a560c49850c4a5964a0654735170923f1262e281a7a97929bb"), looks := true }, kinds := [], alts := [], laidByText := true, laidKinds := [.sentinel, .sentinel, .sentinel], laidTests := true, laidLooks := .later }
def FnExactNumberInUptoCardSaid : Prop := Claim7.holds Tryd.pinned (.plain (OpenSpec.upto fnExactNumberInSpec)) fnExactNumberInUptoCard
end Rows
end Go.Proofs.YtjfogadcedgndabDoor
