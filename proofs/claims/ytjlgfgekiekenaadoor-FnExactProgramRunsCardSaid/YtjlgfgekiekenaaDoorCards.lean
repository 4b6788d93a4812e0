/-
  DERIVED. GIVEN WITH THE SEED: THE CARDS: each row of YtjlgfgekiekenaaDoorRows.lean that lists a variable, with what it lists TIED to the program's text (the seventh form; the later family's looks); each row that meets fmt, with fmt's text TOLD by the authors' own Lean function (tested against real Go, not proved from fmt's source: count such statements apart). THE CARD IS WHAT COUNTS. Prove the row's statement (the work); the ties are given (YtjlgfgekiekenaaDoorTie.lean); close each card by the builder's one call (the guide's Derived/Test/ToyasCard.lean, 'card_holds'). Laid BY PROGRAM, IN A SANDBOX (cutbox-door.mjs). By AI agents, Wed Nov 11 2026. No macro, syntax, notation, axiom, sorry.
-/
import Derived.Test.YtjlgfgekiekenaaDoorRows
import GoSem.ClaimSeven
namespace Go.Proofs.YtjlgfgekiekenaaDoor
namespace Rows

/-- THE TIED CARD OF 'laws.FnExactKeysNeeded'. -/
def fnExactKeysNeededCard : Claim7 := { stood := { row := fnExactKeysNeededRow, standIns := [], harness := (true, "6a8b35482ce83e10ab21f0b798c2f0e378f6b75bdb3d40d9b6dd06cf3a31b78c"), looks := true }, kinds := [], alts := [], laidByText := true, laidKinds := [.data, .pinned], laidTests := true, laidLooks := .later }
def FnExactKeysNeededCardSaid : Prop := Claim7.holds Tryd.pinned (.plain (OpenSpec.ofChange fnExactKeysNeededSpec)) fnExactKeysNeededCard

/-- THE TIED CARD OF 'laws.FnExactPunchByProgram'. -/
def fnExactPunchByProgramCard : Claim7 := { stood := { row := fnExactPunchByProgramRow, standIns := [], harness := (true, "6a8b35482ce83e10ab21f0b798c2f0e378f6b75bdb3d40d9b6dd06cf3a31b78c"), looks := true }, kinds := [], alts := [], laidByText := true, laidKinds := [.data, .sentinel, .sentinel, .sentinel, .sentinel, .pinned], laidTests := true, laidLooks := .later }
def FnExactPunchByProgramCardSaid : Prop := Claim7.holds Tryd.pinned (.plain (OpenSpec.ofChange fnExactPunchByProgramSpec)) fnExactPunchByProgramCard

/-- THE TIED CARD OF 'laws.FnExactKeysFor'. -/
def fnExactKeysForCard : Claim7 := { stood := { row := fnExactKeysForRow, standIns := [], harness := (true, "6a8b35482ce83e10ab21f0b798c2f0e378f6b75bdb3d40d9b6dd06cf3a31b78c"), looks := true }, kinds := [], alts := [], laidByText := true, laidKinds := [.data, .sentinel, .sentinel, .sentinel, .sentinel, .sentinel, .pinned], laidTests := true, laidLooks := .later }
def FnExactKeysForCardSaid : Prop := Claim7.holds Tryd.pinned (.plain (OpenSpec.ofChange fnExactKeysForSpec)) fnExactKeysForCard

/-- THE TIED CARD OF 'laws.FnExactPunchAll'. -/
def fnExactPunchAllCard : Claim7 := { stood := { row := fnExactPunchAllRow, standIns := [], harness := (true, "6a8b35482ce83e10ab21f0b798c2f0e378f6b75bdb3d40d9b6dd06cf3a31b78c"), looks := true }, kinds := [], alts := [], laidByText := true, laidKinds := [.data, .sentinel, .sentinel, .sentinel, .sentinel, .pinned], laidTests := true, laidLooks := .later }
def FnExactPunchAllCardSaid : Prop := Claim7.holds Tryd.pinned (.plain (OpenSpec.ofChange fnExactPunchAllSpec)) fnExactPunchAllCard

/-- THE TIED CARD OF 'laws.FnExactVerifyCard'. -/
def fnExactVerifyCardCard : Claim7 := { stood := { row := fnExactVerifyCardRow, standIns := [], harness := (true, "6a8b35482ce83e10ab21f0b798c2f0e378f6b75bdb3d40d9b6dd06cf3a31b78c"), looks := true }, kinds := [], alts := [], laidByText := true, laidKinds := [.data, .sentinel, .sentinel, .sentinel, .sentinel, .pinned], laidTests := true, laidLooks := .later }
def FnExactVerifyCardCardSaid : Prop := Claim7.holds Tryd.pinned (.plain (OpenSpec.ofChange fnExactVerifyCardSpec)) fnExactVerifyCardCard

/-- THE TIED CARD OF 'laws.FnExactStrokesSaved'. -/
def fnExactStrokesSavedCard : Claim7 := { stood := { row := fnExactStrokesSavedRow, standIns := [], harness := (true, "6a8b35482ce83e10ab21f0b798c2f0e378f6b75bdb3d40d9b6dd06cf3a31b78c"), looks := true }, kinds := [], alts := [], laidByText := true, laidKinds := [.data, .pinned], laidTests := true, laidLooks := .later }
def FnExactStrokesSavedCardSaid : Prop := Claim7.holds Tryd.pinned (.plain (OpenSpec.ofChange fnExactStrokesSavedSpec)) fnExactStrokesSavedCard

/-- THE TIED CARD OF 'laws.FnExactProgramRuns'. -/
def fnExactProgramRunsCard : Claim7 := { stood := { row := fnExactProgramRunsRow, standIns := [], harness := (true, "6a8b35482ce83e10ab21f0b798c2f0e378f6b75bdb3d40d9b6dd06cf3a31b78c"), looks := true }, kinds := [], alts := [], laidByText := true, laidKinds := [.data, .data, .data, .data, .pinned], laidTests := true, laidLooks := .later }
def FnExactProgramRunsCardSaid : Prop := Claim7.holds Tryd.pinned (.plain (OpenSpec.ofChange fnExactProgramRunsSpec)) fnExactProgramRunsCard

/-- THE SECOND FORM's CARD OF 'laws.FnExactKeysNeeded'. -/
def fnExactKeysNeededUptoCard : Claim7 := { stood := { row := fnExactKeysNeededUptoRow, standIns := [], harness := (true, "6a8b35482ce83e10ab21f0b798c2f0e378f6b75bdb3d40d9b6dd06cf3a31b78c"), looks := true }, kinds := [], alts := [], laidByText := true, laidKinds := [.data, .pinned], laidTests := true, laidLooks := .later }
def FnExactKeysNeededUptoCardSaid : Prop := Claim7.holds Tryd.pinned (.plain (OpenSpec.upto fnExactKeysNeededSpec)) fnExactKeysNeededUptoCard

/-- THE SECOND FORM's CARD OF 'laws.FnExactPunchByProgram'. -/
def fnExactPunchByProgramUptoCard : Claim7 := { stood := { row := fnExactPunchByProgramUptoRow, standIns := [], harness := (true, "6a8b35482ce83e10ab21f0b798c2f0e378f6b75bdb3d40d9b6dd06cf3a31b78c"), looks := true }, kinds := [], alts := [], laidByText := true, laidKinds := [.data, .sentinel, .sentinel, .sentinel, .sentinel, .pinned], laidTests := true, laidLooks := .later }
def FnExactPunchByProgramUptoCardSaid : Prop := Claim7.holds Tryd.pinned (.plain (OpenSpec.upto fnExactPunchByProgramSpec)) fnExactPunchByProgramUptoCard

/-- THE SECOND FORM's CARD OF 'laws.FnExactKeysFor'. -/
def fnExactKeysForUptoCard : Claim7 := { stood := { row := fnExactKeysForUptoRow, standIns := [], harness := (true, "6a8b35482ce83e10ab21f0b798c2f0e378f6b75bdb3d40d9b6dd06cf3a31b78c"), looks := true }, kinds := [], alts := [], laidByText := true, laidKinds := [.data, .sentinel, .sentinel, .sentinel, .sentinel, .sentinel, .pinned], laidTests := true, laidLooks := .later }
def FnExactKeysForUptoCardSaid : Prop := Claim7.holds Tryd.pinned (.plain (OpenSpec.upto fnExactKeysForSpec)) fnExactKeysForUptoCard

/-- THE SECOND FORM's CARD OF 'laws.FnExactPunchAll'. -/
def fnExactPunchAllUptoCard : Claim7 := { stood := { row := fnExactPunchAllUptoRow, standIns := [], harness := (true, "6a8b35482ce83e10ab21f0b798c2f0e378f6b75bdb3d40d9b6dd06cf3a31b78c"), looks := true }, kinds := [], alts := [], laidByText := true, laidKinds := [.data, .sentinel, .sentinel, .sentinel, .sentinel, .pinned], laidTests := true, laidLooks := .later }
def FnExactPunchAllUptoCardSaid : Prop := Claim7.holds Tryd.pinned (.plain (OpenSpec.upto fnExactPunchAllSpec)) fnExactPunchAllUptoCard

/-- THE SECOND FORM's CARD OF 'laws.FnExactVerifyCard'. -/
def fnExactVerifyCardUptoCard : Claim7 := { stood := { row := fnExactVerifyCardUptoRow, standIns := [], harness := (true, "6a8b35482ce83e10ab21f0b798c2f0e378f6b75bdb3d40d9b6dd06cf3a31b78c"), looks := true }, kinds := [], alts := [], laidByText := true, laidKinds := [.data, .sentinel, .sentinel, .sentinel, .sentinel, .pinned], laidTests := true, laidLooks := .later }
def FnExactVerifyCardUptoCardSaid : Prop := Claim7.holds Tryd.pinned (.plain (OpenSpec.upto fnExactVerifyCardSpec)) fnExactVerifyCardUptoCard

/-- THE SECOND FORM's CARD OF 'laws.FnExactStrokesSaved'. -/
def fnExactStrokesSavedUptoCard : Claim7 := { stood := { row := fnExactStrokesSavedUptoRow, standIns := [], harness := (true, "6a8b35482ce83e10ab21f0b798c2f0e378f6b75bdb3d40d9b6dd06cf3a31b78c"), looks := true }, kinds := [], alts := [], laidByText := true, laidKinds := [.data, .pinned], laidTests := true, laidLooks := .later }
def FnExactStrokesSavedUptoCardSaid : Prop := Claim7.holds Tryd.pinned (.plain (OpenSpec.upto fnExactStrokesSavedSpec)) fnExactStrokesSavedUptoCard

/-- THE SECOND FORM's CARD OF 'laws.FnExactProgramRuns'. -/
def fnExactProgramRunsUptoCard : Claim7 := { stood := { row := fnExactProgramRunsUptoRow, standIns := [], harness := (true, "6a8b35482ce83e10ab21f0b798c2f0e378f6b75bdb3d40d9b6dd06cf3a31b78c"), looks := true }, kinds := [], alts := [], laidByText := true, laidKinds := [.data, .data, .data, .data, .pinned], laidTests := true, laidLooks := .later }
def FnExactProgramRunsUptoCardSaid : Prop := Claim7.holds Tryd.pinned (.plain (OpenSpec.upto fnExactProgramRunsSpec)) fnExactProgramRunsUptoCard
end Rows
end Go.Proofs.YtjlgfgekiekenaaDoor
