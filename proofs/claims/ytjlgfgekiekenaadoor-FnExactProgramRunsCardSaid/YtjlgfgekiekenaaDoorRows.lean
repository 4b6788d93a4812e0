/-
  NARROWER THAN 'FOR EVERY INPUT', by the rows' own cells (each row's printed sentence says how): FnExactKeysNeeded: laid · FnExactPunchByProgram: ifaces, laid · FnExactKeysFor: ifaces, laid · FnExactPunchAll: ifaces, laid · FnExactVerifyCard: ifaces, laid · FnExactStrokesSaved: laid · FnExactProgramRuns: laid.
  DERIVED. THE GIVEN ROWS OF THIS SEAT. 7 by the template 'for every input the law returns true; each argument reads behind the call as it read before'; 0 by the template 'total and deterministic' (their statements: YtjlgfgekiekenaaDoorTotals.lean).
  GIVEN WITH THE SEED: the statements are not yours to turn. If you find one false, say at which input.
  Laid BY PROGRAM, IN A SANDBOX (cutbox-rows.mjs): the forced cells as the released guide's own fill.sh prints them over the translation 317d5194e994773e… (all of the seat's roots in one cut). By AI agents, Wed Nov 11 2026. No macro, syntax, notation, axiom, sorry.
-/
import Derived.Test.YtjlgfgekiekenaaDoorChecked
import GoSem.PinnedTables
import GoSem.Claim
import GoSem.ClaimJoined
import GoSem.ClaimMapViews
import Derived.JoinedTies
import Derived.KernelRfl
namespace Go.Proofs.YtjlgfgekiekenaaDoor
/- THE CELL 'sum', in the pinned program and in every row, IS THE sha256 OF THE DUMP (.gsa) THAT YtjlgfgekiekenaaDoorProg.lean LOADS. Nothing in Lean hashes anything: it is a label: what it is worth is what the hold of that sum in a sandbox is worth. -/
noncomputable def Tryd.pinned : Pinned := { name := "ytjlgfgekiekenaadoor", sum := "317d5194e994773e998ba3a23e1f898eccafdf42657aa59edc2c1a20d1c6932f", checked := Tryd.checked }
namespace Rows
def none {H : Type} : Left H := { results := [], args := [] }

/- WHAT THE LISTED PACKAGE-LEVEL VARIABLES READ AS WHEN THE CALL BEGINS. Each datum BY PROGRAM (the guide's laid-datum.mjs) off the statement by which the dump's own 'gosem.cut.vars' lays the variable. In a bare row this is a premise. The card (YtjlgfgekiekenaaDoorCards.lean) ties it to the program's text. -/
def laid_unicode_utf8_acceptRanges {H : Type} : DataW H := .agg [.agg [.lit (.int .u8 128), .lit (.int .u8 191)], .agg [.lit (.int .u8 160), .lit (.int .u8 191)], .agg [.lit (.int .u8 128), .lit (.int .u8 159)], .agg [.lit (.int .u8 144), .lit (.int .u8 191)], .agg [.lit (.int .u8 128), .lit (.int .u8 143)], .agg [.lit (.int .u8 0), .lit (.int .u8 0)], .agg [.lit (.int .u8 0), .lit (.int .u8 0)], .agg [.lit (.int .u8 0), .lit (.int .u8 0)], .agg [.lit (.int .u8 0), .lit (.int .u8 0)], .agg [.lit (.int .u8 0), .lit (.int .u8 0)], .agg [.lit (.int .u8 0), .lit (.int .u8 0)], .agg [.lit (.int .u8 0), .lit (.int .u8 0)], .agg [.lit (.int .u8 0), .lit (.int .u8 0)], .agg [.lit (.int .u8 0), .lit (.int .u8 0)], .agg [.lit (.int .u8 0), .lit (.int .u8 0)], .agg [.lit (.int .u8 0), .lit (.int .u8 0)]]
/-- One of Go's own tables, pinned by name: the form's constant. -/
def laid_unicode_utf8_first : DataW Unit := Go.Pinned.utf8First
def laid_loop_example_g01012_impl_errLong {H : Type} : DataW H := .iface "*errors.errorString" (.ptr (.agg [.lit (.string [109, 111, 114, 101, 32, 116, 104, 97, 110, 32, 116, 104, 101, 32, 99, 111, 108, 117, 109, 110, 115, 32, 99, 97, 110, 32, 104, 97, 118, 101])]))
def laid_loop_example_g01012_impl_errForeign {H : Type} : DataW H := .iface "*errors.errorString" (.ptr (.agg [.lit (.string [97, 32, 116, 101, 120, 116, 32, 102, 111, 114, 32, 119, 104, 105, 99, 104, 32, 116, 104, 101, 114, 101, 32, 97, 114, 101, 32, 110, 111, 32, 104, 111, 108, 101, 115])]))
def laid_loop_example_g01012_impl_errCount {H : Type} : DataW H := .iface "*errors.errorString" (.ptr (.agg [.lit (.string [110, 111, 116, 32, 97, 115, 32, 109, 97, 110, 121, 32, 107, 101, 121, 115, 32, 97, 115, 32, 116, 104, 101, 32, 99, 111, 108, 117, 109, 110, 115, 32, 119, 97, 110, 116])]))
def laid_loop_example_g01012_impl_errStuck {H : Type} : DataW H := .iface "*errors.errorString" (.ptr (.agg [.lit (.string [97, 32, 107, 101, 121, 32, 116, 104, 97, 116, 32, 116, 104, 101, 32, 99, 111, 108, 117, 109, 110, 32, 100, 111, 101, 115, 32, 110, 111, 116, 32, 116, 97, 107, 101])]))
def laid_loop_example_g01012_impl_errNoMeaning {H : Type} : DataW H := .iface "*errors.errorString" (.ptr (.agg [.lit (.string [104, 111, 108, 101, 115, 32, 116, 104, 97, 116, 32, 115, 116, 97, 110, 100, 32, 102, 111, 114, 32, 110, 111, 116, 104, 105, 110, 103])]))
def laid_math_bits_deBruijn32tab {H : Type} : DataW H := .agg [.lit (.int .u8 0), .lit (.int .u8 1), .lit (.int .u8 28), .lit (.int .u8 2), .lit (.int .u8 29), .lit (.int .u8 14), .lit (.int .u8 24), .lit (.int .u8 3), .lit (.int .u8 30), .lit (.int .u8 22), .lit (.int .u8 20), .lit (.int .u8 15), .lit (.int .u8 25), .lit (.int .u8 17), .lit (.int .u8 4), .lit (.int .u8 8), .lit (.int .u8 31), .lit (.int .u8 27), .lit (.int .u8 13), .lit (.int .u8 23), .lit (.int .u8 21), .lit (.int .u8 19), .lit (.int .u8 16), .lit (.int .u8 7), .lit (.int .u8 26), .lit (.int .u8 12), .lit (.int .u8 18), .lit (.int .u8 6), .lit (.int .u8 11), .lit (.int .u8 5), .lit (.int .u8 10), .lit (.int .u8 9)]
def laid_math_bits_deBruijn64tab {H : Type} : DataW H := .agg [.lit (.int .u8 0), .lit (.int .u8 1), .lit (.int .u8 56), .lit (.int .u8 2), .lit (.int .u8 57), .lit (.int .u8 49), .lit (.int .u8 28), .lit (.int .u8 3), .lit (.int .u8 61), .lit (.int .u8 58), .lit (.int .u8 42), .lit (.int .u8 50), .lit (.int .u8 38), .lit (.int .u8 29), .lit (.int .u8 17), .lit (.int .u8 4), .lit (.int .u8 62), .lit (.int .u8 47), .lit (.int .u8 59), .lit (.int .u8 36), .lit (.int .u8 45), .lit (.int .u8 43), .lit (.int .u8 51), .lit (.int .u8 22), .lit (.int .u8 53), .lit (.int .u8 39), .lit (.int .u8 33), .lit (.int .u8 30), .lit (.int .u8 24), .lit (.int .u8 18), .lit (.int .u8 12), .lit (.int .u8 5), .lit (.int .u8 63), .lit (.int .u8 55), .lit (.int .u8 48), .lit (.int .u8 27), .lit (.int .u8 60), .lit (.int .u8 41), .lit (.int .u8 37), .lit (.int .u8 16), .lit (.int .u8 46), .lit (.int .u8 35), .lit (.int .u8 44), .lit (.int .u8 21), .lit (.int .u8 52), .lit (.int .u8 32), .lit (.int .u8 23), .lit (.int .u8 11), .lit (.int .u8 54), .lit (.int .u8 26), .lit (.int .u8 40), .lit (.int .u8 15), .lit (.int .u8 34), .lit (.int .u8 20), .lit (.int .u8 31), .lit (.int .u8 10), .lit (.int .u8 25), .lit (.int .u8 14), .lit (.int .u8 19), .lit (.int .u8 9), .lit (.int .u8 13), .lit (.int .u8 8), .lit (.int .u8 7), .lit (.int .u8 6)]
def laid_internal_strconv_uint64pow10 {H : Type} : DataW H := .agg [.lit (.int .u64 1), .lit (.int .u64 10), .lit (.int .u64 100), .lit (.int .u64 1000), .lit (.int .u64 10000), .lit (.int .u64 100000), .lit (.int .u64 1000000), .lit (.int .u64 10000000), .lit (.int .u64 100000000), .lit (.int .u64 1000000000), .lit (.int .u64 10000000000), .lit (.int .u64 100000000000), .lit (.int .u64 1000000000000), .lit (.int .u64 10000000000000), .lit (.int .u64 100000000000000), .lit (.int .u64 1000000000000000), .lit (.int .u64 10000000000000000), .lit (.int .u64 100000000000000000), .lit (.int .u64 1000000000000000000), .lit (.int .u64 10000000000000000000)]

/-- 'laws.FnExactKeysNeeded': WHATEVER THE INPUT: true; the input reads as it did. -/
def fnExactKeysNeededSpec : ChangeSpec := { name := "fnExactKeysNeeded", fn := fun _ => fun
  | [d] => { results := [.lit (.bool true)], args := [d] }
  | _ => none }
def fnExactKeysNeededRow : OpenClaim := { program := "ytjlgfgekiekenaadoor", sum := "317d5194e994773e998ba3a23e1f898eccafdf42657aa59edc2c1a20d1c6932f", func := "loop.example/g01012/laws.FnExactKeysNeeded", spec := "fnExactKeysNeeded", inPlace := ["internal/abi.NoEscape", "internal/bytealg.MakeNoZero"], unfollowed := true, recurses := true, named := ["unicode/utf8.first", "unicode/utf8.acceptRanges"], apart := false, laid := [("unicode/utf8.acceptRanges", laid_unicode_utf8_acceptRanges), ("unicode/utf8.first", laid_unicode_utf8_first)] }
def FnExactKeysNeededSaid : Prop := fnExactKeysNeededRow.holds Tryd.pinned (OpenSpec.ofChange fnExactKeysNeededSpec)

/-- ITS FALSE NEIGHBOUR: 'it returns false'. Refute it at one input. -/
def fnExactKeysNeededWrong : ChangeSpec := { name := "fnExactKeysNeeded", fn := fun _ => fun
  | [d] => { results := [.lit (.bool false)], args := [d] }
  | _ => none }
def FnExactKeysNeededWrongFalsely : Prop := fnExactKeysNeededRow.holds Tryd.pinned (OpenSpec.ofChange fnExactKeysNeededWrong)

/-- 'laws.FnExactPunchByProgram': WHATEVER THE INPUT: true; the input reads as it did. -/
def fnExactPunchByProgramSpec : ChangeSpec := { name := "fnExactPunchByProgram", vars := ["loop.example/g01012/impl.errCount", "loop.example/g01012/impl.errForeign", "loop.example/g01012/impl.errStuck", "loop.example/g01012/impl.errLong"], fn := fun _ => fun
  | [d1, d2, d3, g1, g2, g3, g4] => { results := [.lit (.bool true)], args := [d1, d2, d3], vars := [g1, g2, g3, g4] }
  | _ => none }
def fnExactPunchByProgramRow : OpenClaim := { program := "ytjlgfgekiekenaadoor", sum := "317d5194e994773e998ba3a23e1f898eccafdf42657aa59edc2c1a20d1c6932f", func := "loop.example/g01012/laws.FnExactPunchByProgram", spec := "fnExactPunchByProgram", inPlace := ["internal/abi.NoEscape", "internal/bytealg.MakeNoZero", "internal/bytealg.IndexByteString", "internal/reflectlite.TypeOf"], unfollowed := true, recurses := true, named := ["loop.example/g01012/impl.errCount", "unicode/utf8.first", "unicode/utf8.acceptRanges", "loop.example/g01012/impl.errForeign", "loop.example/g01012/impl.errStuck", "loop.example/g01012/impl.errLong"], ifaces := true, apart := false, laid := [("unicode/utf8.acceptRanges", laid_unicode_utf8_acceptRanges), ("loop.example/g01012/impl.errLong", laid_loop_example_g01012_impl_errLong), ("loop.example/g01012/impl.errForeign", laid_loop_example_g01012_impl_errForeign), ("loop.example/g01012/impl.errCount", laid_loop_example_g01012_impl_errCount), ("loop.example/g01012/impl.errStuck", laid_loop_example_g01012_impl_errStuck), ("unicode/utf8.first", laid_unicode_utf8_first)] }
def FnExactPunchByProgramSaid : Prop := fnExactPunchByProgramRow.holds Tryd.pinned (OpenSpec.ofChange fnExactPunchByProgramSpec)

/-- ITS FALSE NEIGHBOUR: 'it returns false'. Refute it at one input. -/
def fnExactPunchByProgramWrong : ChangeSpec := { name := "fnExactPunchByProgram", vars := ["loop.example/g01012/impl.errCount", "loop.example/g01012/impl.errForeign", "loop.example/g01012/impl.errStuck", "loop.example/g01012/impl.errLong"], fn := fun _ => fun
  | [d1, d2, d3, g1, g2, g3, g4] => { results := [.lit (.bool false)], args := [d1, d2, d3], vars := [g1, g2, g3, g4] }
  | _ => none }
def FnExactPunchByProgramWrongFalsely : Prop := fnExactPunchByProgramRow.holds Tryd.pinned (OpenSpec.ofChange fnExactPunchByProgramWrong)

/-- 'laws.FnExactKeysFor': WHATEVER THE INPUT: true; the input reads as it did. -/
def fnExactKeysForSpec : ChangeSpec := { name := "fnExactKeysFor", vars := ["loop.example/g01012/impl.errNoMeaning", "loop.example/g01012/impl.errCount", "loop.example/g01012/impl.errForeign", "loop.example/g01012/impl.errStuck", "loop.example/g01012/impl.errLong"], fn := fun _ => fun
  | [d1, d2, d3, g1, g2, g3, g4, g5] => { results := [.lit (.bool true)], args := [d1, d2, d3], vars := [g1, g2, g3, g4, g5] }
  | _ => none }
def fnExactKeysForRow : OpenClaim := { program := "ytjlgfgekiekenaadoor", sum := "317d5194e994773e998ba3a23e1f898eccafdf42657aa59edc2c1a20d1c6932f", func := "loop.example/g01012/laws.FnExactKeysFor", spec := "fnExactKeysFor", inPlace := ["internal/abi.NoEscape", "internal/bytealg.MakeNoZero", "internal/bytealg.IndexByteString", "internal/reflectlite.TypeOf"], unfollowed := true, recurses := true, named := ["loop.example/g01012/impl.errNoMeaning", "loop.example/g01012/impl.errCount", "unicode/utf8.first", "unicode/utf8.acceptRanges", "loop.example/g01012/impl.errForeign", "loop.example/g01012/impl.errStuck", "loop.example/g01012/impl.errLong"], ifaces := true, apart := false, laid := [("unicode/utf8.acceptRanges", laid_unicode_utf8_acceptRanges), ("loop.example/g01012/impl.errLong", laid_loop_example_g01012_impl_errLong), ("loop.example/g01012/impl.errForeign", laid_loop_example_g01012_impl_errForeign), ("loop.example/g01012/impl.errNoMeaning", laid_loop_example_g01012_impl_errNoMeaning), ("loop.example/g01012/impl.errCount", laid_loop_example_g01012_impl_errCount), ("loop.example/g01012/impl.errStuck", laid_loop_example_g01012_impl_errStuck), ("unicode/utf8.first", laid_unicode_utf8_first)] }
def FnExactKeysForSaid : Prop := fnExactKeysForRow.holds Tryd.pinned (OpenSpec.ofChange fnExactKeysForSpec)

/-- ITS FALSE NEIGHBOUR: 'it returns false'. Refute it at one input. -/
def fnExactKeysForWrong : ChangeSpec := { name := "fnExactKeysFor", vars := ["loop.example/g01012/impl.errNoMeaning", "loop.example/g01012/impl.errCount", "loop.example/g01012/impl.errForeign", "loop.example/g01012/impl.errStuck", "loop.example/g01012/impl.errLong"], fn := fun _ => fun
  | [d1, d2, d3, g1, g2, g3, g4, g5] => { results := [.lit (.bool false)], args := [d1, d2, d3], vars := [g1, g2, g3, g4, g5] }
  | _ => none }
def FnExactKeysForWrongFalsely : Prop := fnExactKeysForRow.holds Tryd.pinned (OpenSpec.ofChange fnExactKeysForWrong)

/-- 'laws.FnExactPunchAll': WHATEVER THE INPUT: true; the input reads as it did. -/
def fnExactPunchAllSpec : ChangeSpec := { name := "fnExactPunchAll", vars := ["loop.example/g01012/impl.errCount", "loop.example/g01012/impl.errForeign", "loop.example/g01012/impl.errStuck", "loop.example/g01012/impl.errLong"], fn := fun _ => fun
  | [d1, d2, d3, g1, g2, g3, g4] => { results := [.lit (.bool true)], args := [d1, d2, d3], vars := [g1, g2, g3, g4] }
  | _ => none }
def fnExactPunchAllRow : OpenClaim := { program := "ytjlgfgekiekenaadoor", sum := "317d5194e994773e998ba3a23e1f898eccafdf42657aa59edc2c1a20d1c6932f", func := "loop.example/g01012/laws.FnExactPunchAll", spec := "fnExactPunchAll", inPlace := ["internal/abi.NoEscape", "internal/bytealg.MakeNoZero", "internal/bytealg.IndexByteString", "internal/reflectlite.TypeOf"], unfollowed := true, recurses := true, named := ["loop.example/g01012/impl.errCount", "unicode/utf8.first", "unicode/utf8.acceptRanges", "loop.example/g01012/impl.errForeign", "loop.example/g01012/impl.errStuck", "loop.example/g01012/impl.errLong"], ifaces := true, apart := false, laid := [("unicode/utf8.acceptRanges", laid_unicode_utf8_acceptRanges), ("loop.example/g01012/impl.errLong", laid_loop_example_g01012_impl_errLong), ("loop.example/g01012/impl.errForeign", laid_loop_example_g01012_impl_errForeign), ("loop.example/g01012/impl.errCount", laid_loop_example_g01012_impl_errCount), ("loop.example/g01012/impl.errStuck", laid_loop_example_g01012_impl_errStuck), ("unicode/utf8.first", laid_unicode_utf8_first)] }
def FnExactPunchAllSaid : Prop := fnExactPunchAllRow.holds Tryd.pinned (OpenSpec.ofChange fnExactPunchAllSpec)

/-- ITS FALSE NEIGHBOUR: 'it returns false'. Refute it at one input. -/
def fnExactPunchAllWrong : ChangeSpec := { name := "fnExactPunchAll", vars := ["loop.example/g01012/impl.errCount", "loop.example/g01012/impl.errForeign", "loop.example/g01012/impl.errStuck", "loop.example/g01012/impl.errLong"], fn := fun _ => fun
  | [d1, d2, d3, g1, g2, g3, g4] => { results := [.lit (.bool false)], args := [d1, d2, d3], vars := [g1, g2, g3, g4] }
  | _ => none }
def FnExactPunchAllWrongFalsely : Prop := fnExactPunchAllRow.holds Tryd.pinned (OpenSpec.ofChange fnExactPunchAllWrong)

/-- 'laws.FnExactVerifyCard': WHATEVER THE INPUT: true; the input reads as it did. -/
def fnExactVerifyCardSpec : ChangeSpec := { name := "fnExactVerifyCard", vars := ["loop.example/g01012/impl.errCount", "loop.example/g01012/impl.errForeign", "loop.example/g01012/impl.errStuck", "loop.example/g01012/impl.errLong"], fn := fun _ => fun
  | [d1, d2, d3, d4, g1, g2, g3, g4] => { results := [.lit (.bool true)], args := [d1, d2, d3, d4], vars := [g1, g2, g3, g4] }
  | _ => none }
def fnExactVerifyCardRow : OpenClaim := { program := "ytjlgfgekiekenaadoor", sum := "317d5194e994773e998ba3a23e1f898eccafdf42657aa59edc2c1a20d1c6932f", func := "loop.example/g01012/laws.FnExactVerifyCard", spec := "fnExactVerifyCard", inPlace := ["internal/abi.NoEscape", "internal/bytealg.MakeNoZero", "internal/bytealg.IndexByteString", "internal/reflectlite.TypeOf"], unfollowed := true, recurses := true, named := ["loop.example/g01012/impl.errCount", "unicode/utf8.first", "unicode/utf8.acceptRanges", "loop.example/g01012/impl.errForeign", "loop.example/g01012/impl.errStuck", "loop.example/g01012/impl.errLong"], ifaces := true, apart := false, laid := [("unicode/utf8.acceptRanges", laid_unicode_utf8_acceptRanges), ("loop.example/g01012/impl.errLong", laid_loop_example_g01012_impl_errLong), ("loop.example/g01012/impl.errForeign", laid_loop_example_g01012_impl_errForeign), ("loop.example/g01012/impl.errCount", laid_loop_example_g01012_impl_errCount), ("loop.example/g01012/impl.errStuck", laid_loop_example_g01012_impl_errStuck), ("unicode/utf8.first", laid_unicode_utf8_first)] }
def FnExactVerifyCardSaid : Prop := fnExactVerifyCardRow.holds Tryd.pinned (OpenSpec.ofChange fnExactVerifyCardSpec)

/-- ITS FALSE NEIGHBOUR: 'it returns false'. Refute it at one input. -/
def fnExactVerifyCardWrong : ChangeSpec := { name := "fnExactVerifyCard", vars := ["loop.example/g01012/impl.errCount", "loop.example/g01012/impl.errForeign", "loop.example/g01012/impl.errStuck", "loop.example/g01012/impl.errLong"], fn := fun _ => fun
  | [d1, d2, d3, d4, g1, g2, g3, g4] => { results := [.lit (.bool false)], args := [d1, d2, d3, d4], vars := [g1, g2, g3, g4] }
  | _ => none }
def FnExactVerifyCardWrongFalsely : Prop := fnExactVerifyCardRow.holds Tryd.pinned (OpenSpec.ofChange fnExactVerifyCardWrong)

/-- 'laws.FnExactStrokesSaved': WHATEVER THE INPUT: true; the input reads as it did. -/
def fnExactStrokesSavedSpec : ChangeSpec := { name := "fnExactStrokesSaved", fn := fun _ => fun
  | [d1, d2] => { results := [.lit (.bool true)], args := [d1, d2] }
  | _ => none }
def fnExactStrokesSavedRow : OpenClaim := { program := "ytjlgfgekiekenaadoor", sum := "317d5194e994773e998ba3a23e1f898eccafdf42657aa59edc2c1a20d1c6932f", func := "loop.example/g01012/laws.FnExactStrokesSaved", spec := "fnExactStrokesSaved", inPlace := ["internal/abi.NoEscape", "internal/bytealg.MakeNoZero"], unfollowed := true, recurses := true, named := ["unicode/utf8.first", "unicode/utf8.acceptRanges"], apart := false, laid := [("unicode/utf8.acceptRanges", laid_unicode_utf8_acceptRanges), ("unicode/utf8.first", laid_unicode_utf8_first)] }
def FnExactStrokesSavedSaid : Prop := fnExactStrokesSavedRow.holds Tryd.pinned (OpenSpec.ofChange fnExactStrokesSavedSpec)

/-- ITS FALSE NEIGHBOUR: 'it returns false'. Refute it at one input. -/
def fnExactStrokesSavedWrong : ChangeSpec := { name := "fnExactStrokesSaved", fn := fun _ => fun
  | [d1, d2] => { results := [.lit (.bool false)], args := [d1, d2] }
  | _ => none }
def FnExactStrokesSavedWrongFalsely : Prop := fnExactStrokesSavedRow.holds Tryd.pinned (OpenSpec.ofChange fnExactStrokesSavedWrong)

/-- 'laws.FnExactProgramRuns': WHATEVER THE INPUT: true; the input reads as it did. -/
def fnExactProgramRunsSpec : ChangeSpec := { name := "fnExactProgramRuns", fn := fun _ => fun
  | [d] => { results := [.lit (.bool true)], args := [d] }
  | _ => none }
def fnExactProgramRunsRow : OpenClaim := { program := "ytjlgfgekiekenaadoor", sum := "317d5194e994773e998ba3a23e1f898eccafdf42657aa59edc2c1a20d1c6932f", func := "loop.example/g01012/laws.FnExactProgramRuns", spec := "fnExactProgramRuns", inPlace := ["internal/bytealg.IndexByteString", "internal/bytealg.IndexString", "internal/abi.NoEscape", "internal/bytealg.MakeNoZero"], unfollowed := true, recurses := true, named := ["unicode/utf8.first", "unicode/utf8.acceptRanges", "internal/strconv.uint64pow10", "math/bits.deBruijn32tab", "math/bits.deBruijn64tab", "internal/bytealg.MaxLen"], apart := false, laid := [("math/bits.deBruijn32tab", laid_math_bits_deBruijn32tab), ("math/bits.deBruijn64tab", laid_math_bits_deBruijn64tab), ("internal/strconv.uint64pow10", laid_internal_strconv_uint64pow10), ("unicode/utf8.acceptRanges", laid_unicode_utf8_acceptRanges), ("unicode/utf8.first", laid_unicode_utf8_first)] }
def FnExactProgramRunsSaid : Prop := fnExactProgramRunsRow.holds Tryd.pinned (OpenSpec.ofChange fnExactProgramRunsSpec)

/-- ITS FALSE NEIGHBOUR: 'it returns false'. Refute it at one input. -/
def fnExactProgramRunsWrong : ChangeSpec := { name := "fnExactProgramRuns", fn := fun _ => fun
  | [d] => { results := [.lit (.bool false)], args := [d] }
  | _ => none }
def FnExactProgramRunsWrongFalsely : Prop := fnExactProgramRunsRow.holds Tryd.pinned (OpenSpec.ofChange fnExactProgramRunsWrong)

/- THE SECOND FORM. 'bulk': how many values and letters a reading holds, each counted each time it is reached (what is shared counts as often as it is met; a slice's spare places count too). A statement '..UptoSaid' is the law's where the arguments, and the package variables that the reading takes, are together of bulk at most 1048576: NARROWER than '..Said'. Prove '..Said' where nothing that the law and all that it calls make is longer than what came in: it says more and counts as full. Else prove '..UptoSaid'. A law counts once. -/
mutual
def uptoBulk {H : Type} : DataW H → Nat
  | .lit (.string bytes) => bytes.length + 1
  | .lit _ => 1
  | .nil => 1
  | .ptr d => uptoBulk d + 1
  | .slice elems spare => uptoBulkAll elems + uptoBulkAll spare + 1
  | .agg parts => uptoBulkAll parts + 1
  | .iface _ d => uptoBulk d + 1
  | .map entries => uptoBulkEntries entries + 1
  | .held _ => 1
def uptoBulkAll {H : Type} : List (DataW H) → Nat
  | [] => 0
  | d :: r => uptoBulk d + uptoBulkAll r
def uptoBulkEntries {H : Type} : List (Lit × DataW H) → Nat
  | [] => 0
  | x :: r => uptoBulkEntry x + uptoBulkEntries r
def uptoBulkEntry {H : Type} : Lit × DataW H → Nat
  | (.string bytes, d) => bytes.length + uptoBulk d + 1
  | (_, d) => uptoBulk d + 1
 end
def uptoSmall : (H : Type) → List (DataW H) → Bool := fun _ ds => decide (uptoBulkAll ds ≤ 1048576)
def OpenSpec.upto (s : _root_.Go.ChangeSpec) : _root_.Go.OpenSpec := { _root_.Go.OpenSpec.ofChange s with cond := some uptoSmall }

/-- 'laws.FnExactKeysNeeded', WHERE WHAT IT READS IS OF BULK AT MOST 1048576: true; the input reads as it did. -/
def fnExactKeysNeededUptoRow : OpenClaim := { program := "ytjlgfgekiekenaadoor", sum := "317d5194e994773e998ba3a23e1f898eccafdf42657aa59edc2c1a20d1c6932f", func := "loop.example/g01012/laws.FnExactKeysNeeded", spec := "fnExactKeysNeeded", inPlace := ["internal/abi.NoEscape", "internal/bytealg.MakeNoZero"], unfollowed := true, recurses := true, named := ["unicode/utf8.first", "unicode/utf8.acceptRanges"], apart := false, laid := [("unicode/utf8.acceptRanges", laid_unicode_utf8_acceptRanges), ("unicode/utf8.first", laid_unicode_utf8_first)], narrowed := true }
def FnExactKeysNeededUptoSaid : Prop := fnExactKeysNeededUptoRow.holds Tryd.pinned (OpenSpec.upto fnExactKeysNeededSpec)

/-- 'laws.FnExactPunchByProgram', WHERE WHAT IT READS IS OF BULK AT MOST 1048576: true; the input reads as it did. -/
def fnExactPunchByProgramUptoRow : OpenClaim := { program := "ytjlgfgekiekenaadoor", sum := "317d5194e994773e998ba3a23e1f898eccafdf42657aa59edc2c1a20d1c6932f", func := "loop.example/g01012/laws.FnExactPunchByProgram", spec := "fnExactPunchByProgram", inPlace := ["internal/abi.NoEscape", "internal/bytealg.MakeNoZero", "internal/bytealg.IndexByteString", "internal/reflectlite.TypeOf"], unfollowed := true, recurses := true, named := ["loop.example/g01012/impl.errCount", "unicode/utf8.first", "unicode/utf8.acceptRanges", "loop.example/g01012/impl.errForeign", "loop.example/g01012/impl.errStuck", "loop.example/g01012/impl.errLong"], ifaces := true, apart := false, laid := [("unicode/utf8.acceptRanges", laid_unicode_utf8_acceptRanges), ("loop.example/g01012/impl.errLong", laid_loop_example_g01012_impl_errLong), ("loop.example/g01012/impl.errForeign", laid_loop_example_g01012_impl_errForeign), ("loop.example/g01012/impl.errCount", laid_loop_example_g01012_impl_errCount), ("loop.example/g01012/impl.errStuck", laid_loop_example_g01012_impl_errStuck), ("unicode/utf8.first", laid_unicode_utf8_first)], narrowed := true }
def FnExactPunchByProgramUptoSaid : Prop := fnExactPunchByProgramUptoRow.holds Tryd.pinned (OpenSpec.upto fnExactPunchByProgramSpec)

/-- 'laws.FnExactKeysFor', WHERE WHAT IT READS IS OF BULK AT MOST 1048576: true; the input reads as it did. -/
def fnExactKeysForUptoRow : OpenClaim := { program := "ytjlgfgekiekenaadoor", sum := "317d5194e994773e998ba3a23e1f898eccafdf42657aa59edc2c1a20d1c6932f", func := "loop.example/g01012/laws.FnExactKeysFor", spec := "fnExactKeysFor", inPlace := ["internal/abi.NoEscape", "internal/bytealg.MakeNoZero", "internal/bytealg.IndexByteString", "internal/reflectlite.TypeOf"], unfollowed := true, recurses := true, named := ["loop.example/g01012/impl.errNoMeaning", "loop.example/g01012/impl.errCount", "unicode/utf8.first", "unicode/utf8.acceptRanges", "loop.example/g01012/impl.errForeign", "loop.example/g01012/impl.errStuck", "loop.example/g01012/impl.errLong"], ifaces := true, apart := false, laid := [("unicode/utf8.acceptRanges", laid_unicode_utf8_acceptRanges), ("loop.example/g01012/impl.errLong", laid_loop_example_g01012_impl_errLong), ("loop.example/g01012/impl.errForeign", laid_loop_example_g01012_impl_errForeign), ("loop.example/g01012/impl.errNoMeaning", laid_loop_example_g01012_impl_errNoMeaning), ("loop.example/g01012/impl.errCount", laid_loop_example_g01012_impl_errCount), ("loop.example/g01012/impl.errStuck", laid_loop_example_g01012_impl_errStuck), ("unicode/utf8.first", laid_unicode_utf8_first)], narrowed := true }
def FnExactKeysForUptoSaid : Prop := fnExactKeysForUptoRow.holds Tryd.pinned (OpenSpec.upto fnExactKeysForSpec)

/-- 'laws.FnExactPunchAll', WHERE WHAT IT READS IS OF BULK AT MOST 1048576: true; the input reads as it did. -/
def fnExactPunchAllUptoRow : OpenClaim := { program := "ytjlgfgekiekenaadoor", sum := "317d5194e994773e998ba3a23e1f898eccafdf42657aa59edc2c1a20d1c6932f", func := "loop.example/g01012/laws.FnExactPunchAll", spec := "fnExactPunchAll", inPlace := ["internal/abi.NoEscape", "internal/bytealg.MakeNoZero", "internal/bytealg.IndexByteString", "internal/reflectlite.TypeOf"], unfollowed := true, recurses := true, named := ["loop.example/g01012/impl.errCount", "unicode/utf8.first", "unicode/utf8.acceptRanges", "loop.example/g01012/impl.errForeign", "loop.example/g01012/impl.errStuck", "loop.example/g01012/impl.errLong"], ifaces := true, apart := false, laid := [("unicode/utf8.acceptRanges", laid_unicode_utf8_acceptRanges), ("loop.example/g01012/impl.errLong", laid_loop_example_g01012_impl_errLong), ("loop.example/g01012/impl.errForeign", laid_loop_example_g01012_impl_errForeign), ("loop.example/g01012/impl.errCount", laid_loop_example_g01012_impl_errCount), ("loop.example/g01012/impl.errStuck", laid_loop_example_g01012_impl_errStuck), ("unicode/utf8.first", laid_unicode_utf8_first)], narrowed := true }
def FnExactPunchAllUptoSaid : Prop := fnExactPunchAllUptoRow.holds Tryd.pinned (OpenSpec.upto fnExactPunchAllSpec)

/-- 'laws.FnExactVerifyCard', WHERE WHAT IT READS IS OF BULK AT MOST 1048576: true; the input reads as it did. -/
def fnExactVerifyCardUptoRow : OpenClaim := { program := "ytjlgfgekiekenaadoor", sum := "317d5194e994773e998ba3a23e1f898eccafdf42657aa59edc2c1a20d1c6932f", func := "loop.example/g01012/laws.FnExactVerifyCard", spec := "fnExactVerifyCard", inPlace := ["internal/abi.NoEscape", "internal/bytealg.MakeNoZero", "internal/bytealg.IndexByteString", "internal/reflectlite.TypeOf"], unfollowed := true, recurses := true, named := ["loop.example/g01012/impl.errCount", "unicode/utf8.first", "unicode/utf8.acceptRanges", "loop.example/g01012/impl.errForeign", "loop.example/g01012/impl.errStuck", "loop.example/g01012/impl.errLong"], ifaces := true, apart := false, laid := [("unicode/utf8.acceptRanges", laid_unicode_utf8_acceptRanges), ("loop.example/g01012/impl.errLong", laid_loop_example_g01012_impl_errLong), ("loop.example/g01012/impl.errForeign", laid_loop_example_g01012_impl_errForeign), ("loop.example/g01012/impl.errCount", laid_loop_example_g01012_impl_errCount), ("loop.example/g01012/impl.errStuck", laid_loop_example_g01012_impl_errStuck), ("unicode/utf8.first", laid_unicode_utf8_first)], narrowed := true }
def FnExactVerifyCardUptoSaid : Prop := fnExactVerifyCardUptoRow.holds Tryd.pinned (OpenSpec.upto fnExactVerifyCardSpec)

/-- 'laws.FnExactStrokesSaved', WHERE WHAT IT READS IS OF BULK AT MOST 1048576: true; the input reads as it did. -/
def fnExactStrokesSavedUptoRow : OpenClaim := { program := "ytjlgfgekiekenaadoor", sum := "317d5194e994773e998ba3a23e1f898eccafdf42657aa59edc2c1a20d1c6932f", func := "loop.example/g01012/laws.FnExactStrokesSaved", spec := "fnExactStrokesSaved", inPlace := ["internal/abi.NoEscape", "internal/bytealg.MakeNoZero"], unfollowed := true, recurses := true, named := ["unicode/utf8.first", "unicode/utf8.acceptRanges"], apart := false, laid := [("unicode/utf8.acceptRanges", laid_unicode_utf8_acceptRanges), ("unicode/utf8.first", laid_unicode_utf8_first)], narrowed := true }
def FnExactStrokesSavedUptoSaid : Prop := fnExactStrokesSavedUptoRow.holds Tryd.pinned (OpenSpec.upto fnExactStrokesSavedSpec)

/-- 'laws.FnExactProgramRuns', WHERE WHAT IT READS IS OF BULK AT MOST 1048576: true; the input reads as it did. -/
def fnExactProgramRunsUptoRow : OpenClaim := { program := "ytjlgfgekiekenaadoor", sum := "317d5194e994773e998ba3a23e1f898eccafdf42657aa59edc2c1a20d1c6932f", func := "loop.example/g01012/laws.FnExactProgramRuns", spec := "fnExactProgramRuns", inPlace := ["internal/bytealg.IndexByteString", "internal/bytealg.IndexString", "internal/abi.NoEscape", "internal/bytealg.MakeNoZero"], unfollowed := true, recurses := true, named := ["unicode/utf8.first", "unicode/utf8.acceptRanges", "internal/strconv.uint64pow10", "math/bits.deBruijn32tab", "math/bits.deBruijn64tab", "internal/bytealg.MaxLen"], apart := false, laid := [("math/bits.deBruijn32tab", laid_math_bits_deBruijn32tab), ("math/bits.deBruijn64tab", laid_math_bits_deBruijn64tab), ("internal/strconv.uint64pow10", laid_internal_strconv_uint64pow10), ("unicode/utf8.acceptRanges", laid_unicode_utf8_acceptRanges), ("unicode/utf8.first", laid_unicode_utf8_first)], narrowed := true }
def FnExactProgramRunsUptoSaid : Prop := fnExactProgramRunsUptoRow.holds Tryd.pinned (OpenSpec.upto fnExactProgramRunsSpec)

end Rows
end Go.Proofs.YtjlgfgekiekenaaDoor
