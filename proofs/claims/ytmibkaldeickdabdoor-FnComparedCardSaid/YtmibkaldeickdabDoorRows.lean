/-
  NARROWER THAN 'FOR EVERY INPUT', by the rows' own cells (each row's printed sentence says how): FnCodes: ifaces, laid · FnLegal: ifaces, laid · FnNumbers: ifaces, laid · FnCompared: laid · FnExactPunchNumber: ifaces, laid · FnExactCodeName: laid · FnExactDecimal: laid · FnExactReadDecimal: laid.
  DERIVED. THE GIVEN ROWS OF THIS SEAT. 8 by the template 'for every input the law returns true; each argument reads behind the call as it read before'; 0 by the template 'total and deterministic' (their statements: YtmibkaldeickdabDoorTotals.lean).
  GIVEN WITH THE SEED: the statements are not yours to turn. If you find one false, say at which input.
  Laid BY PROGRAM, IN A SANDBOX (cutbox-rows.mjs): the forced cells as the released guide's own fill.sh prints them over the translation 5224065a0ae0e5a1… (all of the seat's roots in one cut). By AI agents, Wed Nov 11 2026. No macro, syntax, notation, axiom, sorry.
-/
import Derived.Test.YtmibkaldeickdabDoorChecked
import GoSem.Claim
import GoSem.ClaimJoined
import GoSem.ClaimMapViews
import Derived.JoinedTies
import Derived.KernelRfl
namespace Go.Proofs.YtmibkaldeickdabDoor
/- THE CELL 'sum', in the pinned program and in every row, IS THE sha256 OF THE DUMP (.gsa) THAT YtmibkaldeickdabDoorProg.lean LOADS. Nothing in Lean hashes anything: it is a label: what it is worth is what the hold of that sum in a sandbox is worth. -/
noncomputable def Tryd.pinned : Pinned := { name := "ytmibkaldeickdabdoor", sum := "5224065a0ae0e5a176e5085448f0e9b0679edbadedd07f091db3fea302126fe8", checked := Tryd.checked }
namespace Rows
def none {H : Type} : Left H := { results := [], args := [] }

/- WHAT THE LISTED PACKAGE-LEVEL VARIABLES READ AS WHEN THE CALL BEGINS. Each datum BY PROGRAM (the guide's laid-datum.mjs) off the statement by which the dump's own 'gosem.cut.vars' lays the variable. In a bare row this is a premise. The card (YtmibkaldeickdabDoorCards.lean) ties it to the program's text. -/
def laid_loop_example_g01012_impl_places {H : Type} : DataW H := .agg [.lit (.int .i8 0), .lit (.int .i8 0), .lit (.int .i8 0), .lit (.int .i8 0), .lit (.int .i8 0), .lit (.int .i8 0), .lit (.int .i8 0), .lit (.int .i8 0), .lit (.int .i8 0), .lit (.int .i8 0), .lit (.int .i8 0), .lit (.int .i8 0), .lit (.int .i8 0), .lit (.int .i8 0), .lit (.int .i8 0), .lit (.int .i8 0), .lit (.int .i8 0), .lit (.int .i8 0), .lit (.int .i8 0), .lit (.int .i8 0), .lit (.int .i8 0), .lit (.int .i8 0), .lit (.int .i8 0), .lit (.int .i8 0), .lit (.int .i8 0), .lit (.int .i8 0), .lit (.int .i8 0), .lit (.int .i8 0), .lit (.int .i8 0), .lit (.int .i8 0), .lit (.int .i8 0), .lit (.int .i8 0), .lit (.int .i8 1), .lit (.int .i8 0), .lit (.int .i8 0), .lit (.int .i8 0), .lit (.int .i8 0), .lit (.int .i8 0), .lit (.int .i8 2), .lit (.int .i8 0), .lit (.int .i8 0), .lit (.int .i8 0), .lit (.int .i8 0), .lit (.int .i8 0), .lit (.int .i8 0), .lit (.int .i8 12), .lit (.int .i8 0), .lit (.int .i8 22), .lit (.int .i8 31), .lit (.int .i8 32), .lit (.int .i8 33), .lit (.int .i8 34), .lit (.int .i8 35), .lit (.int .i8 36), .lit (.int .i8 37), .lit (.int .i8 38), .lit (.int .i8 39), .lit (.int .i8 40), .lit (.int .i8 0), .lit (.int .i8 0), .lit (.int .i8 0), .lit (.int .i8 0), .lit (.int .i8 0), .lit (.int .i8 0), .lit (.int .i8 0), .lit (.int .i8 3), .lit (.int .i8 4), .lit (.int .i8 5), .lit (.int .i8 6), .lit (.int .i8 7), .lit (.int .i8 8), .lit (.int .i8 9), .lit (.int .i8 10), .lit (.int .i8 11), .lit (.int .i8 13), .lit (.int .i8 14), .lit (.int .i8 15), .lit (.int .i8 16), .lit (.int .i8 17), .lit (.int .i8 18), .lit (.int .i8 19), .lit (.int .i8 20), .lit (.int .i8 21), .lit (.int .i8 23), .lit (.int .i8 24), .lit (.int .i8 25), .lit (.int .i8 26), .lit (.int .i8 27), .lit (.int .i8 28), .lit (.int .i8 29), .lit (.int .i8 30)]
def laid_loop_example_g01012_impl_errLong {H : Type} : DataW H := .iface "*errors.errorString" (.ptr (.agg [.lit (.string [109, 111, 114, 101, 32, 116, 104, 97, 110, 32, 116, 104, 101, 32, 99, 111, 108, 117, 109, 110, 115, 32, 99, 97, 110, 32, 104, 97, 118, 101])]))
def laid_loop_example_g01012_impl_errForeign {H : Type} : DataW H := .iface "*errors.errorString" (.ptr (.agg [.lit (.string [97, 32, 116, 101, 120, 116, 32, 102, 111, 114, 32, 119, 104, 105, 99, 104, 32, 116, 104, 101, 114, 101, 32, 97, 114, 101, 32, 110, 111, 32, 104, 111, 108, 101, 115])]))
def laid_loop_example_g01012_impl_errNoMeaning {H : Type} : DataW H := .iface "*errors.errorString" (.ptr (.agg [.lit (.string [104, 111, 108, 101, 115, 32, 116, 104, 97, 116, 32, 115, 116, 97, 110, 100, 32, 102, 111, 114, 32, 110, 111, 116, 104, 105, 110, 103])]))
def laid_math_bits_deBruijn32tab {H : Type} : DataW H := .agg [.lit (.int .u8 0), .lit (.int .u8 1), .lit (.int .u8 28), .lit (.int .u8 2), .lit (.int .u8 29), .lit (.int .u8 14), .lit (.int .u8 24), .lit (.int .u8 3), .lit (.int .u8 30), .lit (.int .u8 22), .lit (.int .u8 20), .lit (.int .u8 15), .lit (.int .u8 25), .lit (.int .u8 17), .lit (.int .u8 4), .lit (.int .u8 8), .lit (.int .u8 31), .lit (.int .u8 27), .lit (.int .u8 13), .lit (.int .u8 23), .lit (.int .u8 21), .lit (.int .u8 19), .lit (.int .u8 16), .lit (.int .u8 7), .lit (.int .u8 26), .lit (.int .u8 12), .lit (.int .u8 18), .lit (.int .u8 6), .lit (.int .u8 11), .lit (.int .u8 5), .lit (.int .u8 10), .lit (.int .u8 9)]
def laid_math_bits_deBruijn64tab {H : Type} : DataW H := .agg [.lit (.int .u8 0), .lit (.int .u8 1), .lit (.int .u8 56), .lit (.int .u8 2), .lit (.int .u8 57), .lit (.int .u8 49), .lit (.int .u8 28), .lit (.int .u8 3), .lit (.int .u8 61), .lit (.int .u8 58), .lit (.int .u8 42), .lit (.int .u8 50), .lit (.int .u8 38), .lit (.int .u8 29), .lit (.int .u8 17), .lit (.int .u8 4), .lit (.int .u8 62), .lit (.int .u8 47), .lit (.int .u8 59), .lit (.int .u8 36), .lit (.int .u8 45), .lit (.int .u8 43), .lit (.int .u8 51), .lit (.int .u8 22), .lit (.int .u8 53), .lit (.int .u8 39), .lit (.int .u8 33), .lit (.int .u8 30), .lit (.int .u8 24), .lit (.int .u8 18), .lit (.int .u8 12), .lit (.int .u8 5), .lit (.int .u8 63), .lit (.int .u8 55), .lit (.int .u8 48), .lit (.int .u8 27), .lit (.int .u8 60), .lit (.int .u8 41), .lit (.int .u8 37), .lit (.int .u8 16), .lit (.int .u8 46), .lit (.int .u8 35), .lit (.int .u8 44), .lit (.int .u8 21), .lit (.int .u8 52), .lit (.int .u8 32), .lit (.int .u8 23), .lit (.int .u8 11), .lit (.int .u8 54), .lit (.int .u8 26), .lit (.int .u8 40), .lit (.int .u8 15), .lit (.int .u8 34), .lit (.int .u8 20), .lit (.int .u8 31), .lit (.int .u8 10), .lit (.int .u8 25), .lit (.int .u8 14), .lit (.int .u8 19), .lit (.int .u8 9), .lit (.int .u8 13), .lit (.int .u8 8), .lit (.int .u8 7), .lit (.int .u8 6)]
def laid_internal_strconv_uint64pow10 {H : Type} : DataW H := .agg [.lit (.int .u64 1), .lit (.int .u64 10), .lit (.int .u64 100), .lit (.int .u64 1000), .lit (.int .u64 10000), .lit (.int .u64 100000), .lit (.int .u64 1000000), .lit (.int .u64 10000000), .lit (.int .u64 100000000), .lit (.int .u64 1000000000), .lit (.int .u64 10000000000), .lit (.int .u64 100000000000), .lit (.int .u64 1000000000000), .lit (.int .u64 10000000000000), .lit (.int .u64 100000000000000), .lit (.int .u64 1000000000000000), .lit (.int .u64 10000000000000000), .lit (.int .u64 100000000000000000), .lit (.int .u64 1000000000000000000), .lit (.int .u64 10000000000000000000)]
def laid_loop_example_g01012_impl_codeNames {H : Type} : DataW H := .agg [.lit (.string [111, 107]), .lit (.string [105, 110, 118, 97, 108, 105, 100]), .lit (.string [114, 97, 110, 103, 101]), .lit (.string [110, 111, 116, 45, 102, 111, 117, 110, 100]), .lit (.string [101, 120, 105, 115, 116, 115]), .lit (.string [102, 117, 108, 108]), .lit (.string [115, 116, 97, 116, 101]), .lit (.string [115, 121, 110, 116, 97, 120]), .lit (.string [102, 111, 114, 109, 97, 116]), .lit (.string [99, 108, 97, 115, 104]), .lit (.string [106, 97, 109])]
def laid_strconv_ErrRange {H : Type} : DataW H := .iface "*errors.errorString" (.ptr (.agg [.lit (.string [118, 97, 108, 117, 101, 32, 111, 117, 116, 32, 111, 102, 32, 114, 97, 110, 103, 101])]))
def laid_strconv_ErrSyntax {H : Type} : DataW H := .iface "*errors.errorString" (.ptr (.agg [.lit (.string [105, 110, 118, 97, 108, 105, 100, 32, 115, 121, 110, 116, 97, 120])]))

/-- 'laws.FnCodes': WHATEVER THE INPUT: true; the input reads as it did. -/
def fnCodesSpec : ChangeSpec := { name := "fnCodes", vars := ["loop.example/g01012/impl.places", "loop.example/g01012/impl.errLong", "loop.example/g01012/impl.errForeign", "loop.example/g01012/impl.errNoMeaning"], fn := fun _ => fun
  | [d, g1, g2, g3, g4] => { results := [.lit (.bool true)], args := [d], vars := [g1, g2, g3, g4] }
  | _ => none }
def fnCodesRow : OpenClaim := { program := "ytmibkaldeickdabdoor", sum := "5224065a0ae0e5a176e5085448f0e9b0679edbadedd07f091db3fea302126fe8", func := "loop.example/g01012/laws.FnCodes", spec := "fnCodes", inPlace := ["internal/bytealg.IndexByteString", "internal/reflectlite.TypeOf", "internal/abi.NoEscape"], unfollowed := true, recurses := true, named := ["loop.example/g01012/impl.places", "loop.example/g01012/impl.errLong", "loop.example/g01012/impl.errForeign", "loop.example/g01012/impl.errNoMeaning"], ifaces := true, apart := false, laid := [("loop.example/g01012/impl.places", laid_loop_example_g01012_impl_places), ("loop.example/g01012/impl.errLong", laid_loop_example_g01012_impl_errLong), ("loop.example/g01012/impl.errForeign", laid_loop_example_g01012_impl_errForeign), ("loop.example/g01012/impl.errNoMeaning", laid_loop_example_g01012_impl_errNoMeaning)] }
def FnCodesSaid : Prop := fnCodesRow.holds Tryd.pinned (OpenSpec.ofChange fnCodesSpec)

/-- ITS FALSE NEIGHBOUR: 'it returns false'. Refute it at one input. -/
def fnCodesWrong : ChangeSpec := { name := "fnCodes", vars := ["loop.example/g01012/impl.places", "loop.example/g01012/impl.errLong", "loop.example/g01012/impl.errForeign", "loop.example/g01012/impl.errNoMeaning"], fn := fun _ => fun
  | [d, g1, g2, g3, g4] => { results := [.lit (.bool false)], args := [d], vars := [g1, g2, g3, g4] }
  | _ => none }
def FnCodesWrongFalsely : Prop := fnCodesRow.holds Tryd.pinned (OpenSpec.ofChange fnCodesWrong)

/-- 'laws.FnLegal': WHATEVER THE INPUT: true; the input reads as it did. -/
def fnLegalSpec : ChangeSpec := { name := "fnLegal", vars := ["loop.example/g01012/impl.errNoMeaning", "loop.example/g01012/impl.errLong", "loop.example/g01012/impl.errForeign"], fn := fun _ => fun
  | [d, g1, g2, g3] => { results := [.lit (.bool true)], args := [d], vars := [g1, g2, g3] }
  | _ => none }
def fnLegalRow : OpenClaim := { program := "ytmibkaldeickdabdoor", sum := "5224065a0ae0e5a176e5085448f0e9b0679edbadedd07f091db3fea302126fe8", func := "loop.example/g01012/laws.FnLegal", spec := "fnLegal", inPlace := ["internal/abi.NoEscape", "internal/reflectlite.TypeOf"], unfollowed := true, recurses := true, named := ["loop.example/g01012/impl.errNoMeaning", "loop.example/g01012/impl.errLong", "loop.example/g01012/impl.errForeign"], ifaces := true, apart := false, laid := [("loop.example/g01012/impl.errLong", laid_loop_example_g01012_impl_errLong), ("loop.example/g01012/impl.errForeign", laid_loop_example_g01012_impl_errForeign), ("loop.example/g01012/impl.errNoMeaning", laid_loop_example_g01012_impl_errNoMeaning)] }
def FnLegalSaid : Prop := fnLegalRow.holds Tryd.pinned (OpenSpec.ofChange fnLegalSpec)

/-- ITS FALSE NEIGHBOUR: 'it returns false'. Refute it at one input. -/
def fnLegalWrong : ChangeSpec := { name := "fnLegal", vars := ["loop.example/g01012/impl.errNoMeaning", "loop.example/g01012/impl.errLong", "loop.example/g01012/impl.errForeign"], fn := fun _ => fun
  | [d, g1, g2, g3] => { results := [.lit (.bool false)], args := [d], vars := [g1, g2, g3] }
  | _ => none }
def FnLegalWrongFalsely : Prop := fnLegalRow.holds Tryd.pinned (OpenSpec.ofChange fnLegalWrong)

/-- 'laws.FnNumbers': WHATEVER THE INPUT: true; the input reads as it did. -/
def fnNumbersSpec : ChangeSpec := { name := "fnNumbers", vars := ["loop.example/g01012/impl.errLong", "loop.example/g01012/impl.errForeign", "loop.example/g01012/impl.errNoMeaning"], fn := fun _ => fun
  | [d1, d2, g1, g2, g3] => { results := [.lit (.bool true)], args := [d1, d2], vars := [g1, g2, g3] }
  | _ => none }
def fnNumbersRow : OpenClaim := { program := "ytmibkaldeickdabdoor", sum := "5224065a0ae0e5a176e5085448f0e9b0679edbadedd07f091db3fea302126fe8", func := "loop.example/g01012/laws.FnNumbers", spec := "fnNumbers", inPlace := ["internal/abi.NoEscape", "internal/bytealg.MakeNoZero", "internal/bytealg.IndexByteString", "internal/reflectlite.TypeOf"], unfollowed := true, recurses := true, named := ["internal/strconv.uint64pow10", "math/bits.deBruijn32tab", "math/bits.deBruijn64tab", "loop.example/g01012/impl.errLong", "loop.example/g01012/impl.errForeign", "loop.example/g01012/impl.errNoMeaning"], ifaces := true, apart := false, laid := [("math/bits.deBruijn32tab", laid_math_bits_deBruijn32tab), ("math/bits.deBruijn64tab", laid_math_bits_deBruijn64tab), ("internal/strconv.uint64pow10", laid_internal_strconv_uint64pow10), ("loop.example/g01012/impl.errLong", laid_loop_example_g01012_impl_errLong), ("loop.example/g01012/impl.errForeign", laid_loop_example_g01012_impl_errForeign), ("loop.example/g01012/impl.errNoMeaning", laid_loop_example_g01012_impl_errNoMeaning)] }
def FnNumbersSaid : Prop := fnNumbersRow.holds Tryd.pinned (OpenSpec.ofChange fnNumbersSpec)

/-- ITS FALSE NEIGHBOUR: 'it returns false'. Refute it at one input. -/
def fnNumbersWrong : ChangeSpec := { name := "fnNumbers", vars := ["loop.example/g01012/impl.errLong", "loop.example/g01012/impl.errForeign", "loop.example/g01012/impl.errNoMeaning"], fn := fun _ => fun
  | [d1, d2, g1, g2, g3] => { results := [.lit (.bool false)], args := [d1, d2], vars := [g1, g2, g3] }
  | _ => none }
def FnNumbersWrongFalsely : Prop := fnNumbersRow.holds Tryd.pinned (OpenSpec.ofChange fnNumbersWrong)

/-- 'laws.FnCompared': WHATEVER THE INPUT: true; the input reads as it did. -/
def fnComparedSpec : ChangeSpec := { name := "fnCompared", vars := ["loop.example/g01012/impl.places"], fn := fun _ => fun
  | [d1, d2, g1] => { results := [.lit (.bool true)], args := [d1, d2], vars := [g1] }
  | _ => none }
def fnComparedRow : OpenClaim := { program := "ytmibkaldeickdabdoor", sum := "5224065a0ae0e5a176e5085448f0e9b0679edbadedd07f091db3fea302126fe8", func := "loop.example/g01012/laws.FnCompared", spec := "fnCompared", named := ["loop.example/g01012/impl.places"], apart := false, laid := [("loop.example/g01012/impl.places", laid_loop_example_g01012_impl_places)] }
def FnComparedSaid : Prop := fnComparedRow.holds Tryd.pinned (OpenSpec.ofChange fnComparedSpec)

/-- ITS FALSE NEIGHBOUR: 'it returns false'. Refute it at one input. -/
def fnComparedWrong : ChangeSpec := { name := "fnCompared", vars := ["loop.example/g01012/impl.places"], fn := fun _ => fun
  | [d1, d2, g1] => { results := [.lit (.bool false)], args := [d1, d2], vars := [g1] }
  | _ => none }
def FnComparedWrongFalsely : Prop := fnComparedRow.holds Tryd.pinned (OpenSpec.ofChange fnComparedWrong)

/-- 'laws.FnExactPunchNumber': WHATEVER THE INPUT: true; the input reads as it did. -/
def fnExactPunchNumberSpec : ChangeSpec := { name := "fnExactPunchNumber", vars := ["loop.example/g01012/impl.errLong", "loop.example/g01012/impl.errForeign"], fn := fun _ => fun
  | [d1, d2, d3, g1, g2] => { results := [.lit (.bool true)], args := [d1, d2, d3], vars := [g1, g2] }
  | _ => none }
def fnExactPunchNumberRow : OpenClaim := { program := "ytmibkaldeickdabdoor", sum := "5224065a0ae0e5a176e5085448f0e9b0679edbadedd07f091db3fea302126fe8", func := "loop.example/g01012/laws.FnExactPunchNumber", spec := "fnExactPunchNumber", inPlace := ["internal/abi.NoEscape", "internal/bytealg.MakeNoZero", "internal/bytealg.IndexByteString", "internal/reflectlite.TypeOf"], unfollowed := true, recurses := true, named := ["internal/strconv.uint64pow10", "math/bits.deBruijn32tab", "math/bits.deBruijn64tab", "loop.example/g01012/impl.errLong", "loop.example/g01012/impl.errForeign"], ifaces := true, apart := false, laid := [("math/bits.deBruijn32tab", laid_math_bits_deBruijn32tab), ("math/bits.deBruijn64tab", laid_math_bits_deBruijn64tab), ("internal/strconv.uint64pow10", laid_internal_strconv_uint64pow10), ("loop.example/g01012/impl.errLong", laid_loop_example_g01012_impl_errLong), ("loop.example/g01012/impl.errForeign", laid_loop_example_g01012_impl_errForeign)] }
def FnExactPunchNumberSaid : Prop := fnExactPunchNumberRow.holds Tryd.pinned (OpenSpec.ofChange fnExactPunchNumberSpec)

/-- ITS FALSE NEIGHBOUR: 'it returns false'. Refute it at one input. -/
def fnExactPunchNumberWrong : ChangeSpec := { name := "fnExactPunchNumber", vars := ["loop.example/g01012/impl.errLong", "loop.example/g01012/impl.errForeign"], fn := fun _ => fun
  | [d1, d2, d3, g1, g2] => { results := [.lit (.bool false)], args := [d1, d2, d3], vars := [g1, g2] }
  | _ => none }
def FnExactPunchNumberWrongFalsely : Prop := fnExactPunchNumberRow.holds Tryd.pinned (OpenSpec.ofChange fnExactPunchNumberWrong)

/-- 'laws.FnExactCodeName': WHATEVER THE INPUT: true; the input reads as it did. -/
def fnExactCodeNameSpec : ChangeSpec := { name := "fnExactCodeName", vars := ["loop.example/g01012/impl.codeNames"], fn := fun _ => fun
  | [d, g1] => { results := [.lit (.bool true)], args := [d], vars := [g1] }
  | _ => none }
def fnExactCodeNameRow : OpenClaim := { program := "ytmibkaldeickdabdoor", sum := "5224065a0ae0e5a176e5085448f0e9b0679edbadedd07f091db3fea302126fe8", func := "loop.example/g01012/laws.FnExactCodeName", spec := "fnExactCodeName", named := ["loop.example/g01012/impl.codeNames"], apart := false, laid := [("loop.example/g01012/impl.codeNames", laid_loop_example_g01012_impl_codeNames)] }
def FnExactCodeNameSaid : Prop := fnExactCodeNameRow.holds Tryd.pinned (OpenSpec.ofChange fnExactCodeNameSpec)

/-- ITS FALSE NEIGHBOUR: 'it returns false'. Refute it at one input. -/
def fnExactCodeNameWrong : ChangeSpec := { name := "fnExactCodeName", vars := ["loop.example/g01012/impl.codeNames"], fn := fun _ => fun
  | [d, g1] => { results := [.lit (.bool false)], args := [d], vars := [g1] }
  | _ => none }
def FnExactCodeNameWrongFalsely : Prop := fnExactCodeNameRow.holds Tryd.pinned (OpenSpec.ofChange fnExactCodeNameWrong)

/-- 'laws.FnExactDecimal': WHATEVER THE INPUT: true; the input reads as it did. -/
def fnExactDecimalSpec : ChangeSpec := { name := "fnExactDecimal", fn := fun _ => fun
  | [d] => { results := [.lit (.bool true)], args := [d] }
  | _ => none }
def fnExactDecimalRow : OpenClaim := { program := "ytmibkaldeickdabdoor", sum := "5224065a0ae0e5a176e5085448f0e9b0679edbadedd07f091db3fea302126fe8", func := "loop.example/g01012/laws.FnExactDecimal", spec := "fnExactDecimal", inPlace := ["internal/abi.NoEscape"], named := ["internal/strconv.uint64pow10", "math/bits.deBruijn32tab", "math/bits.deBruijn64tab"], apart := false, laid := [("math/bits.deBruijn32tab", laid_math_bits_deBruijn32tab), ("math/bits.deBruijn64tab", laid_math_bits_deBruijn64tab), ("internal/strconv.uint64pow10", laid_internal_strconv_uint64pow10)] }
def FnExactDecimalSaid : Prop := fnExactDecimalRow.holds Tryd.pinned (OpenSpec.ofChange fnExactDecimalSpec)

/-- ITS FALSE NEIGHBOUR: 'it returns false'. Refute it at one input. -/
def fnExactDecimalWrong : ChangeSpec := { name := "fnExactDecimal", fn := fun _ => fun
  | [d] => { results := [.lit (.bool false)], args := [d] }
  | _ => none }
def FnExactDecimalWrongFalsely : Prop := fnExactDecimalRow.holds Tryd.pinned (OpenSpec.ofChange fnExactDecimalWrong)

/-- 'laws.FnExactReadDecimal': WHATEVER THE INPUT: true; the input reads as it did. -/
def fnExactReadDecimalSpec : ChangeSpec := { name := "fnExactReadDecimal", fn := fun _ => fun
  | [d] => { results := [.lit (.bool true)], args := [d] }
  | _ => none }
def fnExactReadDecimalRow : OpenClaim := { program := "ytmibkaldeickdabdoor", sum := "5224065a0ae0e5a176e5085448f0e9b0679edbadedd07f091db3fea302126fe8", func := "loop.example/g01012/laws.FnExactReadDecimal", spec := "fnExactReadDecimal", inPlace := ["internal/abi.NoEscape"], named := ["strconv.ErrSyntax", "strconv.ErrRange", "internal/strconv.uint64pow10", "math/bits.deBruijn32tab", "math/bits.deBruijn64tab"], apart := false, laid := [("math/bits.deBruijn32tab", laid_math_bits_deBruijn32tab), ("math/bits.deBruijn64tab", laid_math_bits_deBruijn64tab), ("internal/strconv.uint64pow10", laid_internal_strconv_uint64pow10), ("strconv.ErrRange", laid_strconv_ErrRange), ("strconv.ErrSyntax", laid_strconv_ErrSyntax)] }
def FnExactReadDecimalSaid : Prop := fnExactReadDecimalRow.holds Tryd.pinned (OpenSpec.ofChange fnExactReadDecimalSpec)

/-- ITS FALSE NEIGHBOUR: 'it returns false'. Refute it at one input. -/
def fnExactReadDecimalWrong : ChangeSpec := { name := "fnExactReadDecimal", fn := fun _ => fun
  | [d] => { results := [.lit (.bool false)], args := [d] }
  | _ => none }
def FnExactReadDecimalWrongFalsely : Prop := fnExactReadDecimalRow.holds Tryd.pinned (OpenSpec.ofChange fnExactReadDecimalWrong)

/- THE SECOND FORM. 'bulk': how many values and letters a reading holds, each counted each time it is reached (what is shared counts as often as it is met; a slice's spare places count too). A statement '..UptoSaid' is the law's where the arguments, and the package variables that the reading takes, are together of bulk at most 1048576: NARROWER than '..Said'. Prove '..Said' where nothing that the law and all that it calls make is longer than what came in: it says more and counts as full. Else prove '..UptoSaid'. A law counts once. -/
mutual
def uptoBulk {H : Type} : DataW H → Nat
  | .lit (.string bytes) => bytes.length + 1
  | .lit _ => 1
  | .nil => 1
  | .ptr d => uptoBulk d + 1
  | .slice elems spare => uptoBulkAll elems + uptoBulkAll spare + 1
  | .agg parts => uptoBulkAll parts + 1
  | .iface _ d => uptoBulk d + 1
  | .map entries => uptoBulkEntries entries + 1
  | .held _ => 1
def uptoBulkAll {H : Type} : List (DataW H) → Nat
  | [] => 0
  | d :: r => uptoBulk d + uptoBulkAll r
def uptoBulkEntries {H : Type} : List (Lit × DataW H) → Nat
  | [] => 0
  | x :: r => uptoBulkEntry x + uptoBulkEntries r
def uptoBulkEntry {H : Type} : Lit × DataW H → Nat
  | (.string bytes, d) => bytes.length + uptoBulk d + 1
  | (_, d) => uptoBulk d + 1
 end
def uptoSmall : (H : Type) → List (DataW H) → Bool := fun _ ds => decide (uptoBulkAll ds ≤ 1048576)
def OpenSpec.upto (s : _root_.Go.ChangeSpec) : _root_.Go.OpenSpec := { _root_.Go.OpenSpec.ofChange s with cond := some uptoSmall }

/-- 'laws.FnCodes', WHERE WHAT IT READS IS OF BULK AT MOST 1048576: true; the input reads as it did. -/
def fnCodesUptoRow : OpenClaim := { program := "ytmibkaldeickdabdoor", sum := "5224065a0ae0e5a176e5085448f0e9b0679edbadedd07f091db3fea302126fe8", func := "loop.example/g01012/laws.FnCodes", spec := "fnCodes", inPlace := ["internal/bytealg.IndexByteString", "internal/reflectlite.TypeOf", "internal/abi.NoEscape"], unfollowed := true, recurses := true, named := ["loop.example/g01012/impl.places", "loop.example/g01012/impl.errLong", "loop.example/g01012/impl.errForeign", "loop.example/g01012/impl.errNoMeaning"], ifaces := true, apart := false, laid := [("loop.example/g01012/impl.places", laid_loop_example_g01012_impl_places), ("loop.example/g01012/impl.errLong", laid_loop_example_g01012_impl_errLong), ("loop.example/g01012/impl.errForeign", laid_loop_example_g01012_impl_errForeign), ("loop.example/g01012/impl.errNoMeaning", laid_loop_example_g01012_impl_errNoMeaning)], narrowed := true }
def FnCodesUptoSaid : Prop := fnCodesUptoRow.holds Tryd.pinned (OpenSpec.upto fnCodesSpec)

/-- 'laws.FnLegal', WHERE WHAT IT READS IS OF BULK AT MOST 1048576: true; the input reads as it did. -/
def fnLegalUptoRow : OpenClaim := { program := "ytmibkaldeickdabdoor", sum := "5224065a0ae0e5a176e5085448f0e9b0679edbadedd07f091db3fea302126fe8", func := "loop.example/g01012/laws.FnLegal", spec := "fnLegal", inPlace := ["internal/abi.NoEscape", "internal/reflectlite.TypeOf"], unfollowed := true, recurses := true, named := ["loop.example/g01012/impl.errNoMeaning", "loop.example/g01012/impl.errLong", "loop.example/g01012/impl.errForeign"], ifaces := true, apart := false, laid := [("loop.example/g01012/impl.errLong", laid_loop_example_g01012_impl_errLong), ("loop.example/g01012/impl.errForeign", laid_loop_example_g01012_impl_errForeign), ("loop.example/g01012/impl.errNoMeaning", laid_loop_example_g01012_impl_errNoMeaning)], narrowed := true }
def FnLegalUptoSaid : Prop := fnLegalUptoRow.holds Tryd.pinned (OpenSpec.upto fnLegalSpec)

/-- 'laws.FnNumbers', WHERE WHAT IT READS IS OF BULK AT MOST 1048576: true; the input reads as it did. -/
def fnNumbersUptoRow : OpenClaim := { program := "ytmibkaldeickdabdoor", sum := "5224065a0ae0e5a176e5085448f0e9b0679edbadedd07f091db3fea302126fe8", func := "loop.example/g01012/laws.FnNumbers", spec := "fnNumbers", inPlace := ["internal/abi.NoEscape", "internal/bytealg.MakeNoZero", "internal/bytealg.IndexByteString", "internal/reflectlite.TypeOf"], unfollowed := true, recurses := true, named := ["internal/strconv.uint64pow10", "math/bits.deBruijn32tab", "math/bits.deBruijn64tab", "loop.example/g01012/impl.errLong", "loop.example/g01012/impl.errForeign", "loop.example/g01012/impl.errNoMeaning"], ifaces := true, apart := false, laid := [("math/bits.deBruijn32tab", laid_math_bits_deBruijn32tab), ("math/bits.deBruijn64tab", laid_math_bits_deBruijn64tab), ("internal/strconv.uint64pow10", laid_internal_strconv_uint64pow10), ("loop.example/g01012/impl.errLong", laid_loop_example_g01012_impl_errLong), ("loop.example/g01012/impl.errForeign", laid_loop_example_g01012_impl_errForeign), ("loop.example/g01012/impl.errNoMeaning", laid_loop_example_g01012_impl_errNoMeaning)], narrowed := true }
def FnNumbersUptoSaid : Prop := fnNumbersUptoRow.holds Tryd.pinned (OpenSpec.upto fnNumbersSpec)

/-- 'laws.FnCompared', WHERE WHAT IT READS IS OF BULK AT MOST 1048576: true; the input reads as it did. -/
def fnComparedUptoRow : OpenClaim := { program := "ytmibkaldeickdabdoor", sum := "5224065a0ae0e5a176e5085448f0e9b0679edbadedd07f091db3fea302126fe8", func := "loop.example/g01012/laws.FnCompared", spec := "fnCompared", named := ["loop.example/g01012/impl.places"], apart := false, laid := [("loop.example/g01012/impl.places", laid_loop_example_g01012_impl_places)], narrowed := true }
def FnComparedUptoSaid : Prop := fnComparedUptoRow.holds Tryd.pinned (OpenSpec.upto fnComparedSpec)

/-- 'laws.FnExactPunchNumber', WHERE WHAT IT READS IS OF BULK AT MOST 1048576: true; the input reads as it did. -/
def fnExactPunchNumberUptoRow : OpenClaim := { program := "ytmibkaldeickdabdoor", sum := "5224065a0ae0e5a176e5085448f0e9b0679edbadedd07f091db3fea302126fe8", func := "loop.example/g01012/laws.FnExactPunchNumber", spec := "fnExactPunchNumber", inPlace := ["internal/abi.NoEscape", "internal/bytealg.MakeNoZero", "internal/bytealg.IndexByteString", "internal/reflectlite.TypeOf"], unfollowed := true, recurses := true, named := ["internal/strconv.uint64pow10", "math/bits.deBruijn32tab", "math/bits.deBruijn64tab", "loop.example/g01012/impl.errLong", "loop.example/g01012/impl.errForeign"], ifaces := true, apart := false, laid := [("math/bits.deBruijn32tab", laid_math_bits_deBruijn32tab), ("math/bits.deBruijn64tab", laid_math_bits_deBruijn64tab), ("internal/strconv.uint64pow10", laid_internal_strconv_uint64pow10), ("loop.example/g01012/impl.errLong", laid_loop_example_g01012_impl_errLong), ("loop.example/g01012/impl.errForeign", laid_loop_example_g01012_impl_errForeign)], narrowed := true }
def FnExactPunchNumberUptoSaid : Prop := fnExactPunchNumberUptoRow.holds Tryd.pinned (OpenSpec.upto fnExactPunchNumberSpec)

/-- 'laws.FnExactCodeName', WHERE WHAT IT READS IS OF BULK AT MOST 1048576: true; the input reads as it did. -/
def fnExactCodeNameUptoRow : OpenClaim := { program := "ytmibkaldeickdabdoor", sum := "5224065a0ae0e5a176e5085448f0e9b0679edbadedd07f091db3fea302126fe8", func := "loop.example/g01012/laws.FnExactCodeName", spec := "fnExactCodeName", named := ["loop.example/g01012/impl.codeNames"], apart := false, laid := [("loop.example/g01012/impl.codeNames", laid_loop_example_g01012_impl_codeNames)], narrowed := true }
def FnExactCodeNameUptoSaid : Prop := fnExactCodeNameUptoRow.holds Tryd.pinned (OpenSpec.upto fnExactCodeNameSpec)

/-- 'laws.FnExactDecimal', WHERE WHAT IT READS IS OF BULK AT MOST 1048576: true; the input reads as it did. -/
def fnExactDecimalUptoRow : OpenClaim := { program := "ytmibkaldeickdabdoor", sum := "5224065a0ae0e5a176e5085448f0e9b0679edbadedd07f091db3fea302126fe8", func := "loop.example/g01012/laws.FnExactDecimal", spec := "fnExactDecimal", inPlace := ["internal/abi.NoEscape"], named := ["internal/strconv.uint64pow10", "math/bits.deBruijn32tab", "math/bits.deBruijn64tab"], apart := false, laid := [("math/bits.deBruijn32tab", laid_math_bits_deBruijn32tab), ("math/bits.deBruijn64tab", laid_math_bits_deBruijn64tab), ("internal/strconv.uint64pow10", laid_internal_strconv_uint64pow10)], narrowed := true }
def FnExactDecimalUptoSaid : Prop := fnExactDecimalUptoRow.holds Tryd.pinned (OpenSpec.upto fnExactDecimalSpec)

/-- 'laws.FnExactReadDecimal', WHERE WHAT IT READS IS OF BULK AT MOST 1048576: true; the input reads as it did. -/
def fnExactReadDecimalUptoRow : OpenClaim := { program := "ytmibkaldeickdabdoor", sum := "5224065a0ae0e5a176e5085448f0e9b0679edbadedd07f091db3fea302126fe8", func := "loop.example/g01012/laws.FnExactReadDecimal", spec := "fnExactReadDecimal", inPlace := ["internal/abi.NoEscape"], named := ["strconv.ErrSyntax", "strconv.ErrRange", "internal/strconv.uint64pow10", "math/bits.deBruijn32tab", "math/bits.deBruijn64tab"], apart := false, laid := [("math/bits.deBruijn32tab", laid_math_bits_deBruijn32tab), ("math/bits.deBruijn64tab", laid_math_bits_deBruijn64tab), ("internal/strconv.uint64pow10", laid_internal_strconv_uint64pow10), ("strconv.ErrRange", laid_strconv_ErrRange), ("strconv.ErrSyntax", laid_strconv_ErrSyntax)], narrowed := true }
def FnExactReadDecimalUptoSaid : Prop := fnExactReadDecimalUptoRow.holds Tryd.pinned (OpenSpec.upto fnExactReadDecimalSpec)

end Rows
end Go.Proofs.YtmibkaldeickdabDoor
