/-
  NARROWER THAN 'FOR EVERY INPUT', by the rows' own cells (each row's printed sentence says how): FnExactPunchText: ifaces, laid · FnExactReadText: ifaces, laid · FnExactNumberIn: ifaces, laid · FnExactCompareFields: laid · FnExactRankOf: laid.
  DERIVED. THE GIVEN ROWS OF THIS SEAT. 5 by the template 'for every input the law returns true; each argument reads behind the call as it read before'; 0 by the template 'total and deterministic' (their statements: YtmibkaldeickdadDoorTotals.lean).
  GIVEN WITH THE SEED: the statements are not yours to turn. If you find one false, say at which input.
  Laid BY PROGRAM, IN A SANDBOX (cutbox-rows.mjs): the forced cells as the released guide's own fill.sh prints them over the translation 7fa50d2b0853e3a3… (all of the seat's roots in one cut). By AI agents, Wed Nov 11 2026. No macro, syntax, notation, axiom, sorry.
-/
import Derived.Test.YtmibkaldeickdadDoorChecked
import GoSem.Claim
import GoSem.ClaimJoined
import GoSem.ClaimMapViews
import Derived.JoinedTies
import Derived.KernelRfl
namespace Go.Proofs.YtmibkaldeickdadDoor
/- THE CELL 'sum', in the pinned program and in every row, IS THE sha256 OF THE DUMP (.gsa) THAT YtmibkaldeickdadDoorProg.lean LOADS. Nothing in Lean hashes anything: it is a label: what it is worth is what the hold of that sum in a sandbox is worth. -/
noncomputable def Tryd.pinned : Pinned := { name := "ytmibkaldeickdaddoor", sum := "7fa50d2b0853e3a39d4a4d883f6f351c0e68ed500084ea0b69ba27f6793f2fa9", checked := Tryd.checked }
namespace Rows
def none {H : Type} : Left H := { results := [], args := [] }

/- WHAT THE LISTED PACKAGE-LEVEL VARIABLES READ AS WHEN THE CALL BEGINS. Each datum BY PROGRAM (the guide's laid-datum.mjs) off the statement by which the dump's own 'gosem.cut.vars' lays the variable. In a bare row this is a premise. The card (YtmibkaldeickdadDoorCards.lean) ties it to the program's text. -/
def laid_loop_example_g01012_impl_errLong {H : Type} : DataW H := .iface "*errors.errorString" (.ptr (.agg [.lit (.string [109, 111, 114, 101, 32, 116, 104, 97, 110, 32, 116, 104, 101, 32, 99, 111, 108, 117, 109, 110, 115, 32, 99, 97, 110, 32, 104, 97, 118, 101])]))
def laid_loop_example_g01012_impl_errForeign {H : Type} : DataW H := .iface "*errors.errorString" (.ptr (.agg [.lit (.string [97, 32, 116, 101, 120, 116, 32, 102, 111, 114, 32, 119, 104, 105, 99, 104, 32, 116, 104, 101, 114, 101, 32, 97, 114, 101, 32, 110, 111, 32, 104, 111, 108, 101, 115])]))
def laid_loop_example_g01012_impl_errNoMeaning {H : Type} : DataW H := .iface "*errors.errorString" (.ptr (.agg [.lit (.string [104, 111, 108, 101, 115, 32, 116, 104, 97, 116, 32, 115, 116, 97, 110, 100, 32, 102, 111, 114, 32, 110, 111, 116, 104, 105, 110, 103])]))
def laid_loop_example_g01012_impl_places {H : Type} : DataW H := .agg [.lit (.int .i8 0), .lit (.int .i8 0), .lit (.int .i8 0), .lit (.int .i8 0), .lit (.int .i8 0), .lit (.int .i8 0), .lit (.int .i8 0), .lit (.int .i8 0), .lit (.int .i8 0), .lit (.int .i8 0), .lit (.int .i8 0), .lit (.int .i8 0), .lit (.int .i8 0), .lit (.int .i8 0), .lit (.int .i8 0), .lit (.int .i8 0), .lit (.int .i8 0), .lit (.int .i8 0), .lit (.int .i8 0), .lit (.int .i8 0), .lit (.int .i8 0), .lit (.int .i8 0), .lit (.int .i8 0), .lit (.int .i8 0), .lit (.int .i8 0), .lit (.int .i8 0), .lit (.int .i8 0), .lit (.int .i8 0), .lit (.int .i8 0), .lit (.int .i8 0), .lit (.int .i8 0), .lit (.int .i8 0), .lit (.int .i8 1), .lit (.int .i8 0), .lit (.int .i8 0), .lit (.int .i8 0), .lit (.int .i8 0), .lit (.int .i8 0), .lit (.int .i8 2), .lit (.int .i8 0), .lit (.int .i8 0), .lit (.int .i8 0), .lit (.int .i8 0), .lit (.int .i8 0), .lit (.int .i8 0), .lit (.int .i8 12), .lit (.int .i8 0), .lit (.int .i8 22), .lit (.int .i8 31), .lit (.int .i8 32), .lit (.int .i8 33), .lit (.int .i8 34), .lit (.int .i8 35), .lit (.int .i8 36), .lit (.int .i8 37), .lit (.int .i8 38), .lit (.int .i8 39), .lit (.int .i8 40), .lit (.int .i8 0), .lit (.int .i8 0), .lit (.int .i8 0), .lit (.int .i8 0), .lit (.int .i8 0), .lit (.int .i8 0), .lit (.int .i8 0), .lit (.int .i8 3), .lit (.int .i8 4), .lit (.int .i8 5), .lit (.int .i8 6), .lit (.int .i8 7), .lit (.int .i8 8), .lit (.int .i8 9), .lit (.int .i8 10), .lit (.int .i8 11), .lit (.int .i8 13), .lit (.int .i8 14), .lit (.int .i8 15), .lit (.int .i8 16), .lit (.int .i8 17), .lit (.int .i8 18), .lit (.int .i8 19), .lit (.int .i8 20), .lit (.int .i8 21), .lit (.int .i8 23), .lit (.int .i8 24), .lit (.int .i8 25), .lit (.int .i8 26), .lit (.int .i8 27), .lit (.int .i8 28), .lit (.int .i8 29), .lit (.int .i8 30)]

/-- 'laws.FnExactPunchText': WHATEVER THE INPUT: true; the input reads as it did. -/
def fnExactPunchTextSpec : ChangeSpec := { name := "fnExactPunchText", vars := ["loop.example/g01012/impl.errLong", "loop.example/g01012/impl.errForeign"], fn := fun _ => fun
  | [d1, d2, g1, g2] => { results := [.lit (.bool true)], args := [d1, d2], vars := [g1, g2] }
  | _ => none }
def fnExactPunchTextRow : OpenClaim := { program := "ytmibkaldeickdaddoor", sum := "7fa50d2b0853e3a39d4a4d883f6f351c0e68ed500084ea0b69ba27f6793f2fa9", func := "loop.example/g01012/laws.FnExactPunchText", spec := "fnExactPunchText", inPlace := ["internal/bytealg.IndexByteString", "internal/reflectlite.TypeOf"], unfollowed := true, recurses := true, named := ["loop.example/g01012/impl.errLong", "loop.example/g01012/impl.errForeign"], ifaces := true, apart := false, laid := [("loop.example/g01012/impl.errLong", laid_loop_example_g01012_impl_errLong), ("loop.example/g01012/impl.errForeign", laid_loop_example_g01012_impl_errForeign)] }
def FnExactPunchTextSaid : Prop := fnExactPunchTextRow.holds Tryd.pinned (OpenSpec.ofChange fnExactPunchTextSpec)

/-- ITS FALSE NEIGHBOUR: 'it returns false'. Refute it at one input. -/
def fnExactPunchTextWrong : ChangeSpec := { name := "fnExactPunchText", vars := ["loop.example/g01012/impl.errLong", "loop.example/g01012/impl.errForeign"], fn := fun _ => fun
  | [d1, d2, g1, g2] => { results := [.lit (.bool false)], args := [d1, d2], vars := [g1, g2] }
  | _ => none }
def FnExactPunchTextWrongFalsely : Prop := fnExactPunchTextRow.holds Tryd.pinned (OpenSpec.ofChange fnExactPunchTextWrong)

/-- 'laws.FnExactReadText': WHATEVER THE INPUT: true; the input reads as it did. -/
def fnExactReadTextSpec : ChangeSpec := { name := "fnExactReadText", vars := ["loop.example/g01012/impl.errNoMeaning", "loop.example/g01012/impl.errLong", "loop.example/g01012/impl.errForeign"], fn := fun _ => fun
  | [d, g1, g2, g3] => { results := [.lit (.bool true)], args := [d], vars := [g1, g2, g3] }
  | _ => none }
def fnExactReadTextRow : OpenClaim := { program := "ytmibkaldeickdaddoor", sum := "7fa50d2b0853e3a39d4a4d883f6f351c0e68ed500084ea0b69ba27f6793f2fa9", func := "loop.example/g01012/laws.FnExactReadText", spec := "fnExactReadText", inPlace := ["internal/abi.NoEscape", "internal/reflectlite.TypeOf"], unfollowed := true, recurses := true, named := ["loop.example/g01012/impl.errNoMeaning", "loop.example/g01012/impl.errLong", "loop.example/g01012/impl.errForeign"], ifaces := true, apart := false, laid := [("loop.example/g01012/impl.errLong", laid_loop_example_g01012_impl_errLong), ("loop.example/g01012/impl.errForeign", laid_loop_example_g01012_impl_errForeign), ("loop.example/g01012/impl.errNoMeaning", laid_loop_example_g01012_impl_errNoMeaning)] }
def FnExactReadTextSaid : Prop := fnExactReadTextRow.holds Tryd.pinned (OpenSpec.ofChange fnExactReadTextSpec)

/-- ITS FALSE NEIGHBOUR: 'it returns false'. Refute it at one input. -/
def fnExactReadTextWrong : ChangeSpec := { name := "fnExactReadText", vars := ["loop.example/g01012/impl.errNoMeaning", "loop.example/g01012/impl.errLong", "loop.example/g01012/impl.errForeign"], fn := fun _ => fun
  | [d, g1, g2, g3] => { results := [.lit (.bool false)], args := [d], vars := [g1, g2, g3] }
  | _ => none }
def FnExactReadTextWrongFalsely : Prop := fnExactReadTextRow.holds Tryd.pinned (OpenSpec.ofChange fnExactReadTextWrong)

/-- 'laws.FnExactNumberIn': WHATEVER THE INPUT: true; the input reads as it did. -/
def fnExactNumberInSpec : ChangeSpec := { name := "fnExactNumberIn", vars := ["loop.example/g01012/impl.errLong", "loop.example/g01012/impl.errNoMeaning", "loop.example/g01012/impl.errForeign"], fn := fun _ => fun
  | [d1, d2, g1, g2, g3] => { results := [.lit (.bool true)], args := [d1, d2], vars := [g1, g2, g3] }
  | _ => none }
def fnExactNumberInRow : OpenClaim := { program := "ytmibkaldeickdaddoor", sum := "7fa50d2b0853e3a39d4a4d883f6f351c0e68ed500084ea0b69ba27f6793f2fa9", func := "loop.example/g01012/laws.FnExactNumberIn", spec := "fnExactNumberIn", inPlace := ["internal/reflectlite.TypeOf"], unfollowed := true, recurses := true, named := ["loop.example/g01012/impl.errLong", "loop.example/g01012/impl.errNoMeaning", "loop.example/g01012/impl.errForeign"], ifaces := true, apart := false, laid := [("loop.example/g01012/impl.errLong", laid_loop_example_g01012_impl_errLong), ("loop.example/g01012/impl.errForeign", laid_loop_example_g01012_impl_errForeign), ("loop.example/g01012/impl.errNoMeaning", laid_loop_example_g01012_impl_errNoMeaning)] }
def FnExactNumberInSaid : Prop := fnExactNumberInRow.holds Tryd.pinned (OpenSpec.ofChange fnExactNumberInSpec)

/-- ITS FALSE NEIGHBOUR: 'it returns false'. Refute it at one input. -/
def fnExactNumberInWrong : ChangeSpec := { name := "fnExactNumberIn", vars := ["loop.example/g01012/impl.errLong", "loop.example/g01012/impl.errNoMeaning", "loop.example/g01012/impl.errForeign"], fn := fun _ => fun
  | [d1, d2, g1, g2, g3] => { results := [.lit (.bool false)], args := [d1, d2], vars := [g1, g2, g3] }
  | _ => none }
def FnExactNumberInWrongFalsely : Prop := fnExactNumberInRow.holds Tryd.pinned (OpenSpec.ofChange fnExactNumberInWrong)

/-- 'laws.FnExactCompareFields': WHATEVER THE INPUT: true; the input reads as it did. -/
def fnExactCompareFieldsSpec : ChangeSpec := { name := "fnExactCompareFields", vars := ["loop.example/g01012/impl.places"], fn := fun _ => fun
  | [d1, d2, d3, g1] => { results := [.lit (.bool true)], args := [d1, d2, d3], vars := [g1] }
  | _ => none }
def fnExactCompareFieldsRow : OpenClaim := { program := "ytmibkaldeickdaddoor", sum := "7fa50d2b0853e3a39d4a4d883f6f351c0e68ed500084ea0b69ba27f6793f2fa9", func := "loop.example/g01012/laws.FnExactCompareFields", spec := "fnExactCompareFields", named := ["loop.example/g01012/impl.places"], apart := false, laid := [("loop.example/g01012/impl.places", laid_loop_example_g01012_impl_places)] }
def FnExactCompareFieldsSaid : Prop := fnExactCompareFieldsRow.holds Tryd.pinned (OpenSpec.ofChange fnExactCompareFieldsSpec)

/-- ITS FALSE NEIGHBOUR: 'it returns false'. Refute it at one input. -/
def fnExactCompareFieldsWrong : ChangeSpec := { name := "fnExactCompareFields", vars := ["loop.example/g01012/impl.places"], fn := fun _ => fun
  | [d1, d2, d3, g1] => { results := [.lit (.bool false)], args := [d1, d2, d3], vars := [g1] }
  | _ => none }
def FnExactCompareFieldsWrongFalsely : Prop := fnExactCompareFieldsRow.holds Tryd.pinned (OpenSpec.ofChange fnExactCompareFieldsWrong)

/-- 'laws.FnExactRankOf': WHATEVER THE INPUT: true; the input reads as it did. -/
def fnExactRankOfSpec : ChangeSpec := { name := "fnExactRankOf", vars := ["loop.example/g01012/impl.places"], fn := fun _ => fun
  | [d, g1] => { results := [.lit (.bool true)], args := [d], vars := [g1] }
  | _ => none }
def fnExactRankOfRow : OpenClaim := { program := "ytmibkaldeickdaddoor", sum := "7fa50d2b0853e3a39d4a4d883f6f351c0e68ed500084ea0b69ba27f6793f2fa9", func := "loop.example/g01012/laws.FnExactRankOf", spec := "fnExactRankOf", named := ["loop.example/g01012/impl.places"], apart := false, laid := [("loop.example/g01012/impl.places", laid_loop_example_g01012_impl_places)] }
def FnExactRankOfSaid : Prop := fnExactRankOfRow.holds Tryd.pinned (OpenSpec.ofChange fnExactRankOfSpec)

/-- ITS FALSE NEIGHBOUR: 'it returns false'. Refute it at one input. -/
def fnExactRankOfWrong : ChangeSpec := { name := "fnExactRankOf", vars := ["loop.example/g01012/impl.places"], fn := fun _ => fun
  | [d, g1] => { results := [.lit (.bool false)], args := [d], vars := [g1] }
  | _ => none }
def FnExactRankOfWrongFalsely : Prop := fnExactRankOfRow.holds Tryd.pinned (OpenSpec.ofChange fnExactRankOfWrong)

/- THE SECOND FORM. 'bulk': how many values and letters a reading holds, each counted each time it is reached (what is shared counts as often as it is met; a slice's spare places count too). A statement '..UptoSaid' is the law's where the arguments, and the package variables that the reading takes, are together of bulk at most 1048576: NARROWER than '..Said'. Prove '..Said' where nothing that the law and all that it calls make is longer than what came in: it says more and counts as full. Else prove '..UptoSaid'. A law counts once. -/
mutual
def uptoBulk {H : Type} : DataW H → Nat
  | .lit (.string bytes) => bytes.length + 1
  | .lit _ => 1
  | .nil => 1
  | .ptr d => uptoBulk d + 1
  | .slice elems spare => uptoBulkAll elems + uptoBulkAll spare + 1
  | .agg parts => uptoBulkAll parts + 1
  | .iface _ d => uptoBulk d + 1
  | .map entries => uptoBulkEntries entries + 1
  | .held _ => 1
def uptoBulkAll {H : Type} : List (DataW H) → Nat
  | [] => 0
  | d :: r => uptoBulk d + uptoBulkAll r
def uptoBulkEntries {H : Type} : List (Lit × DataW H) → Nat
  | [] => 0
  | x :: r => uptoBulkEntry x + uptoBulkEntries r
def uptoBulkEntry {H : Type} : Lit × DataW H → Nat
  | (.string bytes, d) => bytes.length + uptoBulk d + 1
  | (_, d) => uptoBulk d + 1
 end
def uptoSmall : (H : Type) → List (DataW H) → Bool := fun _ ds => decide (uptoBulkAll ds ≤ 1048576)
def OpenSpec.upto (s : _root_.Go.ChangeSpec) : _root_.Go.OpenSpec := { _root_.Go.OpenSpec.ofChange s with cond := some uptoSmall }

/-- 'laws.FnExactPunchText', WHERE WHAT IT READS IS OF BULK AT MOST 1048576: true; the input reads as it did. -/
def fnExactPunchTextUptoRow : OpenClaim := { program := "ytmibkaldeickdaddoor", sum := "7fa50d2b0853e3a39d4a4d883f6f351c0e68ed500084ea0b69ba27f6793f2fa9", func := "loop.example/g01012/laws.FnExactPunchText", spec := "fnExactPunchText", inPlace := ["internal/bytealg.IndexByteString", "internal/reflectlite.TypeOf"], unfollowed := true, recurses := true, named := ["loop.example/g01012/impl.errLong", "loop.example/g01012/impl.errForeign"], ifaces := true, apart := false, laid := [("loop.example/g01012/impl.errLong", laid_loop_example_g01012_impl_errLong), ("loop.example/g01012/impl.errForeign", laid_loop_example_g01012_impl_errForeign)], narrowed := true }
def FnExactPunchTextUptoSaid : Prop := fnExactPunchTextUptoRow.holds Tryd.pinned (OpenSpec.upto fnExactPunchTextSpec)

/-- 'laws.FnExactReadText', WHERE WHAT IT READS IS OF BULK AT MOST 1048576: true; the input reads as it did. -/
def fnExactReadTextUptoRow : OpenClaim := { program := "ytmibkaldeickdaddoor", sum := "7fa50d2b0853e3a39d4a4d883f6f351c0e68ed500084ea0b69ba27f6793f2fa9", func := "loop.example/g01012/laws.FnExactReadText", spec := "fnExactReadText", inPlace := ["internal/abi.NoEscape", "internal/reflectlite.TypeOf"], unfollowed := true, recurses := true, named := ["loop.example/g01012/impl.errNoMeaning", "loop.example/g01012/impl.errLong", "loop.example/g01012/impl.errForeign"], ifaces := true, apart := false, laid := [("loop.example/g01012/impl.errLong", laid_loop_example_g01012_impl_errLong), ("loop.example/g01012/impl.errForeign", laid_loop_example_g01012_impl_errForeign), ("loop.example/g01012/impl.errNoMeaning", laid_loop_example_g01012_impl_errNoMeaning)], narrowed := true }
def FnExactReadTextUptoSaid : Prop := fnExactReadTextUptoRow.holds Tryd.pinned (OpenSpec.upto fnExactReadTextSpec)

/-- 'laws.FnExactNumberIn', WHERE WHAT IT READS IS OF BULK AT MOST 1048576: true; the input reads as it did. -/
def fnExactNumberInUptoRow : OpenClaim := { program := "ytmibkaldeickdaddoor", sum := "7fa50d2b0853e3a39d4a4d883f6f351c0e68ed500084ea0b69ba27f6793f2fa9", func := "loop.example/g01012/laws.FnExactNumberIn", spec := "fnExactNumberIn", inPlace := ["internal/reflectlite.TypeOf"], unfollowed := true, recurses := true, named := ["loop.example/g01012/impl.errLong", "loop.example/g01012/impl.errNoMeaning", "loop.example/g01012/impl.errForeign"], ifaces := true, apart := false, laid := [("loop.example/g01012/impl.errLong", laid_loop_example_g01012_impl_errLong), ("loop.example/g01012/impl.errForeign", laid_loop_example_g01012_impl_errForeign), ("loop.example/g01012/impl.errNoMeaning", laid_loop_example_g01012_impl_errNoMeaning)], narrowed := true }
def FnExactNumberInUptoSaid : Prop := fnExactNumberInUptoRow.holds Tryd.pinned (OpenSpec.upto fnExactNumberInSpec)

/-- 'laws.FnExactCompareFields', WHERE WHAT IT READS IS OF BULK AT MOST 1048576: true; the input reads as it did. -/
def fnExactCompareFieldsUptoRow : OpenClaim := { program := "ytmibkaldeickdaddoor", sum := "7fa50d2b0853e3a39d4a4d883f6f351c0e68ed500084ea0b69ba27f6793f2fa9", func := "loop.example/g01012/laws.FnExactCompareFields", spec := "fnExactCompareFields", named := ["loop.example/g01012/impl.places"], apart := false, laid := [("loop.example/g01012/impl.places", laid_loop_example_g01012_impl_places)], narrowed := true }
def FnExactCompareFieldsUptoSaid : Prop := fnExactCompareFieldsUptoRow.holds Tryd.pinned (OpenSpec.upto fnExactCompareFieldsSpec)

/-- 'laws.FnExactRankOf', WHERE WHAT IT READS IS OF BULK AT MOST 1048576: true; the input reads as it did. -/
def fnExactRankOfUptoRow : OpenClaim := { program := "ytmibkaldeickdaddoor", sum := "7fa50d2b0853e3a39d4a4d883f6f351c0e68ed500084ea0b69ba27f6793f2fa9", func := "loop.example/g01012/laws.FnExactRankOf", spec := "fnExactRankOf", named := ["loop.example/g01012/impl.places"], apart := false, laid := [("loop.example/g01012/impl.places", laid_loop_example_g01012_impl_places)], narrowed := true }
def FnExactRankOfUptoSaid : Prop := fnExactRankOfUptoRow.holds Tryd.pinned (OpenSpec.upto fnExactRankOfSpec)

end Rows
end Go.Proofs.YtmibkaldeickdadDoor
