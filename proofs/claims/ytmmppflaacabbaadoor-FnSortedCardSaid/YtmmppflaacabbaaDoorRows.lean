/-
  NARROWER THAN 'FOR EVERY INPUT', by the rows' own cells (each row's printed sentence says how): FnSorted: laid · FnExactPunchAll: ifaces, laid · FnFewest: laid.
  DERIVED. THE GIVEN ROWS OF THIS SEAT. 3 by the template 'for every input the law returns true; each argument reads behind the call as it read before'; 0 by the template 'total and deterministic' (their statements: YtmmppflaacabbaaDoorTotals.lean).
  GIVEN WITH THE SEED: the statements are not yours to turn. If you find one false, say at which input.
  Laid BY PROGRAM, IN A SANDBOX (cutbox-rows.mjs): the forced cells as the released guide's own fill.sh prints them over the translation 64a17e3d67e08200… (all of the seat's roots in one cut). By AI agents, Wed Nov 11 2026. No macro, syntax, notation, axiom, sorry.
-/
import Derived.Test.YtmmppflaacabbaaDoorChecked
import GoSem.PinnedTables
import GoSem.Claim
import GoSem.ClaimJoined
import GoSem.ClaimMapViews
import Derived.JoinedTies
import Derived.KernelRfl
namespace Go.Proofs.YtmmppflaacabbaaDoor
/- THE CELL 'sum', in the pinned program and in every row, IS THE sha256 OF THE DUMP (.gsa) THAT YtmmppflaacabbaaDoorProg.lean LOADS. Nothing in Lean hashes anything: it is a label: what it is worth is what the hold of that sum in a sandbox is worth. -/
noncomputable def Tryd.pinned : Pinned := { name := "ytmmppflaacabbaadoor", sum := "64a17e3d67e082004d265bf27823a6d32a5daf8590206caa3c995aa14c0612b7", checked := Tryd.checked }
namespace Rows
def none {H : Type} : Left H := { results := [], args := [] }

/- WHAT THE LISTED PACKAGE-LEVEL VARIABLES READ AS WHEN THE CALL BEGINS. Each datum BY PROGRAM (the guide's laid-datum.mjs) off the statement by which the dump's own 'gosem.cut.vars' lays the variable. In a bare row this is a premise. The card (YtmmppflaacabbaaDoorCards.lean) ties it to the program's text. -/
def laid_loop_example_g01012_impl_places {H : Type} : DataW H := .agg [.lit (.int .i8 0), .lit (.int .i8 0), .lit (.int .i8 0), .lit (.int .i8 0), .lit (.int .i8 0), .lit (.int .i8 0), .lit (.int .i8 0), .lit (.int .i8 0), .lit (.int .i8 0), .lit (.int .i8 0), .lit (.int .i8 0), .lit (.int .i8 0), .lit (.int .i8 0), .lit (.int .i8 0), .lit (.int .i8 0), .lit (.int .i8 0), .lit (.int .i8 0), .lit (.int .i8 0), .lit (.int .i8 0), .lit (.int .i8 0), .lit (.int .i8 0), .lit (.int .i8 0), .lit (.int .i8 0), .lit (.int .i8 0), .lit (.int .i8 0), .lit (.int .i8 0), .lit (.int .i8 0), .lit (.int .i8 0), .lit (.int .i8 0), .lit (.int .i8 0), .lit (.int .i8 0), .lit (.int .i8 0), .lit (.int .i8 1), .lit (.int .i8 0), .lit (.int .i8 0), .lit (.int .i8 0), .lit (.int .i8 0), .lit (.int .i8 0), .lit (.int .i8 2), .lit (.int .i8 0), .lit (.int .i8 0), .lit (.int .i8 0), .lit (.int .i8 0), .lit (.int .i8 0), .lit (.int .i8 0), .lit (.int .i8 12), .lit (.int .i8 0), .lit (.int .i8 22), .lit (.int .i8 31), .lit (.int .i8 32), .lit (.int .i8 33), .lit (.int .i8 34), .lit (.int .i8 35), .lit (.int .i8 36), .lit (.int .i8 37), .lit (.int .i8 38), .lit (.int .i8 39), .lit (.int .i8 40), .lit (.int .i8 0), .lit (.int .i8 0), .lit (.int .i8 0), .lit (.int .i8 0), .lit (.int .i8 0), .lit (.int .i8 0), .lit (.int .i8 0), .lit (.int .i8 3), .lit (.int .i8 4), .lit (.int .i8 5), .lit (.int .i8 6), .lit (.int .i8 7), .lit (.int .i8 8), .lit (.int .i8 9), .lit (.int .i8 10), .lit (.int .i8 11), .lit (.int .i8 13), .lit (.int .i8 14), .lit (.int .i8 15), .lit (.int .i8 16), .lit (.int .i8 17), .lit (.int .i8 18), .lit (.int .i8 19), .lit (.int .i8 20), .lit (.int .i8 21), .lit (.int .i8 23), .lit (.int .i8 24), .lit (.int .i8 25), .lit (.int .i8 26), .lit (.int .i8 27), .lit (.int .i8 28), .lit (.int .i8 29), .lit (.int .i8 30)]
def laid_unicode_utf8_acceptRanges {H : Type} : DataW H := .agg [.agg [.lit (.int .u8 128), .lit (.int .u8 191)], .agg [.lit (.int .u8 160), .lit (.int .u8 191)], .agg [.lit (.int .u8 128), .lit (.int .u8 159)], .agg [.lit (.int .u8 144), .lit (.int .u8 191)], .agg [.lit (.int .u8 128), .lit (.int .u8 143)], .agg [.lit (.int .u8 0), .lit (.int .u8 0)], .agg [.lit (.int .u8 0), .lit (.int .u8 0)], .agg [.lit (.int .u8 0), .lit (.int .u8 0)], .agg [.lit (.int .u8 0), .lit (.int .u8 0)], .agg [.lit (.int .u8 0), .lit (.int .u8 0)], .agg [.lit (.int .u8 0), .lit (.int .u8 0)], .agg [.lit (.int .u8 0), .lit (.int .u8 0)], .agg [.lit (.int .u8 0), .lit (.int .u8 0)], .agg [.lit (.int .u8 0), .lit (.int .u8 0)], .agg [.lit (.int .u8 0), .lit (.int .u8 0)], .agg [.lit (.int .u8 0), .lit (.int .u8 0)]]
def laid_loop_example_g01012_impl_errLong {H : Type} : DataW H := .iface "*errors.errorString" (.ptr (.agg [.lit (.string [109, 111, 114, 101, 32, 116, 104, 97, 110, 32, 116, 104, 101, 32, 99, 111, 108, 117, 109, 110, 115, 32, 99, 97, 110, 32, 104, 97, 118, 101])]))
def laid_loop_example_g01012_impl_errForeign {H : Type} : DataW H := .iface "*errors.errorString" (.ptr (.agg [.lit (.string [97, 32, 116, 101, 120, 116, 32, 102, 111, 114, 32, 119, 104, 105, 99, 104, 32, 116, 104, 101, 114, 101, 32, 97, 114, 101, 32, 110, 111, 32, 104, 111, 108, 101, 115])]))
def laid_loop_example_g01012_impl_errCount {H : Type} : DataW H := .iface "*errors.errorString" (.ptr (.agg [.lit (.string [110, 111, 116, 32, 97, 115, 32, 109, 97, 110, 121, 32, 107, 101, 121, 115, 32, 97, 115, 32, 116, 104, 101, 32, 99, 111, 108, 117, 109, 110, 115, 32, 119, 97, 110, 116])]))
def laid_loop_example_g01012_impl_errStuck {H : Type} : DataW H := .iface "*errors.errorString" (.ptr (.agg [.lit (.string [97, 32, 107, 101, 121, 32, 116, 104, 97, 116, 32, 116, 104, 101, 32, 99, 111, 108, 117, 109, 110, 32, 100, 111, 101, 115, 32, 110, 111, 116, 32, 116, 97, 107, 101])]))
/-- One of Go's own tables, pinned by name: the form's constant. -/
def laid_unicode_utf8_first : DataW Unit := Go.Pinned.utf8First

/-- 'laws.FnSorted': WHATEVER THE INPUT: true; the input reads as it did. -/
def fnSortedSpec : ChangeSpec := { name := "fnSorted", vars := ["loop.example/g01012/impl.places"], fn := fun _ => fun
  | [d1, d2, g1] => { results := [.lit (.bool true)], args := [d1, d2], vars := [g1] }
  | _ => none }
def fnSortedRow : OpenClaim := { program := "ytmmppflaacabbaadoor", sum := "64a17e3d67e082004d265bf27823a6d32a5daf8590206caa3c995aa14c0612b7", func := "loop.example/g01012/laws.FnSorted", spec := "fnSorted", unfollowed := true, recurses := true, named := ["loop.example/g01012/impl.places"], apart := false, laid := [("loop.example/g01012/impl.places", laid_loop_example_g01012_impl_places)] }
def FnSortedSaid : Prop := fnSortedRow.holds Tryd.pinned (OpenSpec.ofChange fnSortedSpec)

/-- ITS FALSE NEIGHBOUR: 'it returns false'. Refute it at one input. -/
def fnSortedWrong : ChangeSpec := { name := "fnSorted", vars := ["loop.example/g01012/impl.places"], fn := fun _ => fun
  | [d1, d2, g1] => { results := [.lit (.bool false)], args := [d1, d2], vars := [g1] }
  | _ => none }
def FnSortedWrongFalsely : Prop := fnSortedRow.holds Tryd.pinned (OpenSpec.ofChange fnSortedWrong)

/-- 'laws.FnExactPunchAll': WHATEVER THE INPUT: true; the input reads as it did. -/
def fnExactPunchAllSpec : ChangeSpec := { name := "fnExactPunchAll", vars := ["loop.example/g01012/impl.errCount", "loop.example/g01012/impl.errForeign", "loop.example/g01012/impl.errStuck", "loop.example/g01012/impl.errLong"], fn := fun _ => fun
  | [d1, d2, d3, g1, g2, g3, g4] => { results := [.lit (.bool true)], args := [d1, d2, d3], vars := [g1, g2, g3, g4] }
  | _ => none }
def fnExactPunchAllRow : OpenClaim := { program := "ytmmppflaacabbaadoor", sum := "64a17e3d67e082004d265bf27823a6d32a5daf8590206caa3c995aa14c0612b7", func := "loop.example/g01012/laws.FnExactPunchAll", spec := "fnExactPunchAll", inPlace := ["internal/abi.NoEscape", "internal/bytealg.MakeNoZero", "internal/bytealg.IndexByteString", "internal/reflectlite.TypeOf"], unfollowed := true, recurses := true, named := ["loop.example/g01012/impl.errCount", "unicode/utf8.first", "unicode/utf8.acceptRanges", "loop.example/g01012/impl.errForeign", "loop.example/g01012/impl.errStuck", "loop.example/g01012/impl.errLong"], ifaces := true, apart := false, laid := [("unicode/utf8.acceptRanges", laid_unicode_utf8_acceptRanges), ("loop.example/g01012/impl.errLong", laid_loop_example_g01012_impl_errLong), ("loop.example/g01012/impl.errForeign", laid_loop_example_g01012_impl_errForeign), ("loop.example/g01012/impl.errCount", laid_loop_example_g01012_impl_errCount), ("loop.example/g01012/impl.errStuck", laid_loop_example_g01012_impl_errStuck), ("unicode/utf8.first", laid_unicode_utf8_first)] }
def FnExactPunchAllSaid : Prop := fnExactPunchAllRow.holds Tryd.pinned (OpenSpec.ofChange fnExactPunchAllSpec)

/-- ITS FALSE NEIGHBOUR: 'it returns false'. Refute it at one input. -/
def fnExactPunchAllWrong : ChangeSpec := { name := "fnExactPunchAll", vars := ["loop.example/g01012/impl.errCount", "loop.example/g01012/impl.errForeign", "loop.example/g01012/impl.errStuck", "loop.example/g01012/impl.errLong"], fn := fun _ => fun
  | [d1, d2, d3, g1, g2, g3, g4] => { results := [.lit (.bool false)], args := [d1, d2, d3], vars := [g1, g2, g3, g4] }
  | _ => none }
def FnExactPunchAllWrongFalsely : Prop := fnExactPunchAllRow.holds Tryd.pinned (OpenSpec.ofChange fnExactPunchAllWrong)

/-- 'laws.FnFewest': WHATEVER THE INPUT: true; the input reads as it did. -/
def fnFewestSpec : ChangeSpec := { name := "fnFewest", vars := ["loop.example/g01012/impl.places"], fn := fun _ => fun
  | [d1, d2, g1] => { results := [.lit (.bool true)], args := [d1, d2], vars := [g1] }
  | _ => none }
def fnFewestRow : OpenClaim := { program := "ytmmppflaacabbaadoor", sum := "64a17e3d67e082004d265bf27823a6d32a5daf8590206caa3c995aa14c0612b7", func := "loop.example/g01012/laws.FnFewest", spec := "fnFewest", unfollowed := true, recurses := true, named := ["loop.example/g01012/impl.places"], apart := false, laid := [("loop.example/g01012/impl.places", laid_loop_example_g01012_impl_places)] }
def FnFewestSaid : Prop := fnFewestRow.holds Tryd.pinned (OpenSpec.ofChange fnFewestSpec)

/-- ITS FALSE NEIGHBOUR: 'it returns false'. Refute it at one input. -/
def fnFewestWrong : ChangeSpec := { name := "fnFewest", vars := ["loop.example/g01012/impl.places"], fn := fun _ => fun
  | [d1, d2, g1] => { results := [.lit (.bool false)], args := [d1, d2], vars := [g1] }
  | _ => none }
def FnFewestWrongFalsely : Prop := fnFewestRow.holds Tryd.pinned (OpenSpec.ofChange fnFewestWrong)

/- THE SECOND FORM. 'bulk': how many values and letters a reading holds, each counted each time it is reached (what is shared counts as often as it is met; a slice's spare places count too). A statement '..UptoSaid' is the law's where the arguments, and the package variables that the reading takes, are together of bulk at most 1048576: NARROWER than '..Said'. Prove '..Said' where nothing that the law and all that it calls make is longer than what came in: it says more and counts as full. Else prove '..UptoSaid'. A law counts once. -/
mutual
def uptoBulk {H : Type} : DataW H → Nat
  | .lit (.string bytes) => bytes.length + 1
  | .lit _ => 1
  | .nil => 1
  | .ptr d => uptoBulk d + 1
  | .slice elems spare => uptoBulkAll elems + uptoBulkAll spare + 1
  | .agg parts => uptoBulkAll parts + 1
  | .iface _ d => uptoBulk d + 1
  | .map entries => uptoBulkEntries entries + 1
  | .held _ => 1
def uptoBulkAll {H : Type} : List (DataW H) → Nat
  | [] => 0
  | d :: r => uptoBulk d + uptoBulkAll r
def uptoBulkEntries {H : Type} : List (Lit × DataW H) → Nat
  | [] => 0
  | x :: r => uptoBulkEntry x + uptoBulkEntries r
def uptoBulkEntry {H : Type} : Lit × DataW H → Nat
  | (.string bytes, d) => bytes.length + uptoBulk d + 1
  | (_, d) => uptoBulk d + 1
 end
def uptoSmall : (H : Type) → List (DataW H) → Bool := fun _ ds => decide (uptoBulkAll ds ≤ 1048576)
def OpenSpec.upto (s : _root_.Go.ChangeSpec) : _root_.Go.OpenSpec := { _root_.Go.OpenSpec.ofChange s with cond := some uptoSmall }

/-- 'laws.FnSorted', WHERE WHAT IT READS IS OF BULK AT MOST 1048576: true; the input reads as it did. -/
def fnSortedUptoRow : OpenClaim := { program := "ytmmppflaacabbaadoor", sum := "64a17e3d67e082004d265bf27823a6d32a5daf8590206caa3c995aa14c0612b7", func := "loop.example/g01012/laws.FnSorted", spec := "fnSorted", unfollowed := true, recurses := true, named := ["loop.example/g01012/impl.places"], apart := false, laid := [("loop.example/g01012/impl.places", laid_loop_example_g01012_impl_places)], narrowed := true }
def FnSortedUptoSaid : Prop := fnSortedUptoRow.holds Tryd.pinned (OpenSpec.upto fnSortedSpec)

/-- 'laws.FnExactPunchAll', WHERE WHAT IT READS IS OF BULK AT MOST 1048576: true; the input reads as it did. -/
def fnExactPunchAllUptoRow : OpenClaim := { program := "ytmmppflaacabbaadoor", sum := "64a17e3d67e082004d265bf27823a6d32a5daf8590206caa3c995aa14c0612b7", func := "loop.example/g01012/laws.FnExactPunchAll", spec := "fnExactPunchAll", inPlace := ["internal/abi.NoEscape", "internal/bytealg.MakeNoZero", "internal/bytealg.IndexByteString", "internal/reflectlite.TypeOf"], unfollowed := true, recurses := true, named := ["loop.example/g01012/impl.errCount", "unicode/utf8.first", "unicode/utf8.acceptRanges", "loop.example/g01012/impl.errForeign", "loop.example/g01012/impl.errStuck", "loop.example/g01012/impl.errLong"], ifaces := true, apart := false, laid := [("unicode/utf8.acceptRanges", laid_unicode_utf8_acceptRanges), ("loop.example/g01012/impl.errLong", laid_loop_example_g01012_impl_errLong), ("loop.example/g01012/impl.errForeign", laid_loop_example_g01012_impl_errForeign), ("loop.example/g01012/impl.errCount", laid_loop_example_g01012_impl_errCount), ("loop.example/g01012/impl.errStuck", laid_loop_example_g01012_impl_errStuck), ("unicode/utf8.first", laid_unicode_utf8_first)], narrowed := true }
def FnExactPunchAllUptoSaid : Prop := fnExactPunchAllUptoRow.holds Tryd.pinned (OpenSpec.upto fnExactPunchAllSpec)

/-- 'laws.FnFewest', WHERE WHAT IT READS IS OF BULK AT MOST 1048576: true; the input reads as it did. -/
def fnFewestUptoRow : OpenClaim := { program := "ytmmppflaacabbaadoor", sum := "64a17e3d67e082004d265bf27823a6d32a5daf8590206caa3c995aa14c0612b7", func := "loop.example/g01012/laws.FnFewest", spec := "fnFewest", unfollowed := true, recurses := true, named := ["loop.example/g01012/impl.places"], apart := false, laid := [("loop.example/g01012/impl.places", laid_loop_example_g01012_impl_places)], narrowed := true }
def FnFewestUptoSaid : Prop := fnFewestUptoRow.holds Tryd.pinned (OpenSpec.upto fnFewestSpec)

end Rows
end Go.Proofs.YtmmppflaacabbaaDoor
