/-
  NARROWER THAN 'FOR EVERY INPUT', by the rows' own cells (each row's printed sentence says how): FnMerged: laid · FnMatched: laid · FnSelected: laid · FnGroups: laid.
  DERIVED. THE GIVEN ROWS OF THIS SEAT. 4 by the template 'for every input the law returns true; each argument reads behind the call as it read before'; 0 by the template 'total and deterministic' (their statements: YtdakbbgbglgioaaDoorTotals.lean).
  GIVEN WITH THE SEED: the statements are not yours to turn. If you find one false, say at which input.
  Laid BY PROGRAM, IN A SANDBOX (cutbox-rows.mjs): the forced cells as the released guide's own fill.sh prints them over the translation 995ed057fe80afdb… (all of the seat's roots in one cut). By AI agents, Wed Nov 11 2026. No macro, syntax, notation, axiom, sorry.
-/
import Derived.Test.YtdakbbgbglgioaaDoorChecked
import GoSem.Claim
import GoSem.ClaimJoined
import GoSem.ClaimMapViews
import Derived.JoinedTies
import Derived.KernelRfl
namespace Go.Proofs.YtdakbbgbglgioaaDoor
/- THE CELL 'sum', in the pinned program and in every row, IS THE sha256 OF THE DUMP (.gsa) THAT YtdakbbgbglgioaaDoorProg.lean LOADS. Nothing in Lean hashes anything: it is a label: what it is worth is what the hold of that sum in a sandbox is worth. -/
noncomputable def Tryd.pinned : Pinned := { name := "ytdakbbgbglgioaadoor", sum := "995ed057fe80afdbfc30132f80ef3f254d1055f72c837201fec6cab20e3cda64", checked := Tryd.checked }
namespace Rows
def none {H : Type} : Left H := { results := [], args := [] }

/- WHAT THE LISTED PACKAGE-LEVEL VARIABLES READ AS WHEN THE CALL BEGINS. Each datum BY PROGRAM (the guide's laid-datum.mjs) off the statement by which the dump's own 'gosem.cut.vars' lays the variable. In a bare row this is a premise. The card (YtdakbbgbglgioaaDoorCards.lean) ties it to the program's text. -/
def laid_loop_example_g01012_impl_places {H : Type} : DataW H := .agg [.lit (.int .i8 0), .lit (.int .i8 0), .lit (.int .i8 0), .lit (.int .i8 0), .lit (.int .i8 0), .lit (.int .i8 0), .lit (.int .i8 0), .lit (.int .i8 0), .lit (.int .i8 0), .lit (.int .i8 0), .lit (.int .i8 0), .lit (.int .i8 0), .lit (.int .i8 0), .lit (.int .i8 0), .lit (.int .i8 0), .lit (.int .i8 0), .lit (.int .i8 0), .lit (.int .i8 0), .lit (.int .i8 0), .lit (.int .i8 0), .lit (.int .i8 0), .lit (.int .i8 0), .lit (.int .i8 0), .lit (.int .i8 0), .lit (.int .i8 0), .lit (.int .i8 0), .lit (.int .i8 0), .lit (.int .i8 0), .lit (.int .i8 0), .lit (.int .i8 0), .lit (.int .i8 0), .lit (.int .i8 0), .lit (.int .i8 1), .lit (.int .i8 0), .lit (.int .i8 0), .lit (.int .i8 0), .lit (.int .i8 0), .lit (.int .i8 0), .lit (.int .i8 2), .lit (.int .i8 0), .lit (.int .i8 0), .lit (.int .i8 0), .lit (.int .i8 0), .lit (.int .i8 0), .lit (.int .i8 0), .lit (.int .i8 12), .lit (.int .i8 0), .lit (.int .i8 22), .lit (.int .i8 31), .lit (.int .i8 32), .lit (.int .i8 33), .lit (.int .i8 34), .lit (.int .i8 35), .lit (.int .i8 36), .lit (.int .i8 37), .lit (.int .i8 38), .lit (.int .i8 39), .lit (.int .i8 40), .lit (.int .i8 0), .lit (.int .i8 0), .lit (.int .i8 0), .lit (.int .i8 0), .lit (.int .i8 0), .lit (.int .i8 0), .lit (.int .i8 0), .lit (.int .i8 3), .lit (.int .i8 4), .lit (.int .i8 5), .lit (.int .i8 6), .lit (.int .i8 7), .lit (.int .i8 8), .lit (.int .i8 9), .lit (.int .i8 10), .lit (.int .i8 11), .lit (.int .i8 13), .lit (.int .i8 14), .lit (.int .i8 15), .lit (.int .i8 16), .lit (.int .i8 17), .lit (.int .i8 18), .lit (.int .i8 19), .lit (.int .i8 20), .lit (.int .i8 21), .lit (.int .i8 23), .lit (.int .i8 24), .lit (.int .i8 25), .lit (.int .i8 26), .lit (.int .i8 27), .lit (.int .i8 28), .lit (.int .i8 29), .lit (.int .i8 30)]

/-- 'laws.FnMerged': WHATEVER THE INPUT: true; the input reads as it did. -/
def fnMergedSpec : ChangeSpec := { name := "fnMerged", vars := ["loop.example/g01012/impl.places"], fn := fun _ => fun
  | [d, g1] => { results := [.lit (.bool true)], args := [d], vars := [g1] }
  | _ => none }
def fnMergedRow : OpenClaim := { program := "ytdakbbgbglgioaadoor", sum := "995ed057fe80afdbfc30132f80ef3f254d1055f72c837201fec6cab20e3cda64", func := "loop.example/g01012/laws.FnMerged", spec := "fnMerged", unfollowed := true, recurses := true, named := ["loop.example/g01012/impl.places"], apart := false, laid := [("loop.example/g01012/impl.places", laid_loop_example_g01012_impl_places)] }
def FnMergedSaid : Prop := fnMergedRow.holds Tryd.pinned (OpenSpec.ofChange fnMergedSpec)

/-- ITS FALSE NEIGHBOUR: 'it returns false'. Refute it at one input. -/
def fnMergedWrong : ChangeSpec := { name := "fnMerged", vars := ["loop.example/g01012/impl.places"], fn := fun _ => fun
  | [d, g1] => { results := [.lit (.bool false)], args := [d], vars := [g1] }
  | _ => none }
def FnMergedWrongFalsely : Prop := fnMergedRow.holds Tryd.pinned (OpenSpec.ofChange fnMergedWrong)

/-- 'laws.FnMatched': WHATEVER THE INPUT: true; the input reads as it did. -/
def fnMatchedSpec : ChangeSpec := { name := "fnMatched", vars := ["loop.example/g01012/impl.places"], fn := fun _ => fun
  | [d, g1] => { results := [.lit (.bool true)], args := [d], vars := [g1] }
  | _ => none }
def fnMatchedRow : OpenClaim := { program := "ytdakbbgbglgioaadoor", sum := "995ed057fe80afdbfc30132f80ef3f254d1055f72c837201fec6cab20e3cda64", func := "loop.example/g01012/laws.FnMatched", spec := "fnMatched", unfollowed := true, recurses := true, named := ["loop.example/g01012/impl.places"], apart := false, laid := [("loop.example/g01012/impl.places", laid_loop_example_g01012_impl_places)] }
def FnMatchedSaid : Prop := fnMatchedRow.holds Tryd.pinned (OpenSpec.ofChange fnMatchedSpec)

/-- ITS FALSE NEIGHBOUR: 'it returns false'. Refute it at one input. -/
def fnMatchedWrong : ChangeSpec := { name := "fnMatched", vars := ["loop.example/g01012/impl.places"], fn := fun _ => fun
  | [d, g1] => { results := [.lit (.bool false)], args := [d], vars := [g1] }
  | _ => none }
def FnMatchedWrongFalsely : Prop := fnMatchedRow.holds Tryd.pinned (OpenSpec.ofChange fnMatchedWrong)

/-- 'laws.FnSelected': WHATEVER THE INPUT: true; the input reads as it did. -/
def fnSelectedSpec : ChangeSpec := { name := "fnSelected", vars := ["loop.example/g01012/impl.places"], fn := fun _ => fun
  | [d1, d2, g1] => { results := [.lit (.bool true)], args := [d1, d2], vars := [g1] }
  | _ => none }
def fnSelectedRow : OpenClaim := { program := "ytdakbbgbglgioaadoor", sum := "995ed057fe80afdbfc30132f80ef3f254d1055f72c837201fec6cab20e3cda64", func := "loop.example/g01012/laws.FnSelected", spec := "fnSelected", unfollowed := true, recurses := true, named := ["loop.example/g01012/impl.places"], apart := false, laid := [("loop.example/g01012/impl.places", laid_loop_example_g01012_impl_places)] }
def FnSelectedSaid : Prop := fnSelectedRow.holds Tryd.pinned (OpenSpec.ofChange fnSelectedSpec)

/-- ITS FALSE NEIGHBOUR: 'it returns false'. Refute it at one input. -/
def fnSelectedWrong : ChangeSpec := { name := "fnSelected", vars := ["loop.example/g01012/impl.places"], fn := fun _ => fun
  | [d1, d2, g1] => { results := [.lit (.bool false)], args := [d1, d2], vars := [g1] }
  | _ => none }
def FnSelectedWrongFalsely : Prop := fnSelectedRow.holds Tryd.pinned (OpenSpec.ofChange fnSelectedWrong)

/-- 'laws.FnGroups': WHATEVER THE INPUT: true; the input reads as it did. -/
def fnGroupsSpec : ChangeSpec := { name := "fnGroups", vars := ["loop.example/g01012/impl.places"], fn := fun _ => fun
  | [d1, d2, g1] => { results := [.lit (.bool true)], args := [d1, d2], vars := [g1] }
  | _ => none }
def fnGroupsRow : OpenClaim := { program := "ytdakbbgbglgioaadoor", sum := "995ed057fe80afdbfc30132f80ef3f254d1055f72c837201fec6cab20e3cda64", func := "loop.example/g01012/laws.FnGroups", spec := "fnGroups", unfollowed := true, recurses := true, named := ["loop.example/g01012/impl.places"], apart := false, laid := [("loop.example/g01012/impl.places", laid_loop_example_g01012_impl_places)] }
def FnGroupsSaid : Prop := fnGroupsRow.holds Tryd.pinned (OpenSpec.ofChange fnGroupsSpec)

/-- ITS FALSE NEIGHBOUR: 'it returns false'. Refute it at one input. -/
def fnGroupsWrong : ChangeSpec := { name := "fnGroups", vars := ["loop.example/g01012/impl.places"], fn := fun _ => fun
  | [d1, d2, g1] => { results := [.lit (.bool false)], args := [d1, d2], vars := [g1] }
  | _ => none }
def FnGroupsWrongFalsely : Prop := fnGroupsRow.holds Tryd.pinned (OpenSpec.ofChange fnGroupsWrong)

/- THE SECOND FORM. 'bulk': how many values and letters a reading holds, each counted each time it is reached (what is shared counts as often as it is met; a slice's spare places count too). A statement '..UptoSaid' is the law's where the arguments, and the package variables that the reading takes, are together of bulk at most 1048576: NARROWER than '..Said'. Prove '..Said' where nothing that the law and all that it calls make is longer than what came in: it says more and counts as full. Else prove '..UptoSaid'. A law counts once. -/
mutual
def uptoBulk {H : Type} : DataW H → Nat
  | .lit (.string bytes) => bytes.length + 1
  | .lit _ => 1
  | .nil => 1
  | .ptr d => uptoBulk d + 1
  | .slice elems spare => uptoBulkAll elems + uptoBulkAll spare + 1
  | .agg parts => uptoBulkAll parts + 1
  | .iface _ d => uptoBulk d + 1
  | .map entries => uptoBulkEntries entries + 1
  | .held _ => 1
def uptoBulkAll {H : Type} : List (DataW H) → Nat
  | [] => 0
  | d :: r => uptoBulk d + uptoBulkAll r
def uptoBulkEntries {H : Type} : List (Lit × DataW H) → Nat
  | [] => 0
  | x :: r => uptoBulkEntry x + uptoBulkEntries r
def uptoBulkEntry {H : Type} : Lit × DataW H → Nat
  | (.string bytes, d) => bytes.length + uptoBulk d + 1
  | (_, d) => uptoBulk d + 1
 end
def uptoSmall : (H : Type) → List (DataW H) → Bool := fun _ ds => decide (uptoBulkAll ds ≤ 1048576)
def OpenSpec.upto (s : _root_.Go.ChangeSpec) : _root_.Go.OpenSpec := { _root_.Go.OpenSpec.ofChange s with cond := some uptoSmall }

/-- 'laws.FnMerged', WHERE WHAT IT READS IS OF BULK AT MOST 1048576: true; the input reads as it did. -/
def fnMergedUptoRow : OpenClaim := { program := "ytdakbbgbglgioaadoor", sum := "995ed057fe80afdbfc30132f80ef3f254d1055f72c837201fec6cab20e3cda64", func := "loop.example/g01012/laws.FnMerged", spec := "fnMerged", unfollowed := true, recurses := true, named := ["loop.example/g01012/impl.places"], apart := false, laid := [("loop.example/g01012/impl.places", laid_loop_example_g01012_impl_places)], narrowed := true }
def FnMergedUptoSaid : Prop := fnMergedUptoRow.holds Tryd.pinned (OpenSpec.upto fnMergedSpec)

/-- 'laws.FnMatched', WHERE WHAT IT READS IS OF BULK AT MOST 1048576: true; the input reads as it did. -/
def fnMatchedUptoRow : OpenClaim := { program := "ytdakbbgbglgioaadoor", sum := "995ed057fe80afdbfc30132f80ef3f254d1055f72c837201fec6cab20e3cda64", func := "loop.example/g01012/laws.FnMatched", spec := "fnMatched", unfollowed := true, recurses := true, named := ["loop.example/g01012/impl.places"], apart := false, laid := [("loop.example/g01012/impl.places", laid_loop_example_g01012_impl_places)], narrowed := true }
def FnMatchedUptoSaid : Prop := fnMatchedUptoRow.holds Tryd.pinned (OpenSpec.upto fnMatchedSpec)

/-- 'laws.FnSelected', WHERE WHAT IT READS IS OF BULK AT MOST 1048576: true; the input reads as it did. -/
def fnSelectedUptoRow : OpenClaim := { program := "ytdakbbgbglgioaadoor", sum := "995ed057fe80afdbfc30132f80ef3f254d1055f72c837201fec6cab20e3cda64", func := "loop.example/g01012/laws.FnSelected", spec := "fnSelected", unfollowed := true, recurses := true, named := ["loop.example/g01012/impl.places"], apart := false, laid := [("loop.example/g01012/impl.places", laid_loop_example_g01012_impl_places)], narrowed := true }
def FnSelectedUptoSaid : Prop := fnSelectedUptoRow.holds Tryd.pinned (OpenSpec.upto fnSelectedSpec)

/-- 'laws.FnGroups', WHERE WHAT IT READS IS OF BULK AT MOST 1048576: true; the input reads as it did. -/
def fnGroupsUptoRow : OpenClaim := { program := "ytdakbbgbglgioaadoor", sum := "995ed057fe80afdbfc30132f80ef3f254d1055f72c837201fec6cab20e3cda64", func := "loop.example/g01012/laws.FnGroups", spec := "fnGroups", unfollowed := true, recurses := true, named := ["loop.example/g01012/impl.places"], apart := false, laid := [("loop.example/g01012/impl.places", laid_loop_example_g01012_impl_places)], narrowed := true }
def FnGroupsUptoSaid : Prop := fnGroupsUptoRow.holds Tryd.pinned (OpenSpec.upto fnGroupsSpec)

end Rows
end Go.Proofs.YtdakbbgbglgioaaDoor
