/-
  NARROWER THAN 'FOR EVERY INPUT', by the rows' own cells (each row's printed sentence says how): FnExactShortPlan: laid · FnExactIsPlanFor: laid · FnExactFewestPasses: laid · FnExactOrderBy: laid · FnExactSortedBy: laid.
  DERIVED. THE GIVEN ROWS OF THIS SEAT. 5 by the template 'for every input the law returns true; each argument reads behind the call as it read before'; 0 by the template 'total and deterministic' (their statements: YtfffdlmpiglojaaDoorTotals.lean).
  GIVEN WITH THE SEED: the statements are not yours to turn. If you find one false, say at which input.
  Laid BY PROGRAM, IN A SANDBOX (cutbox-rows.mjs): the forced cells as the released guide's own fill.sh prints them over the translation cf3effd9cee603da… (all of the seat's roots in one cut). By AI agents, Wed Nov 11 2026. No macro, syntax, notation, axiom, sorry.
-/
import Derived.Test.YtfffdlmpiglojaaDoorChecked
import GoSem.Claim
import GoSem.ClaimJoined
import GoSem.ClaimMapViews
import Derived.JoinedTies
import Derived.KernelRfl
namespace Go.Proofs.YtfffdlmpiglojaaDoor
/- THE CELL 'sum', in the pinned program and in every row, IS THE sha256 OF THE DUMP (.gsa) THAT YtfffdlmpiglojaaDoorProg.lean LOADS. Nothing in Lean hashes anything: it is a label: what it is worth is what the hold of that sum in a sandbox is worth. -/
noncomputable def Tryd.pinned : Pinned := { name := "ytfffdlmpiglojaadoor", sum := "cf3effd9cee603da1a54da28aa67bb01444bede2a19003f4b10a4658789d72e7", checked := Tryd.checked }
namespace Rows
def none {H : Type} : Left H := { results := [], args := [] }

/- WHAT THE LISTED PACKAGE-LEVEL VARIABLES READ AS WHEN THE CALL BEGINS. Each datum BY PROGRAM (the guide's laid-datum.mjs) off the statement by which the dump's own 'gosem.cut.vars' lays the variable. In a bare row this is a premise. The card (YtfffdlmpiglojaaDoorCards.lean) ties it to the program's text. -/
def laid_loop_example_g01012_impl_places {H : Type} : DataW H := .agg [.lit (.int .i8 0), .lit (.int .i8 0), .lit (.int .i8 0), .lit (.int .i8 0), .lit (.int .i8 0), .lit (.int .i8 0), .lit (.int .i8 0), .lit (.int .i8 0), .lit (.int .i8 0), .lit (.int .i8 0), .lit (.int .i8 0), .lit (.int .i8 0), .lit (.int .i8 0), .lit (.int .i8 0), .lit (.int .i8 0), .lit (.int .i8 0), .lit (.int .i8 0), .lit (.int .i8 0), .lit (.int .i8 0), .lit (.int .i8 0), .lit (.int .i8 0), .lit (.int .i8 0), .lit (.int .i8 0), .lit (.int .i8 0), .lit (.int .i8 0), .lit (.int .i8 0), .lit (.int .i8 0), .lit (.int .i8 0), .lit (.int .i8 0), .lit (.int .i8 0), .lit (.int .i8 0), .lit (.int .i8 0), .lit (.int .i8 1), .lit (.int .i8 0), .lit (.int .i8 0), .lit (.int .i8 0), .lit (.int .i8 0), .lit (.int .i8 0), .lit (.int .i8 2), .lit (.int .i8 0), .lit (.int .i8 0), .lit (.int .i8 0), .lit (.int .i8 0), .lit (.int .i8 0), .lit (.int .i8 0), .lit (.int .i8 12), .lit (.int .i8 0), .lit (.int .i8 22), .lit (.int .i8 31), .lit (.int .i8 32), .lit (.int .i8 33), .lit (.int .i8 34), .lit (.int .i8 35), .lit (.int .i8 36), .lit (.int .i8 37), .lit (.int .i8 38), .lit (.int .i8 39), .lit (.int .i8 40), .lit (.int .i8 0), .lit (.int .i8 0), .lit (.int .i8 0), .lit (.int .i8 0), .lit (.int .i8 0), .lit (.int .i8 0), .lit (.int .i8 0), .lit (.int .i8 3), .lit (.int .i8 4), .lit (.int .i8 5), .lit (.int .i8 6), .lit (.int .i8 7), .lit (.int .i8 8), .lit (.int .i8 9), .lit (.int .i8 10), .lit (.int .i8 11), .lit (.int .i8 13), .lit (.int .i8 14), .lit (.int .i8 15), .lit (.int .i8 16), .lit (.int .i8 17), .lit (.int .i8 18), .lit (.int .i8 19), .lit (.int .i8 20), .lit (.int .i8 21), .lit (.int .i8 23), .lit (.int .i8 24), .lit (.int .i8 25), .lit (.int .i8 26), .lit (.int .i8 27), .lit (.int .i8 28), .lit (.int .i8 29), .lit (.int .i8 30)]

/-- 'laws.FnExactShortPlan': WHATEVER THE INPUT: true; the input reads as it did. -/
def fnExactShortPlanSpec : ChangeSpec := { name := "fnExactShortPlan", vars := ["loop.example/g01012/impl.places"], fn := fun _ => fun
  | [d1, d2, g1] => { results := [.lit (.bool true)], args := [d1, d2], vars := [g1] }
  | _ => none }
def fnExactShortPlanRow : OpenClaim := { program := "ytfffdlmpiglojaadoor", sum := "cf3effd9cee603da1a54da28aa67bb01444bede2a19003f4b10a4658789d72e7", func := "loop.example/g01012/laws.FnExactShortPlan", spec := "fnExactShortPlan", unfollowed := true, recurses := true, named := ["loop.example/g01012/impl.places"], apart := false, laid := [("loop.example/g01012/impl.places", laid_loop_example_g01012_impl_places)] }
def FnExactShortPlanSaid : Prop := fnExactShortPlanRow.holds Tryd.pinned (OpenSpec.ofChange fnExactShortPlanSpec)

/-- ITS FALSE NEIGHBOUR: 'it returns false'. Refute it at one input. -/
def fnExactShortPlanWrong : ChangeSpec := { name := "fnExactShortPlan", vars := ["loop.example/g01012/impl.places"], fn := fun _ => fun
  | [d1, d2, g1] => { results := [.lit (.bool false)], args := [d1, d2], vars := [g1] }
  | _ => none }
def FnExactShortPlanWrongFalsely : Prop := fnExactShortPlanRow.holds Tryd.pinned (OpenSpec.ofChange fnExactShortPlanWrong)

/-- 'laws.FnExactIsPlanFor': WHATEVER THE INPUT: true; the input reads as it did. -/
def fnExactIsPlanForSpec : ChangeSpec := { name := "fnExactIsPlanFor", vars := ["loop.example/g01012/impl.places"], fn := fun _ => fun
  | [d1, d2, d3, g1] => { results := [.lit (.bool true)], args := [d1, d2, d3], vars := [g1] }
  | _ => none }
def fnExactIsPlanForRow : OpenClaim := { program := "ytfffdlmpiglojaadoor", sum := "cf3effd9cee603da1a54da28aa67bb01444bede2a19003f4b10a4658789d72e7", func := "loop.example/g01012/laws.FnExactIsPlanFor", spec := "fnExactIsPlanFor", unfollowed := true, recurses := true, named := ["loop.example/g01012/impl.places"], apart := false, laid := [("loop.example/g01012/impl.places", laid_loop_example_g01012_impl_places)] }
def FnExactIsPlanForSaid : Prop := fnExactIsPlanForRow.holds Tryd.pinned (OpenSpec.ofChange fnExactIsPlanForSpec)

/-- ITS FALSE NEIGHBOUR: 'it returns false'. Refute it at one input. -/
def fnExactIsPlanForWrong : ChangeSpec := { name := "fnExactIsPlanFor", vars := ["loop.example/g01012/impl.places"], fn := fun _ => fun
  | [d1, d2, d3, g1] => { results := [.lit (.bool false)], args := [d1, d2, d3], vars := [g1] }
  | _ => none }
def FnExactIsPlanForWrongFalsely : Prop := fnExactIsPlanForRow.holds Tryd.pinned (OpenSpec.ofChange fnExactIsPlanForWrong)

/-- 'laws.FnExactFewestPasses': WHATEVER THE INPUT: true; the input reads as it did. -/
def fnExactFewestPassesSpec : ChangeSpec := { name := "fnExactFewestPasses", vars := ["loop.example/g01012/impl.places"], fn := fun _ => fun
  | [d1, d2, g1] => { results := [.lit (.bool true)], args := [d1, d2], vars := [g1] }
  | _ => none }
def fnExactFewestPassesRow : OpenClaim := { program := "ytfffdlmpiglojaadoor", sum := "cf3effd9cee603da1a54da28aa67bb01444bede2a19003f4b10a4658789d72e7", func := "loop.example/g01012/laws.FnExactFewestPasses", spec := "fnExactFewestPasses", unfollowed := true, recurses := true, named := ["loop.example/g01012/impl.places"], apart := false, laid := [("loop.example/g01012/impl.places", laid_loop_example_g01012_impl_places)] }
def FnExactFewestPassesSaid : Prop := fnExactFewestPassesRow.holds Tryd.pinned (OpenSpec.ofChange fnExactFewestPassesSpec)

/-- ITS FALSE NEIGHBOUR: 'it returns false'. Refute it at one input. -/
def fnExactFewestPassesWrong : ChangeSpec := { name := "fnExactFewestPasses", vars := ["loop.example/g01012/impl.places"], fn := fun _ => fun
  | [d1, d2, g1] => { results := [.lit (.bool false)], args := [d1, d2], vars := [g1] }
  | _ => none }
def FnExactFewestPassesWrongFalsely : Prop := fnExactFewestPassesRow.holds Tryd.pinned (OpenSpec.ofChange fnExactFewestPassesWrong)

/-- 'laws.FnExactOrderBy': WHATEVER THE INPUT: true; the input reads as it did. -/
def fnExactOrderBySpec : ChangeSpec := { name := "fnExactOrderBy", vars := ["loop.example/g01012/impl.places"], fn := fun _ => fun
  | [d1, d2, g1] => { results := [.lit (.bool true)], args := [d1, d2], vars := [g1] }
  | _ => none }
def fnExactOrderByRow : OpenClaim := { program := "ytfffdlmpiglojaadoor", sum := "cf3effd9cee603da1a54da28aa67bb01444bede2a19003f4b10a4658789d72e7", func := "loop.example/g01012/laws.FnExactOrderBy", spec := "fnExactOrderBy", unfollowed := true, recurses := true, named := ["loop.example/g01012/impl.places"], apart := false, laid := [("loop.example/g01012/impl.places", laid_loop_example_g01012_impl_places)] }
def FnExactOrderBySaid : Prop := fnExactOrderByRow.holds Tryd.pinned (OpenSpec.ofChange fnExactOrderBySpec)

/-- ITS FALSE NEIGHBOUR: 'it returns false'. Refute it at one input. -/
def fnExactOrderByWrong : ChangeSpec := { name := "fnExactOrderBy", vars := ["loop.example/g01012/impl.places"], fn := fun _ => fun
  | [d1, d2, g1] => { results := [.lit (.bool false)], args := [d1, d2], vars := [g1] }
  | _ => none }
def FnExactOrderByWrongFalsely : Prop := fnExactOrderByRow.holds Tryd.pinned (OpenSpec.ofChange fnExactOrderByWrong)

/-- 'laws.FnExactSortedBy': WHATEVER THE INPUT: true; the input reads as it did. -/
def fnExactSortedBySpec : ChangeSpec := { name := "fnExactSortedBy", vars := ["loop.example/g01012/impl.places"], fn := fun _ => fun
  | [d1, d2, g1] => { results := [.lit (.bool true)], args := [d1, d2], vars := [g1] }
  | _ => none }
def fnExactSortedByRow : OpenClaim := { program := "ytfffdlmpiglojaadoor", sum := "cf3effd9cee603da1a54da28aa67bb01444bede2a19003f4b10a4658789d72e7", func := "loop.example/g01012/laws.FnExactSortedBy", spec := "fnExactSortedBy", unfollowed := true, recurses := true, named := ["loop.example/g01012/impl.places"], apart := false, laid := [("loop.example/g01012/impl.places", laid_loop_example_g01012_impl_places)] }
def FnExactSortedBySaid : Prop := fnExactSortedByRow.holds Tryd.pinned (OpenSpec.ofChange fnExactSortedBySpec)

/-- ITS FALSE NEIGHBOUR: 'it returns false'. Refute it at one input. -/
def fnExactSortedByWrong : ChangeSpec := { name := "fnExactSortedBy", vars := ["loop.example/g01012/impl.places"], fn := fun _ => fun
  | [d1, d2, g1] => { results := [.lit (.bool false)], args := [d1, d2], vars := [g1] }
  | _ => none }
def FnExactSortedByWrongFalsely : Prop := fnExactSortedByRow.holds Tryd.pinned (OpenSpec.ofChange fnExactSortedByWrong)

/- THE SECOND FORM. 'bulk': how many values and letters a reading holds, each counted each time it is reached (what is shared counts as often as it is met; a slice's spare places count too). A statement '..UptoSaid' is the law's where the arguments, and the package variables that the reading takes, are together of bulk at most 1048576: NARROWER than '..Said'. Prove '..Said' where nothing that the law and all that it calls make is longer than what came in: it says more and counts as full. Else prove '..UptoSaid'. A law counts once. -/
mutual
def uptoBulk {H : Type} : DataW H → Nat
  | .lit (.string bytes) => bytes.length + 1
  | .lit _ => 1
  | .nil => 1
  | .ptr d => uptoBulk d + 1
  | .slice elems spare => uptoBulkAll elems + uptoBulkAll spare + 1
  | .agg parts => uptoBulkAll parts + 1
  | .iface _ d => uptoBulk d + 1
  | .map entries => uptoBulkEntries entries + 1
  | .held _ => 1
def uptoBulkAll {H : Type} : List (DataW H) → Nat
  | [] => 0
  | d :: r => uptoBulk d + uptoBulkAll r
def uptoBulkEntries {H : Type} : List (Lit × DataW H) → Nat
  | [] => 0
  | x :: r => uptoBulkEntry x + uptoBulkEntries r
def uptoBulkEntry {H : Type} : Lit × DataW H → Nat
  | (.string bytes, d) => bytes.length + uptoBulk d + 1
  | (_, d) => uptoBulk d + 1
 end
def uptoSmall : (H : Type) → List (DataW H) → Bool := fun _ ds => decide (uptoBulkAll ds ≤ 1048576)
def OpenSpec.upto (s : _root_.Go.ChangeSpec) : _root_.Go.OpenSpec := { _root_.Go.OpenSpec.ofChange s with cond := some uptoSmall }

/-- 'laws.FnExactShortPlan', WHERE WHAT IT READS IS OF BULK AT MOST 1048576: true; the input reads as it did. -/
def fnExactShortPlanUptoRow : OpenClaim := { program := "ytfffdlmpiglojaadoor", sum := "cf3effd9cee603da1a54da28aa67bb01444bede2a19003f4b10a4658789d72e7", func := "loop.example/g01012/laws.FnExactShortPlan", spec := "fnExactShortPlan", unfollowed := true, recurses := true, named := ["loop.example/g01012/impl.places"], apart := false, laid := [("loop.example/g01012/impl.places", laid_loop_example_g01012_impl_places)], narrowed := true }
def FnExactShortPlanUptoSaid : Prop := fnExactShortPlanUptoRow.holds Tryd.pinned (OpenSpec.upto fnExactShortPlanSpec)

/-- 'laws.FnExactIsPlanFor', WHERE WHAT IT READS IS OF BULK AT MOST 1048576: true; the input reads as it did. -/
def fnExactIsPlanForUptoRow : OpenClaim := { program := "ytfffdlmpiglojaadoor", sum := "cf3effd9cee603da1a54da28aa67bb01444bede2a19003f4b10a4658789d72e7", func := "loop.example/g01012/laws.FnExactIsPlanFor", spec := "fnExactIsPlanFor", unfollowed := true, recurses := true, named := ["loop.example/g01012/impl.places"], apart := false, laid := [("loop.example/g01012/impl.places", laid_loop_example_g01012_impl_places)], narrowed := true }
def FnExactIsPlanForUptoSaid : Prop := fnExactIsPlanForUptoRow.holds Tryd.pinned (OpenSpec.upto fnExactIsPlanForSpec)

/-- 'laws.FnExactFewestPasses', WHERE WHAT IT READS IS OF BULK AT MOST 1048576: true; the input reads as it did. -/
def fnExactFewestPassesUptoRow : OpenClaim := { program := "ytfffdlmpiglojaadoor", sum := "cf3effd9cee603da1a54da28aa67bb01444bede2a19003f4b10a4658789d72e7", func := "loop.example/g01012/laws.FnExactFewestPasses", spec := "fnExactFewestPasses", unfollowed := true, recurses := true, named := ["loop.example/g01012/impl.places"], apart := false, laid := [("loop.example/g01012/impl.places", laid_loop_example_g01012_impl_places)], narrowed := true }
def FnExactFewestPassesUptoSaid : Prop := fnExactFewestPassesUptoRow.holds Tryd.pinned (OpenSpec.upto fnExactFewestPassesSpec)

/-- 'laws.FnExactOrderBy', WHERE WHAT IT READS IS OF BULK AT MOST 1048576: true; the input reads as it did. -/
def fnExactOrderByUptoRow : OpenClaim := { program := "ytfffdlmpiglojaadoor", sum := "cf3effd9cee603da1a54da28aa67bb01444bede2a19003f4b10a4658789d72e7", func := "loop.example/g01012/laws.FnExactOrderBy", spec := "fnExactOrderBy", unfollowed := true, recurses := true, named := ["loop.example/g01012/impl.places"], apart := false, laid := [("loop.example/g01012/impl.places", laid_loop_example_g01012_impl_places)], narrowed := true }
def FnExactOrderByUptoSaid : Prop := fnExactOrderByUptoRow.holds Tryd.pinned (OpenSpec.upto fnExactOrderBySpec)

/-- 'laws.FnExactSortedBy', WHERE WHAT IT READS IS OF BULK AT MOST 1048576: true; the input reads as it did. -/
def fnExactSortedByUptoRow : OpenClaim := { program := "ytfffdlmpiglojaadoor", sum := "cf3effd9cee603da1a54da28aa67bb01444bede2a19003f4b10a4658789d72e7", func := "loop.example/g01012/laws.FnExactSortedBy", spec := "fnExactSortedBy", unfollowed := true, recurses := true, named := ["loop.example/g01012/impl.places"], apart := false, laid := [("loop.example/g01012/impl.places", laid_loop_example_g01012_impl_places)], narrowed := true }
def FnExactSortedByUptoSaid : Prop := fnExactSortedByUptoRow.holds Tryd.pinned (OpenSpec.upto fnExactSortedBySpec)

end Rows
end Go.Proofs.YtfffdlmpiglojaaDoor
