/-
  No cell of these rows narrows 'for every input' (looked for: loops, veiled, ifaces, maps, wideKeys, modest, calm, conditions, laid).
  DERIVED. THE GIVEN ROWS OF THIS SEAT. 5 by the template 'for every input the law returns true; each argument reads behind the call as it read before'; 0 by the template 'total and deterministic' (their statements: YtfffdlmpiglojaaTotals.lean).
  GIVEN WITH THE SEED: the statements are not yours to turn. If you find one false, say at which input.
  Laid BY PROGRAM, IN A SANDBOX (cutbox-rows.mjs): the forced cells as the released guide's own fill.sh prints them over the translation 1c713f6f65ae6f90… (all of the seat's roots in one cut). By AI agents, Wed Nov 11 2026. No macro, syntax, notation, axiom, sorry.
-/
import Derived.Test.YtfffdlmpiglojaaChecked
import GoSem.Claim
import GoSem.ClaimJoined
import GoSem.ClaimMapViews
import Derived.JoinedTies
import Derived.KernelRfl
namespace Go.Proofs.Ytfffdlmpiglojaa
/- THE CELL 'sum', in the pinned program and in every row, IS THE sha256 OF THE DUMP (.gsa) THAT YtfffdlmpiglojaaProg.lean LOADS. Nothing in Lean hashes anything: it is a label: what it is worth is what the hold of that sum in a sandbox is worth. -/
noncomputable def Try.pinned : Pinned := { name := "ytfffdlmpiglojaa", sum := "1c713f6f65ae6f9092f2f83b559082c34eb6f1270653c25ffa47cdb4736d8075", checked := Try.checked }
namespace Rows
def none {H : Type} : Left H := { results := [], args := [] }

/-- 'laws.FnExactFullPlan': WHATEVER THE INPUT: true; the input reads as it did. -/
def fnExactFullPlanSpec : ChangeSpec := { name := "fnExactFullPlan", fn := fun _ => fun
  | [d] => { results := [.lit (.bool true)], args := [d] }
  | _ => none }
def fnExactFullPlanRow : OpenClaim := { program := "ytfffdlmpiglojaa", sum := "1c713f6f65ae6f9092f2f83b559082c34eb6f1270653c25ffa47cdb4736d8075", func := "loop.example/g01012/laws.FnExactFullPlan", spec := "fnExactFullPlan", apart := false }
def FnExactFullPlanSaid : Prop := fnExactFullPlanRow.holds Try.pinned (OpenSpec.ofChange fnExactFullPlanSpec)

/-- ITS FALSE NEIGHBOUR: 'it returns false'. Refute it at one input. -/
def fnExactFullPlanWrong : ChangeSpec := { name := "fnExactFullPlan", fn := fun _ => fun
  | [d] => { results := [.lit (.bool false)], args := [d] }
  | _ => none }
def FnExactFullPlanWrongFalsely : Prop := fnExactFullPlanRow.holds Try.pinned (OpenSpec.ofChange fnExactFullPlanWrong)

/-- 'laws.FnExactDigitPlan': WHATEVER THE INPUT: true; the input reads as it did. -/
def fnExactDigitPlanSpec : ChangeSpec := { name := "fnExactDigitPlan", fn := fun _ => fun
  | [d] => { results := [.lit (.bool true)], args := [d] }
  | _ => none }
def fnExactDigitPlanRow : OpenClaim := { program := "ytfffdlmpiglojaa", sum := "1c713f6f65ae6f9092f2f83b559082c34eb6f1270653c25ffa47cdb4736d8075", func := "loop.example/g01012/laws.FnExactDigitPlan", spec := "fnExactDigitPlan", unfollowed := true, recurses := true, apart := false }
def FnExactDigitPlanSaid : Prop := fnExactDigitPlanRow.holds Try.pinned (OpenSpec.ofChange fnExactDigitPlanSpec)

/-- ITS FALSE NEIGHBOUR: 'it returns false'. Refute it at one input. -/
def fnExactDigitPlanWrong : ChangeSpec := { name := "fnExactDigitPlan", fn := fun _ => fun
  | [d] => { results := [.lit (.bool false)], args := [d] }
  | _ => none }
def FnExactDigitPlanWrongFalsely : Prop := fnExactDigitPlanRow.holds Try.pinned (OpenSpec.ofChange fnExactDigitPlanWrong)

/-- 'laws.FnExactIsIdlePass': WHATEVER THE INPUT: true; the input reads as it did. -/
def fnExactIsIdlePassSpec : ChangeSpec := { name := "fnExactIsIdlePass", fn := fun _ => fun
  | [d1, d2] => { results := [.lit (.bool true)], args := [d1, d2] }
  | _ => none }
def fnExactIsIdlePassRow : OpenClaim := { program := "ytfffdlmpiglojaa", sum := "1c713f6f65ae6f9092f2f83b559082c34eb6f1270653c25ffa47cdb4736d8075", func := "loop.example/g01012/laws.FnExactIsIdlePass", spec := "fnExactIsIdlePass", unfollowed := true, recurses := true, apart := false }
def FnExactIsIdlePassSaid : Prop := fnExactIsIdlePassRow.holds Try.pinned (OpenSpec.ofChange fnExactIsIdlePassSpec)

/-- ITS FALSE NEIGHBOUR: 'it returns false'. Refute it at one input. -/
def fnExactIsIdlePassWrong : ChangeSpec := { name := "fnExactIsIdlePass", fn := fun _ => fun
  | [d1, d2] => { results := [.lit (.bool false)], args := [d1, d2] }
  | _ => none }
def FnExactIsIdlePassWrongFalsely : Prop := fnExactIsIdlePassRow.holds Try.pinned (OpenSpec.ofChange fnExactIsIdlePassWrong)

/-- 'laws.FnExactAlwaysSorts': WHATEVER THE INPUT: true; the input reads as it did. -/
def fnExactAlwaysSortsSpec : ChangeSpec := { name := "fnExactAlwaysSorts", fn := fun _ => fun
  | [d1, d2] => { results := [.lit (.bool true)], args := [d1, d2] }
  | _ => none }
def fnExactAlwaysSortsRow : OpenClaim := { program := "ytfffdlmpiglojaa", sum := "1c713f6f65ae6f9092f2f83b559082c34eb6f1270653c25ffa47cdb4736d8075", func := "loop.example/g01012/laws.FnExactAlwaysSorts", spec := "fnExactAlwaysSorts", apart := false }
def FnExactAlwaysSortsSaid : Prop := fnExactAlwaysSortsRow.holds Try.pinned (OpenSpec.ofChange fnExactAlwaysSortsSpec)

/-- ITS FALSE NEIGHBOUR: 'it returns false'. Refute it at one input. -/
def fnExactAlwaysSortsWrong : ChangeSpec := { name := "fnExactAlwaysSorts", fn := fun _ => fun
  | [d1, d2] => { results := [.lit (.bool false)], args := [d1, d2] }
  | _ => none }
def FnExactAlwaysSortsWrongFalsely : Prop := fnExactAlwaysSortsRow.holds Try.pinned (OpenSpec.ofChange fnExactAlwaysSortsWrong)

/-- 'laws.FnExactHandledCards': WHATEVER THE INPUT: true; the input reads as it did. -/
def fnExactHandledCardsSpec : ChangeSpec := { name := "fnExactHandledCards", fn := fun _ => fun
  | [d1, d2] => { results := [.lit (.bool true)], args := [d1, d2] }
  | _ => none }
def fnExactHandledCardsRow : OpenClaim := { program := "ytfffdlmpiglojaa", sum := "1c713f6f65ae6f9092f2f83b559082c34eb6f1270653c25ffa47cdb4736d8075", func := "loop.example/g01012/laws.FnExactHandledCards", spec := "fnExactHandledCards", apart := false }
def FnExactHandledCardsSaid : Prop := fnExactHandledCardsRow.holds Try.pinned (OpenSpec.ofChange fnExactHandledCardsSpec)

/-- ITS FALSE NEIGHBOUR: 'it returns false'. Refute it at one input. -/
def fnExactHandledCardsWrong : ChangeSpec := { name := "fnExactHandledCards", fn := fun _ => fun
  | [d1, d2] => { results := [.lit (.bool false)], args := [d1, d2] }
  | _ => none }
def FnExactHandledCardsWrongFalsely : Prop := fnExactHandledCardsRow.holds Try.pinned (OpenSpec.ofChange fnExactHandledCardsWrong)

/- THE SECOND FORM. 'bulk': how many values and letters a reading holds, each counted each time it is reached (what is shared counts as often as it is met; a slice's spare places count too). A statement '..UptoSaid' is the law's where the arguments, and the package variables that the reading takes, are together of bulk at most 1048576: NARROWER than '..Said'. Prove '..Said' where nothing that the law and all that it calls make is longer than what came in: it says more and counts as full. Else prove '..UptoSaid'. A law counts once. -/
mutual
def uptoBulk {H : Type} : DataW H → Nat
  | .lit (.string bytes) => bytes.length + 1
  | .lit _ => 1
  | .nil => 1
  | .ptr d => uptoBulk d + 1
  | .slice elems spare => uptoBulkAll elems + uptoBulkAll spare + 1
  | .agg parts => uptoBulkAll parts + 1
  | .iface _ d => uptoBulk d + 1
  | .map entries => uptoBulkEntries entries + 1
  | .held _ => 1
def uptoBulkAll {H : Type} : List (DataW H) → Nat
  | [] => 0
  | d :: r => uptoBulk d + uptoBulkAll r
def uptoBulkEntries {H : Type} : List (Lit × DataW H) → Nat
  | [] => 0
  | x :: r => uptoBulkEntry x + uptoBulkEntries r
def uptoBulkEntry {H : Type} : Lit × DataW H → Nat
  | (.string bytes, d) => bytes.length + uptoBulk d + 1
  | (_, d) => uptoBulk d + 1
 end
def uptoSmall : (H : Type) → List (DataW H) → Bool := fun _ ds => decide (uptoBulkAll ds ≤ 1048576)
def OpenSpec.upto (s : _root_.Go.ChangeSpec) : _root_.Go.OpenSpec := { _root_.Go.OpenSpec.ofChange s with cond := some uptoSmall }

/-- 'laws.FnExactFullPlan', WHERE WHAT IT READS IS OF BULK AT MOST 1048576: true; the input reads as it did. -/
def fnExactFullPlanUptoRow : OpenClaim := { program := "ytfffdlmpiglojaa", sum := "1c713f6f65ae6f9092f2f83b559082c34eb6f1270653c25ffa47cdb4736d8075", func := "loop.example/g01012/laws.FnExactFullPlan", spec := "fnExactFullPlan", apart := false, narrowed := true }
def FnExactFullPlanUptoSaid : Prop := fnExactFullPlanUptoRow.holds Try.pinned (OpenSpec.upto fnExactFullPlanSpec)

/-- 'laws.FnExactDigitPlan', WHERE WHAT IT READS IS OF BULK AT MOST 1048576: true; the input reads as it did. -/
def fnExactDigitPlanUptoRow : OpenClaim := { program := "ytfffdlmpiglojaa", sum := "1c713f6f65ae6f9092f2f83b559082c34eb6f1270653c25ffa47cdb4736d8075", func := "loop.example/g01012/laws.FnExactDigitPlan", spec := "fnExactDigitPlan", unfollowed := true, recurses := true, apart := false, narrowed := true }
def FnExactDigitPlanUptoSaid : Prop := fnExactDigitPlanUptoRow.holds Try.pinned (OpenSpec.upto fnExactDigitPlanSpec)

/-- 'laws.FnExactIsIdlePass', WHERE WHAT IT READS IS OF BULK AT MOST 1048576: true; the input reads as it did. -/
def fnExactIsIdlePassUptoRow : OpenClaim := { program := "ytfffdlmpiglojaa", sum := "1c713f6f65ae6f9092f2f83b559082c34eb6f1270653c25ffa47cdb4736d8075", func := "loop.example/g01012/laws.FnExactIsIdlePass", spec := "fnExactIsIdlePass", unfollowed := true, recurses := true, apart := false, narrowed := true }
def FnExactIsIdlePassUptoSaid : Prop := fnExactIsIdlePassUptoRow.holds Try.pinned (OpenSpec.upto fnExactIsIdlePassSpec)

/-- 'laws.FnExactAlwaysSorts', WHERE WHAT IT READS IS OF BULK AT MOST 1048576: true; the input reads as it did. -/
def fnExactAlwaysSortsUptoRow : OpenClaim := { program := "ytfffdlmpiglojaa", sum := "1c713f6f65ae6f9092f2f83b559082c34eb6f1270653c25ffa47cdb4736d8075", func := "loop.example/g01012/laws.FnExactAlwaysSorts", spec := "fnExactAlwaysSorts", apart := false, narrowed := true }
def FnExactAlwaysSortsUptoSaid : Prop := fnExactAlwaysSortsUptoRow.holds Try.pinned (OpenSpec.upto fnExactAlwaysSortsSpec)

/-- 'laws.FnExactHandledCards', WHERE WHAT IT READS IS OF BULK AT MOST 1048576: true; the input reads as it did. -/
def fnExactHandledCardsUptoRow : OpenClaim := { program := "ytfffdlmpiglojaa", sum := "1c713f6f65ae6f9092f2f83b559082c34eb6f1270653c25ffa47cdb4736d8075", func := "loop.example/g01012/laws.FnExactHandledCards", spec := "fnExactHandledCards", apart := false, narrowed := true }
def FnExactHandledCardsUptoSaid : Prop := fnExactHandledCardsUptoRow.holds Try.pinned (OpenSpec.upto fnExactHandledCardsSpec)

end Rows
end Go.Proofs.Ytfffdlmpiglojaa
