/-
  No cell of these rows narrows 'for every input' (looked for: loops, veiled, ifaces, maps, wideKeys, modest, calm, conditions, laid).
  DERIVED. THE GIVEN ROWS OF THIS SEAT. 6 by the template 'for every input the law returns true; each argument reads behind the call as it read before'; 0 by the template 'total and deterministic' (their statements: YtkiphejkgpfjjaaTotals.lean).
  GIVEN WITH THE SEED: the statements are not yours to turn. If you find one false, say at which input.
  Laid BY PROGRAM, IN A SANDBOX (cutbox-rows.mjs): the forced cells as the released guide's own fill.sh prints them over the translation 9bbf3783ae3bafdf… (all of the seat's roots in one cut). By AI agents, Wed Nov 11 2026. No macro, syntax, notation, axiom, sorry.
-/
import Derived.Test.YtkiphejkgpfjjaaChecked
import GoSem.Claim
import GoSem.ClaimJoined
import GoSem.ClaimMapViews
import Derived.JoinedTies
import Derived.KernelRfl
namespace Go.Proofs.Ytkiphejkgpfjjaa
/- THE CELL 'sum', in the pinned program and in every row, IS THE sha256 OF THE DUMP (.gsa) THAT YtkiphejkgpfjjaaProg.lean LOADS. Nothing in Lean hashes anything: it is a label: what it is worth is what the hold of that sum in a sandbox is worth. -/
noncomputable def Try.pinned : Pinned := { name := "ytkiphejkgpfjjaa", sum := "9bbf3783ae3bafdf24020f49693f774376695c6955500a5637b251ff26c65ad4", checked := Try.checked }
namespace Rows
def none {H : Type} : Left H := { results := [], args := [] }

/-- 'laws.FnExactValidCounter': WHATEVER THE INPUT: true; the input reads as it did. -/
def fnExactValidCounterSpec : ChangeSpec := { name := "fnExactValidCounter", fn := fun _ => fun
  | [d] => { results := [.lit (.bool true)], args := [d] }
  | _ => none }
def fnExactValidCounterRow : OpenClaim := { program := "ytkiphejkgpfjjaa", sum := "9bbf3783ae3bafdf24020f49693f774376695c6955500a5637b251ff26c65ad4", func := "loop.example/g01012/laws.FnExactValidCounter", spec := "fnExactValidCounter", unfollowed := true, recurses := true, apart := false }
def FnExactValidCounterSaid : Prop := fnExactValidCounterRow.holds Try.pinned (OpenSpec.ofChange fnExactValidCounterSpec)

/-- ITS FALSE NEIGHBOUR: 'it returns false'. Refute it at one input. -/
def fnExactValidCounterWrong : ChangeSpec := { name := "fnExactValidCounter", fn := fun _ => fun
  | [d] => { results := [.lit (.bool false)], args := [d] }
  | _ => none }
def FnExactValidCounterWrongFalsely : Prop := fnExactValidCounterRow.holds Try.pinned (OpenSpec.ofChange fnExactValidCounterWrong)

/-- 'laws.FnExactSameCounter': WHATEVER THE INPUT: true; the input reads as it did. -/
def fnExactSameCounterSpec : ChangeSpec := { name := "fnExactSameCounter", fn := fun _ => fun
  | [d1, d2] => { results := [.lit (.bool true)], args := [d1, d2] }
  | _ => none }
def fnExactSameCounterRow : OpenClaim := { program := "ytkiphejkgpfjjaa", sum := "9bbf3783ae3bafdf24020f49693f774376695c6955500a5637b251ff26c65ad4", func := "loop.example/g01012/laws.FnExactSameCounter", spec := "fnExactSameCounter", apart := false }
def FnExactSameCounterSaid : Prop := fnExactSameCounterRow.holds Try.pinned (OpenSpec.ofChange fnExactSameCounterSpec)

/-- ITS FALSE NEIGHBOUR: 'it returns false'. Refute it at one input. -/
def fnExactSameCounterWrong : ChangeSpec := { name := "fnExactSameCounter", fn := fun _ => fun
  | [d1, d2] => { results := [.lit (.bool false)], args := [d1, d2] }
  | _ => none }
def FnExactSameCounterWrongFalsely : Prop := fnExactSameCounterRow.holds Try.pinned (OpenSpec.ofChange fnExactSameCounterWrong)

/-- 'laws.FnExactNumberShown': WHATEVER THE INPUT: true; the input reads as it did. -/
def fnExactNumberShownSpec : ChangeSpec := { name := "fnExactNumberShown", fn := fun _ => fun
  | [d] => { results := [.lit (.bool true)], args := [d] }
  | _ => none }
def fnExactNumberShownRow : OpenClaim := { program := "ytkiphejkgpfjjaa", sum := "9bbf3783ae3bafdf24020f49693f774376695c6955500a5637b251ff26c65ad4", func := "loop.example/g01012/laws.FnExactNumberShown", spec := "fnExactNumberShown", unfollowed := true, recurses := true, apart := false }
def FnExactNumberShownSaid : Prop := fnExactNumberShownRow.holds Try.pinned (OpenSpec.ofChange fnExactNumberShownSpec)

/-- ITS FALSE NEIGHBOUR: 'it returns false'. Refute it at one input. -/
def fnExactNumberShownWrong : ChangeSpec := { name := "fnExactNumberShown", fn := fun _ => fun
  | [d] => { results := [.lit (.bool false)], args := [d] }
  | _ => none }
def FnExactNumberShownWrongFalsely : Prop := fnExactNumberShownRow.holds Try.pinned (OpenSpec.ofChange fnExactNumberShownWrong)

/-- 'laws.FnExactComplementOf': WHATEVER THE INPUT: true; the input reads as it did. -/
def fnExactComplementOfSpec : ChangeSpec := { name := "fnExactComplementOf", fn := fun _ => fun
  | [d] => { results := [.lit (.bool true)], args := [d] }
  | _ => none }
def fnExactComplementOfRow : OpenClaim := { program := "ytkiphejkgpfjjaa", sum := "9bbf3783ae3bafdf24020f49693f774376695c6955500a5637b251ff26c65ad4", func := "loop.example/g01012/laws.FnExactComplementOf", spec := "fnExactComplementOf", unfollowed := true, recurses := true, apart := false }
def FnExactComplementOfSaid : Prop := fnExactComplementOfRow.holds Try.pinned (OpenSpec.ofChange fnExactComplementOfSpec)

/-- ITS FALSE NEIGHBOUR: 'it returns false'. Refute it at one input. -/
def fnExactComplementOfWrong : ChangeSpec := { name := "fnExactComplementOf", fn := fun _ => fun
  | [d] => { results := [.lit (.bool false)], args := [d] }
  | _ => none }
def FnExactComplementOfWrongFalsely : Prop := fnExactComplementOfRow.holds Try.pinned (OpenSpec.ofChange fnExactComplementOfWrong)

/-- 'laws.FnExactSplitCounter': WHATEVER THE INPUT: true; the input reads as it did. -/
def fnExactSplitCounterSpec : ChangeSpec := { name := "fnExactSplitCounter", fn := fun _ => fun
  | [d1, d2] => { results := [.lit (.bool true)], args := [d1, d2] }
  | _ => none }
def fnExactSplitCounterRow : OpenClaim := { program := "ytkiphejkgpfjjaa", sum := "9bbf3783ae3bafdf24020f49693f774376695c6955500a5637b251ff26c65ad4", func := "loop.example/g01012/laws.FnExactSplitCounter", spec := "fnExactSplitCounter", unfollowed := true, recurses := true, apart := false }
def FnExactSplitCounterSaid : Prop := fnExactSplitCounterRow.holds Try.pinned (OpenSpec.ofChange fnExactSplitCounterSpec)

/-- ITS FALSE NEIGHBOUR: 'it returns false'. Refute it at one input. -/
def fnExactSplitCounterWrong : ChangeSpec := { name := "fnExactSplitCounter", fn := fun _ => fun
  | [d1, d2] => { results := [.lit (.bool false)], args := [d1, d2] }
  | _ => none }
def FnExactSplitCounterWrongFalsely : Prop := fnExactSplitCounterRow.holds Try.pinned (OpenSpec.ofChange fnExactSplitCounterWrong)

/-- 'laws.FnExactJoinCounters': WHATEVER THE INPUT: true; the input reads as it did. -/
def fnExactJoinCountersSpec : ChangeSpec := { name := "fnExactJoinCounters", fn := fun _ => fun
  | [d1, d2] => { results := [.lit (.bool true)], args := [d1, d2] }
  | _ => none }
def fnExactJoinCountersRow : OpenClaim := { program := "ytkiphejkgpfjjaa", sum := "9bbf3783ae3bafdf24020f49693f774376695c6955500a5637b251ff26c65ad4", func := "loop.example/g01012/laws.FnExactJoinCounters", spec := "fnExactJoinCounters", unfollowed := true, recurses := true, apart := false }
def FnExactJoinCountersSaid : Prop := fnExactJoinCountersRow.holds Try.pinned (OpenSpec.ofChange fnExactJoinCountersSpec)

/-- ITS FALSE NEIGHBOUR: 'it returns false'. Refute it at one input. -/
def fnExactJoinCountersWrong : ChangeSpec := { name := "fnExactJoinCounters", fn := fun _ => fun
  | [d1, d2] => { results := [.lit (.bool false)], args := [d1, d2] }
  | _ => none }
def FnExactJoinCountersWrongFalsely : Prop := fnExactJoinCountersRow.holds Try.pinned (OpenSpec.ofChange fnExactJoinCountersWrong)

/- THE SECOND FORM. 'bulk': how many values and letters a reading holds, each counted each time it is reached (what is shared counts as often as it is met; a slice's spare places count too). A statement '..UptoSaid' is the law's where the arguments, and the package variables that the reading takes, are together of bulk at most 1048576: NARROWER than '..Said'. Prove '..Said' where nothing that the law and all that it calls make is longer than what came in: it says more and counts as full. Else prove '..UptoSaid'. A law counts once. -/
mutual
def uptoBulk {H : Type} : DataW H → Nat
  | .lit (.string bytes) => bytes.length + 1
  | .lit _ => 1
  | .nil => 1
  | .ptr d => uptoBulk d + 1
  | .slice elems spare => uptoBulkAll elems + uptoBulkAll spare + 1
  | .agg parts => uptoBulkAll parts + 1
  | .iface _ d => uptoBulk d + 1
  | .map entries => uptoBulkEntries entries + 1
  | .held _ => 1
def uptoBulkAll {H : Type} : List (DataW H) → Nat
  | [] => 0
  | d :: r => uptoBulk d + uptoBulkAll r
def uptoBulkEntries {H : Type} : List (Lit × DataW H) → Nat
  | [] => 0
  | x :: r => uptoBulkEntry x + uptoBulkEntries r
def uptoBulkEntry {H : Type} : Lit × DataW H → Nat
  | (.string bytes, d) => bytes.length + uptoBulk d + 1
  | (_, d) => uptoBulk d + 1
 end
def uptoSmall : (H : Type) → List (DataW H) → Bool := fun _ ds => decide (uptoBulkAll ds ≤ 1048576)
def OpenSpec.upto (s : _root_.Go.ChangeSpec) : _root_.Go.OpenSpec := { _root_.Go.OpenSpec.ofChange s with cond := some uptoSmall }

/-- 'laws.FnExactValidCounter', WHERE WHAT IT READS IS OF BULK AT MOST 1048576: true; the input reads as it did. -/
def fnExactValidCounterUptoRow : OpenClaim := { program := "ytkiphejkgpfjjaa", sum := "9bbf3783ae3bafdf24020f49693f774376695c6955500a5637b251ff26c65ad4", func := "loop.example/g01012/laws.FnExactValidCounter", spec := "fnExactValidCounter", unfollowed := true, recurses := true, apart := false, narrowed := true }
def FnExactValidCounterUptoSaid : Prop := fnExactValidCounterUptoRow.holds Try.pinned (OpenSpec.upto fnExactValidCounterSpec)

/-- 'laws.FnExactSameCounter', WHERE WHAT IT READS IS OF BULK AT MOST 1048576: true; the input reads as it did. -/
def fnExactSameCounterUptoRow : OpenClaim := { program := "ytkiphejkgpfjjaa", sum := "9bbf3783ae3bafdf24020f49693f774376695c6955500a5637b251ff26c65ad4", func := "loop.example/g01012/laws.FnExactSameCounter", spec := "fnExactSameCounter", apart := false, narrowed := true }
def FnExactSameCounterUptoSaid : Prop := fnExactSameCounterUptoRow.holds Try.pinned (OpenSpec.upto fnExactSameCounterSpec)

/-- 'laws.FnExactNumberShown', WHERE WHAT IT READS IS OF BULK AT MOST 1048576: true; the input reads as it did. -/
def fnExactNumberShownUptoRow : OpenClaim := { program := "ytkiphejkgpfjjaa", sum := "9bbf3783ae3bafdf24020f49693f774376695c6955500a5637b251ff26c65ad4", func := "loop.example/g01012/laws.FnExactNumberShown", spec := "fnExactNumberShown", unfollowed := true, recurses := true, apart := false, narrowed := true }
def FnExactNumberShownUptoSaid : Prop := fnExactNumberShownUptoRow.holds Try.pinned (OpenSpec.upto fnExactNumberShownSpec)

/-- 'laws.FnExactComplementOf', WHERE WHAT IT READS IS OF BULK AT MOST 1048576: true; the input reads as it did. -/
def fnExactComplementOfUptoRow : OpenClaim := { program := "ytkiphejkgpfjjaa", sum := "9bbf3783ae3bafdf24020f49693f774376695c6955500a5637b251ff26c65ad4", func := "loop.example/g01012/laws.FnExactComplementOf", spec := "fnExactComplementOf", unfollowed := true, recurses := true, apart := false, narrowed := true }
def FnExactComplementOfUptoSaid : Prop := fnExactComplementOfUptoRow.holds Try.pinned (OpenSpec.upto fnExactComplementOfSpec)

/-- 'laws.FnExactSplitCounter', WHERE WHAT IT READS IS OF BULK AT MOST 1048576: true; the input reads as it did. -/
def fnExactSplitCounterUptoRow : OpenClaim := { program := "ytkiphejkgpfjjaa", sum := "9bbf3783ae3bafdf24020f49693f774376695c6955500a5637b251ff26c65ad4", func := "loop.example/g01012/laws.FnExactSplitCounter", spec := "fnExactSplitCounter", unfollowed := true, recurses := true, apart := false, narrowed := true }
def FnExactSplitCounterUptoSaid : Prop := fnExactSplitCounterUptoRow.holds Try.pinned (OpenSpec.upto fnExactSplitCounterSpec)

/-- 'laws.FnExactJoinCounters', WHERE WHAT IT READS IS OF BULK AT MOST 1048576: true; the input reads as it did. -/
def fnExactJoinCountersUptoRow : OpenClaim := { program := "ytkiphejkgpfjjaa", sum := "9bbf3783ae3bafdf24020f49693f774376695c6955500a5637b251ff26c65ad4", func := "loop.example/g01012/laws.FnExactJoinCounters", spec := "fnExactJoinCounters", unfollowed := true, recurses := true, apart := false, narrowed := true }
def FnExactJoinCountersUptoSaid : Prop := fnExactJoinCountersUptoRow.holds Try.pinned (OpenSpec.upto fnExactJoinCountersSpec)

end Rows
end Go.Proofs.Ytkiphejkgpfjjaa
