/-
  No cell of these rows narrows 'for every input' (looked for: loops, veiled, ifaces, maps, wideKeys, modest, calm, conditions, laid).
  DERIVED. THE GIVEN ROWS OF THIS SEAT. 4 by the template 'for every input the law returns true; each argument reads behind the call as it read before'; 0 by the template 'total and deterministic' (their statements: YtjfogadcedgndabTotals.lean).
  GIVEN WITH THE SEED: the statements are not yours to turn. If you find one false, say at which input.
  Laid BY PROGRAM, IN A SANDBOX (cutbox-rows.mjs): the forced cells as the released guide's own fill.sh prints them over the translation 1283b695a59af597… (all of the seat's roots in one cut). By AI agents, Wed Nov 11 2026. No macro, syntax, notation, axiom, sorry.
-/
import Derived.Test.YtjfogadcedgndabChecked
import GoSem.Claim
import GoSem.ClaimJoined
import GoSem.ClaimMapViews
import Derived.JoinedTies
import Derived.KernelRfl
namespace Go.Proofs.Ytjfogadcedgndab
/- THE CELL 'sum', in the pinned program and in every row, IS THE sha256 OF THE DUMP (.gsa) THAT YtjfogadcedgndabProg.lean LOADS. Nothing in Lean hashes anything: it is a label: what it is worth is what the hold of that sum in a sandbox is worth. -/
noncomputable def Try.pinned : Pinned := { name := "ytjfogadcedgndab", sum := "1283b695a59af5978d52fad98da26bfd6dac81e1f2dc2b40fed83de8cafe26af", checked := Try.checked }
namespace Rows
def none {H : Type} : Left H := { results := [], args := [] }

/-- 'laws.FnExactPunchHole': WHATEVER THE INPUT: true; the input reads as it did. -/
def fnExactPunchHoleSpec : ChangeSpec := { name := "fnExactPunchHole", fn := fun _ => fun
  | [d1, d2, d3] => { results := [.lit (.bool true)], args := [d1, d2, d3] }
  | _ => none }
def fnExactPunchHoleRow : OpenClaim := { program := "ytjfogadcedgndab", sum := "1283b695a59af5978d52fad98da26bfd6dac81e1f2dc2b40fed83de8cafe26af", func := "loop.example/g01012/laws.FnExactPunchHole", spec := "fnExactPunchHole", apart := false }
def FnExactPunchHoleSaid : Prop := fnExactPunchHoleRow.holds Try.pinned (OpenSpec.ofChange fnExactPunchHoleSpec)

/-- ITS FALSE NEIGHBOUR: 'it returns false'. Refute it at one input. -/
def fnExactPunchHoleWrong : ChangeSpec := { name := "fnExactPunchHole", fn := fun _ => fun
  | [d1, d2, d3] => { results := [.lit (.bool false)], args := [d1, d2, d3] }
  | _ => none }
def FnExactPunchHoleWrongFalsely : Prop := fnExactPunchHoleRow.holds Try.pinned (OpenSpec.ofChange fnExactPunchHoleWrong)

/-- 'laws.FnExactHasHole': WHATEVER THE INPUT: true; the input reads as it did. -/
def fnExactHasHoleSpec : ChangeSpec := { name := "fnExactHasHole", fn := fun _ => fun
  | [d1, d2, d3] => { results := [.lit (.bool true)], args := [d1, d2, d3] }
  | _ => none }
def fnExactHasHoleRow : OpenClaim := { program := "ytjfogadcedgndab", sum := "1283b695a59af5978d52fad98da26bfd6dac81e1f2dc2b40fed83de8cafe26af", func := "loop.example/g01012/laws.FnExactHasHole", spec := "fnExactHasHole", apart := false }
def FnExactHasHoleSaid : Prop := fnExactHasHoleRow.holds Try.pinned (OpenSpec.ofChange fnExactHasHoleSpec)

/-- ITS FALSE NEIGHBOUR: 'it returns false'. Refute it at one input. -/
def fnExactHasHoleWrong : ChangeSpec := { name := "fnExactHasHole", fn := fun _ => fun
  | [d1, d2, d3] => { results := [.lit (.bool false)], args := [d1, d2, d3] }
  | _ => none }
def FnExactHasHoleWrongFalsely : Prop := fnExactHasHoleRow.holds Try.pinned (OpenSpec.ofChange fnExactHasHoleWrong)

/-- 'laws.FnExactPocketOf': WHATEVER THE INPUT: true; the input reads as it did. -/
def fnExactPocketOfSpec : ChangeSpec := { name := "fnExactPocketOf", fn := fun _ => fun
  | [d1, d2] => { results := [.lit (.bool true)], args := [d1, d2] }
  | _ => none }
def fnExactPocketOfRow : OpenClaim := { program := "ytjfogadcedgndab", sum := "1283b695a59af5978d52fad98da26bfd6dac81e1f2dc2b40fed83de8cafe26af", func := "loop.example/g01012/laws.FnExactPocketOf", spec := "fnExactPocketOf", apart := false }
def FnExactPocketOfSaid : Prop := fnExactPocketOfRow.holds Try.pinned (OpenSpec.ofChange fnExactPocketOfSpec)

/-- ITS FALSE NEIGHBOUR: 'it returns false'. Refute it at one input. -/
def fnExactPocketOfWrong : ChangeSpec := { name := "fnExactPocketOf", fn := fun _ => fun
  | [d1, d2] => { results := [.lit (.bool false)], args := [d1, d2] }
  | _ => none }
def FnExactPocketOfWrongFalsely : Prop := fnExactPocketOfRow.holds Try.pinned (OpenSpec.ofChange fnExactPocketOfWrong)

/-- 'laws.FnExactSortPass': WHATEVER THE INPUT: true; the input reads as it did. -/
def fnExactSortPassSpec : ChangeSpec := { name := "fnExactSortPass", fn := fun _ => fun
  | [d1, d2] => { results := [.lit (.bool true)], args := [d1, d2] }
  | _ => none }
def fnExactSortPassRow : OpenClaim := { program := "ytjfogadcedgndab", sum := "1283b695a59af5978d52fad98da26bfd6dac81e1f2dc2b40fed83de8cafe26af", func := "loop.example/g01012/laws.FnExactSortPass", spec := "fnExactSortPass", apart := false }
def FnExactSortPassSaid : Prop := fnExactSortPassRow.holds Try.pinned (OpenSpec.ofChange fnExactSortPassSpec)

/-- ITS FALSE NEIGHBOUR: 'it returns false'. Refute it at one input. -/
def fnExactSortPassWrong : ChangeSpec := { name := "fnExactSortPass", fn := fun _ => fun
  | [d1, d2] => { results := [.lit (.bool false)], args := [d1, d2] }
  | _ => none }
def FnExactSortPassWrongFalsely : Prop := fnExactSortPassRow.holds Try.pinned (OpenSpec.ofChange fnExactSortPassWrong)

/- THE SECOND FORM. 'bulk': how many values and letters a reading holds, each counted each time it is reached (what is shared counts as often as it is met; a slice's spare places count too). A statement '..UptoSaid' is the law's where the arguments, and the package variables that the reading takes, are together of bulk at most 1048576: NARROWER than '..Said'. Prove '..Said' where nothing that the law and all that it calls make is longer than what came in: it says more and counts as full. Else prove '..UptoSaid'. A law counts once. -/
mutual
def uptoBulk {H : Type} : DataW H → Nat
  | .lit (.string bytes) => bytes.length + 1
  | .lit _ => 1
  | .nil => 1
  | .ptr d => uptoBulk d + 1
  | .slice elems spare => uptoBulkAll elems + uptoBulkAll spare + 1
  | .agg parts => uptoBulkAll parts + 1
  | .iface _ d => uptoBulk d + 1
  | .map entries => uptoBulkEntries entries + 1
  | .held _ => 1
def uptoBulkAll {H : Type} : List (DataW H) → Nat
  | [] => 0
  | d :: r => uptoBulk d + uptoBulkAll r
def uptoBulkEntries {H : Type} : List (Lit × DataW H) → Nat
  | [] => 0
  | x :: r => uptoBulkEntry x + uptoBulkEntries r
def uptoBulkEntry {H : Type} : Lit × DataW H → Nat
  | (.string bytes, d) => bytes.length + uptoBulk d + 1
  | (_, d) => uptoBulk d + 1
 end
def uptoSmall : (H : Type) → List (DataW H) → Bool := fun _ ds => decide (uptoBulkAll ds ≤ 1048576)
def OpenSpec.upto (s : _root_.Go.ChangeSpec) : _root_.Go.OpenSpec := { _root_.Go.OpenSpec.ofChange s with cond := some uptoSmall }

/-- 'laws.FnExactPunchHole', WHERE WHAT IT READS IS OF BULK AT MOST 1048576: true; the input reads as it did. -/
def fnExactPunchHoleUptoRow : OpenClaim := { program := "ytjfogadcedgndab", sum := "1283b695a59af5978d52fad98da26bfd6dac81e1f2dc2b40fed83de8cafe26af", func := "loop.example/g01012/laws.FnExactPunchHole", spec := "fnExactPunchHole", apart := false, narrowed := true }
def FnExactPunchHoleUptoSaid : Prop := fnExactPunchHoleUptoRow.holds Try.pinned (OpenSpec.upto fnExactPunchHoleSpec)

/-- 'laws.FnExactHasHole', WHERE WHAT IT READS IS OF BULK AT MOST 1048576: true; the input reads as it did. -/
def fnExactHasHoleUptoRow : OpenClaim := { program := "ytjfogadcedgndab", sum := "1283b695a59af5978d52fad98da26bfd6dac81e1f2dc2b40fed83de8cafe26af", func := "loop.example/g01012/laws.FnExactHasHole", spec := "fnExactHasHole", apart := false, narrowed := true }
def FnExactHasHoleUptoSaid : Prop := fnExactHasHoleUptoRow.holds Try.pinned (OpenSpec.upto fnExactHasHoleSpec)

/-- 'laws.FnExactPocketOf', WHERE WHAT IT READS IS OF BULK AT MOST 1048576: true; the input reads as it did. -/
def fnExactPocketOfUptoRow : OpenClaim := { program := "ytjfogadcedgndab", sum := "1283b695a59af5978d52fad98da26bfd6dac81e1f2dc2b40fed83de8cafe26af", func := "loop.example/g01012/laws.FnExactPocketOf", spec := "fnExactPocketOf", apart := false, narrowed := true }
def FnExactPocketOfUptoSaid : Prop := fnExactPocketOfUptoRow.holds Try.pinned (OpenSpec.upto fnExactPocketOfSpec)

/-- 'laws.FnExactSortPass', WHERE WHAT IT READS IS OF BULK AT MOST 1048576: true; the input reads as it did. -/
def fnExactSortPassUptoRow : OpenClaim := { program := "ytjfogadcedgndab", sum := "1283b695a59af5978d52fad98da26bfd6dac81e1f2dc2b40fed83de8cafe26af", func := "loop.example/g01012/laws.FnExactSortPass", spec := "fnExactSortPass", apart := false, narrowed := true }
def FnExactSortPassUptoSaid : Prop := fnExactSortPassUptoRow.holds Try.pinned (OpenSpec.upto fnExactSortPassSpec)

end Rows
end Go.Proofs.Ytjfogadcedgndab
