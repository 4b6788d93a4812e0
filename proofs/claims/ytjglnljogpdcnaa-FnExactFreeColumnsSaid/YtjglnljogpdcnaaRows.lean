/-
  No cell of these rows narrows 'for every input' (looked for: loops, veiled, ifaces, maps, wideKeys, modest, calm, conditions, laid).
  DERIVED. THE GIVEN ROWS OF THIS SEAT. 5 by the template 'for every input the law returns true; each argument reads behind the call as it read before'; 0 by the template 'total and deterministic' (their statements: YtjglnljogpdcnaaTotals.lean).
  GIVEN WITH THE SEED: the statements are not yours to turn. If you find one false, say at which input.
  Laid BY PROGRAM, IN A SANDBOX (cutbox-rows.mjs): the forced cells as the released guide's own fill.sh prints them over the translation aeecb391ba294667… (all of the seat's roots in one cut). By AI agents, Wed Nov 11 2026. No macro, syntax, notation, axiom, sorry.
-/
import Derived.Test.YtjglnljogpdcnaaChecked
import GoSem.Claim
import GoSem.ClaimJoined
import GoSem.ClaimMapViews
import Derived.JoinedTies
import Derived.KernelRfl
namespace Go.Proofs.Ytjglnljogpdcnaa
/- THE CELL 'sum', in the pinned program and in every row, IS THE sha256 OF THE DUMP (.gsa) THAT YtjglnljogpdcnaaProg.lean LOADS. Nothing in Lean hashes anything: it is a label: what it is worth is what the hold of that sum in a sandbox is worth. -/
noncomputable def Try.pinned : Pinned := { name := "ytjglnljogpdcnaa", sum := "aeecb391ba294667d11f80607e93309a20c48e77550ad9ca894b2b15f724c22c", checked := Try.checked }
namespace Rows
def none {H : Type} : Left H := { results := [], args := [] }

/-- 'laws.FnExactValidLayout': WHATEVER THE INPUT: true; the input reads as it did. -/
def fnExactValidLayoutSpec : ChangeSpec := { name := "fnExactValidLayout", fn := fun _ => fun
  | [d] => { results := [.lit (.bool true)], args := [d] }
  | _ => none }
def fnExactValidLayoutRow : OpenClaim := { program := "ytjglnljogpdcnaa", sum := "aeecb391ba294667d11f80607e93309a20c48e77550ad9ca894b2b15f724c22c", func := "loop.example/g01012/laws.FnExactValidLayout", spec := "fnExactValidLayout", unfollowed := true, recurses := true, apart := false }
def FnExactValidLayoutSaid : Prop := fnExactValidLayoutRow.holds Try.pinned (OpenSpec.ofChange fnExactValidLayoutSpec)

/-- ITS FALSE NEIGHBOUR: 'it returns false'. Refute it at one input. -/
def fnExactValidLayoutWrong : ChangeSpec := { name := "fnExactValidLayout", fn := fun _ => fun
  | [d] => { results := [.lit (.bool false)], args := [d] }
  | _ => none }
def FnExactValidLayoutWrongFalsely : Prop := fnExactValidLayoutRow.holds Try.pinned (OpenSpec.ofChange fnExactValidLayoutWrong)

/-- 'laws.FnExactItemNamed': WHATEVER THE INPUT: true; the input reads as it did. -/
def fnExactItemNamedSpec : ChangeSpec := { name := "fnExactItemNamed", fn := fun _ => fun
  | [d1, d2] => { results := [.lit (.bool true)], args := [d1, d2] }
  | _ => none }
def fnExactItemNamedRow : OpenClaim := { program := "ytjglnljogpdcnaa", sum := "aeecb391ba294667d11f80607e93309a20c48e77550ad9ca894b2b15f724c22c", func := "loop.example/g01012/laws.FnExactItemNamed", spec := "fnExactItemNamed", unfollowed := true, recurses := true, apart := false }
def FnExactItemNamedSaid : Prop := fnExactItemNamedRow.holds Try.pinned (OpenSpec.ofChange fnExactItemNamedSpec)

/-- ITS FALSE NEIGHBOUR: 'it returns false'. Refute it at one input. -/
def fnExactItemNamedWrong : ChangeSpec := { name := "fnExactItemNamed", fn := fun _ => fun
  | [d1, d2] => { results := [.lit (.bool false)], args := [d1, d2] }
  | _ => none }
def FnExactItemNamedWrongFalsely : Prop := fnExactItemNamedRow.holds Try.pinned (OpenSpec.ofChange fnExactItemNamedWrong)

/-- 'laws.FnExactAddItem': WHATEVER THE INPUT: true; the input reads as it did. -/
def fnExactAddItemSpec : ChangeSpec := { name := "fnExactAddItem", fn := fun _ => fun
  | [d1, d2] => { results := [.lit (.bool true)], args := [d1, d2] }
  | _ => none }
def fnExactAddItemRow : OpenClaim := { program := "ytjglnljogpdcnaa", sum := "aeecb391ba294667d11f80607e93309a20c48e77550ad9ca894b2b15f724c22c", func := "loop.example/g01012/laws.FnExactAddItem", spec := "fnExactAddItem", unfollowed := true, recurses := true, apart := false }
def FnExactAddItemSaid : Prop := fnExactAddItemRow.holds Try.pinned (OpenSpec.ofChange fnExactAddItemSpec)

/-- ITS FALSE NEIGHBOUR: 'it returns false'. Refute it at one input. -/
def fnExactAddItemWrong : ChangeSpec := { name := "fnExactAddItem", fn := fun _ => fun
  | [d1, d2] => { results := [.lit (.bool false)], args := [d1, d2] }
  | _ => none }
def FnExactAddItemWrongFalsely : Prop := fnExactAddItemRow.holds Try.pinned (OpenSpec.ofChange fnExactAddItemWrong)

/-- 'laws.FnExactFreeColumns': WHATEVER THE INPUT: true; the input reads as it did. -/
def fnExactFreeColumnsSpec : ChangeSpec := { name := "fnExactFreeColumns", fn := fun _ => fun
  | [d] => { results := [.lit (.bool true)], args := [d] }
  | _ => none }
def fnExactFreeColumnsRow : OpenClaim := { program := "ytjglnljogpdcnaa", sum := "aeecb391ba294667d11f80607e93309a20c48e77550ad9ca894b2b15f724c22c", func := "loop.example/g01012/laws.FnExactFreeColumns", spec := "fnExactFreeColumns", unfollowed := true, recurses := true, apart := false }
def FnExactFreeColumnsSaid : Prop := fnExactFreeColumnsRow.holds Try.pinned (OpenSpec.ofChange fnExactFreeColumnsSpec)

/-- ITS FALSE NEIGHBOUR: 'it returns false'. Refute it at one input. -/
def fnExactFreeColumnsWrong : ChangeSpec := { name := "fnExactFreeColumns", fn := fun _ => fun
  | [d] => { results := [.lit (.bool false)], args := [d] }
  | _ => none }
def FnExactFreeColumnsWrongFalsely : Prop := fnExactFreeColumnsRow.holds Try.pinned (OpenSpec.ofChange fnExactFreeColumnsWrong)

/-- 'laws.FnCards': WHATEVER THE INPUT: true; the input reads as it did. -/
def fnCardsSpec : ChangeSpec := { name := "fnCards", fn := fun _ => fun
  | [d1, d2] => { results := [.lit (.bool true)], args := [d1, d2] }
  | _ => none }
def fnCardsRow : OpenClaim := { program := "ytjglnljogpdcnaa", sum := "aeecb391ba294667d11f80607e93309a20c48e77550ad9ca894b2b15f724c22c", func := "loop.example/g01012/laws.FnCards", spec := "fnCards", inPlace := ["internal/abi.NoEscape"], apart := false }
def FnCardsSaid : Prop := fnCardsRow.holds Try.pinned (OpenSpec.ofChange fnCardsSpec)

/-- ITS FALSE NEIGHBOUR: 'it returns false'. Refute it at one input. -/
def fnCardsWrong : ChangeSpec := { name := "fnCards", fn := fun _ => fun
  | [d1, d2] => { results := [.lit (.bool false)], args := [d1, d2] }
  | _ => none }
def FnCardsWrongFalsely : Prop := fnCardsRow.holds Try.pinned (OpenSpec.ofChange fnCardsWrong)

/- THE SECOND FORM. 'bulk': how many values and letters a reading holds, each counted each time it is reached (what is shared counts as often as it is met; a slice's spare places count too). A statement '..UptoSaid' is the law's where the arguments, and the package variables that the reading takes, are together of bulk at most 1048576: NARROWER than '..Said'. Prove '..Said' where nothing that the law and all that it calls make is longer than what came in: it says more and counts as full. Else prove '..UptoSaid'. A law counts once. -/
mutual
def uptoBulk {H : Type} : DataW H → Nat
  | .lit (.string bytes) => bytes.length + 1
  | .lit _ => 1
  | .nil => 1
  | .ptr d => uptoBulk d + 1
  | .slice elems spare => uptoBulkAll elems + uptoBulkAll spare + 1
  | .agg parts => uptoBulkAll parts + 1
  | .iface _ d => uptoBulk d + 1
  | .map entries => uptoBulkEntries entries + 1
  | .held _ => 1
def uptoBulkAll {H : Type} : List (DataW H) → Nat
  | [] => 0
  | d :: r => uptoBulk d + uptoBulkAll r
def uptoBulkEntries {H : Type} : List (Lit × DataW H) → Nat
  | [] => 0
  | x :: r => uptoBulkEntry x + uptoBulkEntries r
def uptoBulkEntry {H : Type} : Lit × DataW H → Nat
  | (.string bytes, d) => bytes.length + uptoBulk d + 1
  | (_, d) => uptoBulk d + 1
 end
def uptoSmall : (H : Type) → List (DataW H) → Bool := fun _ ds => decide (uptoBulkAll ds ≤ 1048576)
def OpenSpec.upto (s : _root_.Go.ChangeSpec) : _root_.Go.OpenSpec := { _root_.Go.OpenSpec.ofChange s with cond := some uptoSmall }

/-- 'laws.FnExactValidLayout', WHERE WHAT IT READS IS OF BULK AT MOST 1048576: true; the input reads as it did. -/
def fnExactValidLayoutUptoRow : OpenClaim := { program := "ytjglnljogpdcnaa", sum := "aeecb391ba294667d11f80607e93309a20c48e77550ad9ca894b2b15f724c22c", func := "loop.example/g01012/laws.FnExactValidLayout", spec := "fnExactValidLayout", unfollowed := true, recurses := true, apart := false, narrowed := true }
def FnExactValidLayoutUptoSaid : Prop := fnExactValidLayoutUptoRow.holds Try.pinned (OpenSpec.upto fnExactValidLayoutSpec)

/-- 'laws.FnExactItemNamed', WHERE WHAT IT READS IS OF BULK AT MOST 1048576: true; the input reads as it did. -/
def fnExactItemNamedUptoRow : OpenClaim := { program := "ytjglnljogpdcnaa", sum := "aeecb391ba294667d11f80607e93309a20c48e77550ad9ca894b2b15f724c22c", func := "loop.example/g01012/laws.FnExactItemNamed", spec := "fnExactItemNamed", unfollowed := true, recurses := true, apart := false, narrowed := true }
def FnExactItemNamedUptoSaid : Prop := fnExactItemNamedUptoRow.holds Try.pinned (OpenSpec.upto fnExactItemNamedSpec)

/-- 'laws.FnExactAddItem', WHERE WHAT IT READS IS OF BULK AT MOST 1048576: true; the input reads as it did. -/
def fnExactAddItemUptoRow : OpenClaim := { program := "ytjglnljogpdcnaa", sum := "aeecb391ba294667d11f80607e93309a20c48e77550ad9ca894b2b15f724c22c", func := "loop.example/g01012/laws.FnExactAddItem", spec := "fnExactAddItem", unfollowed := true, recurses := true, apart := false, narrowed := true }
def FnExactAddItemUptoSaid : Prop := fnExactAddItemUptoRow.holds Try.pinned (OpenSpec.upto fnExactAddItemSpec)

/-- 'laws.FnExactFreeColumns', WHERE WHAT IT READS IS OF BULK AT MOST 1048576: true; the input reads as it did. -/
def fnExactFreeColumnsUptoRow : OpenClaim := { program := "ytjglnljogpdcnaa", sum := "aeecb391ba294667d11f80607e93309a20c48e77550ad9ca894b2b15f724c22c", func := "loop.example/g01012/laws.FnExactFreeColumns", spec := "fnExactFreeColumns", unfollowed := true, recurses := true, apart := false, narrowed := true }
def FnExactFreeColumnsUptoSaid : Prop := fnExactFreeColumnsUptoRow.holds Try.pinned (OpenSpec.upto fnExactFreeColumnsSpec)

/-- 'laws.FnCards', WHERE WHAT IT READS IS OF BULK AT MOST 1048576: true; the input reads as it did. -/
def fnCardsUptoRow : OpenClaim := { program := "ytjglnljogpdcnaa", sum := "aeecb391ba294667d11f80607e93309a20c48e77550ad9ca894b2b15f724c22c", func := "loop.example/g01012/laws.FnCards", spec := "fnCards", inPlace := ["internal/abi.NoEscape"], apart := false, narrowed := true }
def FnCardsUptoSaid : Prop := fnCardsUptoRow.holds Try.pinned (OpenSpec.upto fnCardsSpec)

end Rows
end Go.Proofs.Ytjglnljogpdcnaa
