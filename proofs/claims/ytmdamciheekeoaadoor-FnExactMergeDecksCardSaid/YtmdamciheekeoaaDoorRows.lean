/-
  NARROWER THAN 'FOR EVERY INPUT', by the rows' own cells (each row's printed sentence says how): FnExactMergeDecks: laid · FnExactMatchDecks: laid · FnExactSequenceErrors: laid · FnExactSelectEqual: laid · FnExactSelectBetween: laid · FnExactGroupsOf: laid · FnExactFirstOfGroups: laid · FnExactInsertCard: laid · FnExactFindCards: laid.
  DERIVED. THE GIVEN ROWS OF THIS SEAT. 9 by the template 'for every input the law returns true; each argument reads behind the call as it read before'; 0 by the template 'total and deterministic' (their statements: YtmdamciheekeoaaDoorTotals.lean).
  GIVEN WITH THE SEED: the statements are not yours to turn. If you find one false, say at which input.
  Laid BY PROGRAM, IN A SANDBOX (cutbox-rows.mjs): the forced cells as the released guide's own fill.sh prints them over the translation 6e792a722d171531… (all of the seat's roots in one cut). By AI agents, Wed Nov 11 2026. No macro, syntax, notation, axiom, sorry.
-/
import Derived.Test.YtmdamciheekeoaaDoorChecked
import GoSem.Claim
import GoSem.ClaimJoined
import GoSem.ClaimMapViews
import Derived.JoinedTies
import Derived.KernelRfl
namespace Go.Proofs.YtmdamciheekeoaaDoor
/- THE CELL 'sum', in the pinned program and in every row, IS THE sha256 OF THE DUMP (.gsa) THAT YtmdamciheekeoaaDoorProg.lean LOADS. Nothing in Lean hashes anything: it is a label: what it is worth is what the hold of that sum in a sandbox is worth. -/
noncomputable def Tryd.pinned : Pinned := { name := "ytmdamciheekeoaadoor", sum := "6e792a722d171531c5f6503a541ec29ef3c9c2b5c5b72a9c2a3ef58b71916d7f", checked := Tryd.checked }
namespace Rows
def none {H : Type} : Left H := { results := [], args := [] }

/- WHAT THE LISTED PACKAGE-LEVEL VARIABLES READ AS WHEN THE CALL BEGINS. Each datum BY PROGRAM (the guide's laid-datum.mjs) off the statement by which the dump's own 'gosem.cut.vars' lays the variable. In a bare row this is a premise. The card (YtmdamciheekeoaaDoorCards.lean) ties it to the program's text. -/
def laid_loop_example_g01012_impl_places {H : Type} : DataW H := .agg [.lit (.int .i8 0), .lit (.int .i8 0), .lit (.int .i8 0), .lit (.int .i8 0), .lit (.int .i8 0), .lit (.int .i8 0), .lit (.int .i8 0), .lit (.int .i8 0), .lit (.int .i8 0), .lit (.int .i8 0), .lit (.int .i8 0), .lit (.int .i8 0), .lit (.int .i8 0), .lit (.int .i8 0), .lit (.int .i8 0), .lit (.int .i8 0), .lit (.int .i8 0), .lit (.int .i8 0), .lit (.int .i8 0), .lit (.int .i8 0), .lit (.int .i8 0), .lit (.int .i8 0), .lit (.int .i8 0), .lit (.int .i8 0), .lit (.int .i8 0), .lit (.int .i8 0), .lit (.int .i8 0), .lit (.int .i8 0), .lit (.int .i8 0), .lit (.int .i8 0), .lit (.int .i8 0), .lit (.int .i8 0), .lit (.int .i8 1), .lit (.int .i8 0), .lit (.int .i8 0), .lit (.int .i8 0), .lit (.int .i8 0), .lit (.int .i8 0), .lit (.int .i8 2), .lit (.int .i8 0), .lit (.int .i8 0), .lit (.int .i8 0), .lit (.int .i8 0), .lit (.int .i8 0), .lit (.int .i8 0), .lit (.int .i8 12), .lit (.int .i8 0), .lit (.int .i8 22), .lit (.int .i8 31), .lit (.int .i8 32), .lit (.int .i8 33), .lit (.int .i8 34), .lit (.int .i8 35), .lit (.int .i8 36), .lit (.int .i8 37), .lit (.int .i8 38), .lit (.int .i8 39), .lit (.int .i8 40), .lit (.int .i8 0), .lit (.int .i8 0), .lit (.int .i8 0), .lit (.int .i8 0), .lit (.int .i8 0), .lit (.int .i8 0), .lit (.int .i8 0), .lit (.int .i8 3), .lit (.int .i8 4), .lit (.int .i8 5), .lit (.int .i8 6), .lit (.int .i8 7), .lit (.int .i8 8), .lit (.int .i8 9), .lit (.int .i8 10), .lit (.int .i8 11), .lit (.int .i8 13), .lit (.int .i8 14), .lit (.int .i8 15), .lit (.int .i8 16), .lit (.int .i8 17), .lit (.int .i8 18), .lit (.int .i8 19), .lit (.int .i8 20), .lit (.int .i8 21), .lit (.int .i8 23), .lit (.int .i8 24), .lit (.int .i8 25), .lit (.int .i8 26), .lit (.int .i8 27), .lit (.int .i8 28), .lit (.int .i8 29), .lit (.int .i8 30)]

/-- 'laws.FnExactMergeDecks': WHATEVER THE INPUT: true; the input reads as it did. -/
def fnExactMergeDecksSpec : ChangeSpec := { name := "fnExactMergeDecks", vars := ["loop.example/g01012/impl.places"], fn := fun _ => fun
  | [d1, d2, d3, g1] => { results := [.lit (.bool true)], args := [d1, d2, d3], vars := [g1] }
  | _ => none }
def fnExactMergeDecksRow : OpenClaim := { program := "ytmdamciheekeoaadoor", sum := "6e792a722d171531c5f6503a541ec29ef3c9c2b5c5b72a9c2a3ef58b71916d7f", func := "loop.example/g01012/laws.FnExactMergeDecks", spec := "fnExactMergeDecks", unfollowed := true, recurses := true, named := ["loop.example/g01012/impl.places"], apart := false, laid := [("loop.example/g01012/impl.places", laid_loop_example_g01012_impl_places)] }
def FnExactMergeDecksSaid : Prop := fnExactMergeDecksRow.holds Tryd.pinned (OpenSpec.ofChange fnExactMergeDecksSpec)

/-- ITS FALSE NEIGHBOUR: 'it returns false'. Refute it at one input. -/
def fnExactMergeDecksWrong : ChangeSpec := { name := "fnExactMergeDecks", vars := ["loop.example/g01012/impl.places"], fn := fun _ => fun
  | [d1, d2, d3, g1] => { results := [.lit (.bool false)], args := [d1, d2, d3], vars := [g1] }
  | _ => none }
def FnExactMergeDecksWrongFalsely : Prop := fnExactMergeDecksRow.holds Tryd.pinned (OpenSpec.ofChange fnExactMergeDecksWrong)

/-- 'laws.FnExactMatchDecks': WHATEVER THE INPUT: true; the input reads as it did. -/
def fnExactMatchDecksSpec : ChangeSpec := { name := "fnExactMatchDecks", vars := ["loop.example/g01012/impl.places"], fn := fun _ => fun
  | [d1, d2, d3, g1] => { results := [.lit (.bool true)], args := [d1, d2, d3], vars := [g1] }
  | _ => none }
def fnExactMatchDecksRow : OpenClaim := { program := "ytmdamciheekeoaadoor", sum := "6e792a722d171531c5f6503a541ec29ef3c9c2b5c5b72a9c2a3ef58b71916d7f", func := "loop.example/g01012/laws.FnExactMatchDecks", spec := "fnExactMatchDecks", unfollowed := true, recurses := true, named := ["loop.example/g01012/impl.places"], apart := false, laid := [("loop.example/g01012/impl.places", laid_loop_example_g01012_impl_places)] }
def FnExactMatchDecksSaid : Prop := fnExactMatchDecksRow.holds Tryd.pinned (OpenSpec.ofChange fnExactMatchDecksSpec)

/-- ITS FALSE NEIGHBOUR: 'it returns false'. Refute it at one input. -/
def fnExactMatchDecksWrong : ChangeSpec := { name := "fnExactMatchDecks", vars := ["loop.example/g01012/impl.places"], fn := fun _ => fun
  | [d1, d2, d3, g1] => { results := [.lit (.bool false)], args := [d1, d2, d3], vars := [g1] }
  | _ => none }
def FnExactMatchDecksWrongFalsely : Prop := fnExactMatchDecksRow.holds Tryd.pinned (OpenSpec.ofChange fnExactMatchDecksWrong)

/-- 'laws.FnExactSequenceErrors': WHATEVER THE INPUT: true; the input reads as it did. -/
def fnExactSequenceErrorsSpec : ChangeSpec := { name := "fnExactSequenceErrors", vars := ["loop.example/g01012/impl.places"], fn := fun _ => fun
  | [d1, d2, g1] => { results := [.lit (.bool true)], args := [d1, d2], vars := [g1] }
  | _ => none }
def fnExactSequenceErrorsRow : OpenClaim := { program := "ytmdamciheekeoaadoor", sum := "6e792a722d171531c5f6503a541ec29ef3c9c2b5c5b72a9c2a3ef58b71916d7f", func := "loop.example/g01012/laws.FnExactSequenceErrors", spec := "fnExactSequenceErrors", unfollowed := true, recurses := true, named := ["loop.example/g01012/impl.places"], apart := false, laid := [("loop.example/g01012/impl.places", laid_loop_example_g01012_impl_places)] }
def FnExactSequenceErrorsSaid : Prop := fnExactSequenceErrorsRow.holds Tryd.pinned (OpenSpec.ofChange fnExactSequenceErrorsSpec)

/-- ITS FALSE NEIGHBOUR: 'it returns false'. Refute it at one input. -/
def fnExactSequenceErrorsWrong : ChangeSpec := { name := "fnExactSequenceErrors", vars := ["loop.example/g01012/impl.places"], fn := fun _ => fun
  | [d1, d2, g1] => { results := [.lit (.bool false)], args := [d1, d2], vars := [g1] }
  | _ => none }
def FnExactSequenceErrorsWrongFalsely : Prop := fnExactSequenceErrorsRow.holds Tryd.pinned (OpenSpec.ofChange fnExactSequenceErrorsWrong)

/-- 'laws.FnExactSelectEqual': WHATEVER THE INPUT: true; the input reads as it did. -/
def fnExactSelectEqualSpec : ChangeSpec := { name := "fnExactSelectEqual", vars := ["loop.example/g01012/impl.places"], fn := fun _ => fun
  | [d1, d2, d3, g1] => { results := [.lit (.bool true)], args := [d1, d2, d3], vars := [g1] }
  | _ => none }
def fnExactSelectEqualRow : OpenClaim := { program := "ytmdamciheekeoaadoor", sum := "6e792a722d171531c5f6503a541ec29ef3c9c2b5c5b72a9c2a3ef58b71916d7f", func := "loop.example/g01012/laws.FnExactSelectEqual", spec := "fnExactSelectEqual", unfollowed := true, recurses := true, named := ["loop.example/g01012/impl.places"], apart := false, laid := [("loop.example/g01012/impl.places", laid_loop_example_g01012_impl_places)] }
def FnExactSelectEqualSaid : Prop := fnExactSelectEqualRow.holds Tryd.pinned (OpenSpec.ofChange fnExactSelectEqualSpec)

/-- ITS FALSE NEIGHBOUR: 'it returns false'. Refute it at one input. -/
def fnExactSelectEqualWrong : ChangeSpec := { name := "fnExactSelectEqual", vars := ["loop.example/g01012/impl.places"], fn := fun _ => fun
  | [d1, d2, d3, g1] => { results := [.lit (.bool false)], args := [d1, d2, d3], vars := [g1] }
  | _ => none }
def FnExactSelectEqualWrongFalsely : Prop := fnExactSelectEqualRow.holds Tryd.pinned (OpenSpec.ofChange fnExactSelectEqualWrong)

/-- 'laws.FnExactSelectBetween': WHATEVER THE INPUT: true; the input reads as it did. -/
def fnExactSelectBetweenSpec : ChangeSpec := { name := "fnExactSelectBetween", vars := ["loop.example/g01012/impl.places"], fn := fun _ => fun
  | [d1, d2, d3, d4, g1] => { results := [.lit (.bool true)], args := [d1, d2, d3, d4], vars := [g1] }
  | _ => none }
def fnExactSelectBetweenRow : OpenClaim := { program := "ytmdamciheekeoaadoor", sum := "6e792a722d171531c5f6503a541ec29ef3c9c2b5c5b72a9c2a3ef58b71916d7f", func := "loop.example/g01012/laws.FnExactSelectBetween", spec := "fnExactSelectBetween", unfollowed := true, recurses := true, named := ["loop.example/g01012/impl.places"], apart := false, laid := [("loop.example/g01012/impl.places", laid_loop_example_g01012_impl_places)] }
def FnExactSelectBetweenSaid : Prop := fnExactSelectBetweenRow.holds Tryd.pinned (OpenSpec.ofChange fnExactSelectBetweenSpec)

/-- ITS FALSE NEIGHBOUR: 'it returns false'. Refute it at one input. -/
def fnExactSelectBetweenWrong : ChangeSpec := { name := "fnExactSelectBetween", vars := ["loop.example/g01012/impl.places"], fn := fun _ => fun
  | [d1, d2, d3, d4, g1] => { results := [.lit (.bool false)], args := [d1, d2, d3, d4], vars := [g1] }
  | _ => none }
def FnExactSelectBetweenWrongFalsely : Prop := fnExactSelectBetweenRow.holds Tryd.pinned (OpenSpec.ofChange fnExactSelectBetweenWrong)

/-- 'laws.FnExactGroupsOf': WHATEVER THE INPUT: true; the input reads as it did. -/
def fnExactGroupsOfSpec : ChangeSpec := { name := "fnExactGroupsOf", vars := ["loop.example/g01012/impl.places"], fn := fun _ => fun
  | [d1, d2, g1] => { results := [.lit (.bool true)], args := [d1, d2], vars := [g1] }
  | _ => none }
def fnExactGroupsOfRow : OpenClaim := { program := "ytmdamciheekeoaadoor", sum := "6e792a722d171531c5f6503a541ec29ef3c9c2b5c5b72a9c2a3ef58b71916d7f", func := "loop.example/g01012/laws.FnExactGroupsOf", spec := "fnExactGroupsOf", unfollowed := true, recurses := true, named := ["loop.example/g01012/impl.places"], apart := false, laid := [("loop.example/g01012/impl.places", laid_loop_example_g01012_impl_places)] }
def FnExactGroupsOfSaid : Prop := fnExactGroupsOfRow.holds Tryd.pinned (OpenSpec.ofChange fnExactGroupsOfSpec)

/-- ITS FALSE NEIGHBOUR: 'it returns false'. Refute it at one input. -/
def fnExactGroupsOfWrong : ChangeSpec := { name := "fnExactGroupsOf", vars := ["loop.example/g01012/impl.places"], fn := fun _ => fun
  | [d1, d2, g1] => { results := [.lit (.bool false)], args := [d1, d2], vars := [g1] }
  | _ => none }
def FnExactGroupsOfWrongFalsely : Prop := fnExactGroupsOfRow.holds Tryd.pinned (OpenSpec.ofChange fnExactGroupsOfWrong)

/-- 'laws.FnExactFirstOfGroups': WHATEVER THE INPUT: true; the input reads as it did. -/
def fnExactFirstOfGroupsSpec : ChangeSpec := { name := "fnExactFirstOfGroups", vars := ["loop.example/g01012/impl.places"], fn := fun _ => fun
  | [d1, d2, g1] => { results := [.lit (.bool true)], args := [d1, d2], vars := [g1] }
  | _ => none }
def fnExactFirstOfGroupsRow : OpenClaim := { program := "ytmdamciheekeoaadoor", sum := "6e792a722d171531c5f6503a541ec29ef3c9c2b5c5b72a9c2a3ef58b71916d7f", func := "loop.example/g01012/laws.FnExactFirstOfGroups", spec := "fnExactFirstOfGroups", unfollowed := true, recurses := true, named := ["loop.example/g01012/impl.places"], apart := false, laid := [("loop.example/g01012/impl.places", laid_loop_example_g01012_impl_places)] }
def FnExactFirstOfGroupsSaid : Prop := fnExactFirstOfGroupsRow.holds Tryd.pinned (OpenSpec.ofChange fnExactFirstOfGroupsSpec)

/-- ITS FALSE NEIGHBOUR: 'it returns false'. Refute it at one input. -/
def fnExactFirstOfGroupsWrong : ChangeSpec := { name := "fnExactFirstOfGroups", vars := ["loop.example/g01012/impl.places"], fn := fun _ => fun
  | [d1, d2, g1] => { results := [.lit (.bool false)], args := [d1, d2], vars := [g1] }
  | _ => none }
def FnExactFirstOfGroupsWrongFalsely : Prop := fnExactFirstOfGroupsRow.holds Tryd.pinned (OpenSpec.ofChange fnExactFirstOfGroupsWrong)

/-- 'laws.FnExactInsertCard': WHATEVER THE INPUT: true; the input reads as it did. -/
def fnExactInsertCardSpec : ChangeSpec := { name := "fnExactInsertCard", vars := ["loop.example/g01012/impl.places"], fn := fun _ => fun
  | [d1, d2, d3, g1] => { results := [.lit (.bool true)], args := [d1, d2, d3], vars := [g1] }
  | _ => none }
def fnExactInsertCardRow : OpenClaim := { program := "ytmdamciheekeoaadoor", sum := "6e792a722d171531c5f6503a541ec29ef3c9c2b5c5b72a9c2a3ef58b71916d7f", func := "loop.example/g01012/laws.FnExactInsertCard", spec := "fnExactInsertCard", unfollowed := true, recurses := true, named := ["loop.example/g01012/impl.places"], apart := false, laid := [("loop.example/g01012/impl.places", laid_loop_example_g01012_impl_places)] }
def FnExactInsertCardSaid : Prop := fnExactInsertCardRow.holds Tryd.pinned (OpenSpec.ofChange fnExactInsertCardSpec)

/-- ITS FALSE NEIGHBOUR: 'it returns false'. Refute it at one input. -/
def fnExactInsertCardWrong : ChangeSpec := { name := "fnExactInsertCard", vars := ["loop.example/g01012/impl.places"], fn := fun _ => fun
  | [d1, d2, d3, g1] => { results := [.lit (.bool false)], args := [d1, d2, d3], vars := [g1] }
  | _ => none }
def FnExactInsertCardWrongFalsely : Prop := fnExactInsertCardRow.holds Tryd.pinned (OpenSpec.ofChange fnExactInsertCardWrong)

/-- 'laws.FnExactFindCards': WHATEVER THE INPUT: true; the input reads as it did. -/
def fnExactFindCardsSpec : ChangeSpec := { name := "fnExactFindCards", vars := ["loop.example/g01012/impl.places"], fn := fun _ => fun
  | [d1, d2, d3, g1] => { results := [.lit (.bool true)], args := [d1, d2, d3], vars := [g1] }
  | _ => none }
def fnExactFindCardsRow : OpenClaim := { program := "ytmdamciheekeoaadoor", sum := "6e792a722d171531c5f6503a541ec29ef3c9c2b5c5b72a9c2a3ef58b71916d7f", func := "loop.example/g01012/laws.FnExactFindCards", spec := "fnExactFindCards", unfollowed := true, recurses := true, named := ["loop.example/g01012/impl.places"], apart := false, laid := [("loop.example/g01012/impl.places", laid_loop_example_g01012_impl_places)] }
def FnExactFindCardsSaid : Prop := fnExactFindCardsRow.holds Tryd.pinned (OpenSpec.ofChange fnExactFindCardsSpec)

/-- ITS FALSE NEIGHBOUR: 'it returns false'. Refute it at one input. -/
def fnExactFindCardsWrong : ChangeSpec := { name := "fnExactFindCards", vars := ["loop.example/g01012/impl.places"], fn := fun _ => fun
  | [d1, d2, d3, g1] => { results := [.lit (.bool false)], args := [d1, d2, d3], vars := [g1] }
  | _ => none }
def FnExactFindCardsWrongFalsely : Prop := fnExactFindCardsRow.holds Tryd.pinned (OpenSpec.ofChange fnExactFindCardsWrong)

/- THE SECOND FORM. 'bulk': how many values and letters a reading holds, each counted each time it is reached (what is shared counts as often as it is met; a slice's spare places count too). A statement '..UptoSaid' is the law's where the arguments, and the package variables that the reading takes, are together of bulk at most 1048576: NARROWER than '..Said'. Prove '..Said' where nothing that the law and all that it calls make is longer than what came in: it says more and counts as full. Else prove '..UptoSaid'. A law counts once. -/
mutual
def uptoBulk {H : Type} : DataW H → Nat
  | .lit (.string bytes) => bytes.length + 1
  | .lit _ => 1
  | .nil => 1
  | .ptr d => uptoBulk d + 1
  | .slice elems spare => uptoBulkAll elems + uptoBulkAll spare + 1
  | .agg parts => uptoBulkAll parts + 1
  | .iface _ d => uptoBulk d + 1
  | .map entries => uptoBulkEntries entries + 1
  | .held _ => 1
def uptoBulkAll {H : Type} : List (DataW H) → Nat
  | [] => 0
  | d :: r => uptoBulk d + uptoBulkAll r
def uptoBulkEntries {H : Type} : List (Lit × DataW H) → Nat
  | [] => 0
  | x :: r => uptoBulkEntry x + uptoBulkEntries r
def uptoBulkEntry {H : Type} : Lit × DataW H → Nat
  | (.string bytes, d) => bytes.length + uptoBulk d + 1
  | (_, d) => uptoBulk d + 1
 end
def uptoSmall : (H : Type) → List (DataW H) → Bool := fun _ ds => decide (uptoBulkAll ds ≤ 1048576)
def OpenSpec.upto (s : _root_.Go.ChangeSpec) : _root_.Go.OpenSpec := { _root_.Go.OpenSpec.ofChange s with cond := some uptoSmall }

/-- 'laws.FnExactMergeDecks', WHERE WHAT IT READS IS OF BULK AT MOST 1048576: true; the input reads as it did. -/
def fnExactMergeDecksUptoRow : OpenClaim := { program := "ytmdamciheekeoaadoor", sum := "6e792a722d171531c5f6503a541ec29ef3c9c2b5c5b72a9c2a3ef58b71916d7f", func := "loop.example/g01012/laws.FnExactMergeDecks", spec := "fnExactMergeDecks", unfollowed := true, recurses := true, named := ["loop.example/g01012/impl.places"], apart := false, laid := [("loop.example/g01012/impl.places", laid_loop_example_g01012_impl_places)], narrowed := true }
def FnExactMergeDecksUptoSaid : Prop := fnExactMergeDecksUptoRow.holds Tryd.pinned (OpenSpec.upto fnExactMergeDecksSpec)

/-- 'laws.FnExactMatchDecks', WHERE WHAT IT READS IS OF BULK AT MOST 1048576: true; the input reads as it did. -/
def fnExactMatchDecksUptoRow : OpenClaim := { program := "ytmdamciheekeoaadoor", sum := "6e792a722d171531c5f6503a541ec29ef3c9c2b5c5b72a9c2a3ef58b71916d7f", func := "loop.example/g01012/laws.FnExactMatchDecks", spec := "fnExactMatchDecks", unfollowed := true, recurses := true, named := ["loop.example/g01012/impl.places"], apart := false, laid := [("loop.example/g01012/impl.places", laid_loop_example_g01012_impl_places)], narrowed := true }
def FnExactMatchDecksUptoSaid : Prop := fnExactMatchDecksUptoRow.holds Tryd.pinned (OpenSpec.upto fnExactMatchDecksSpec)

/-- 'laws.FnExactSequenceErrors', WHERE WHAT IT READS IS OF BULK AT MOST 1048576: true; the input reads as it did. -/
def fnExactSequenceErrorsUptoRow : OpenClaim := { program := "ytmdamciheekeoaadoor", sum := "6e792a722d171531c5f6503a541ec29ef3c9c2b5c5b72a9c2a3ef58b71916d7f", func := "loop.example/g01012/laws.FnExactSequenceErrors", spec := "fnExactSequenceErrors", unfollowed := true, recurses := true, named := ["loop.example/g01012/impl.places"], apart := false, laid := [("loop.example/g01012/impl.places", laid_loop_example_g01012_impl_places)], narrowed := true }
def FnExactSequenceErrorsUptoSaid : Prop := fnExactSequenceErrorsUptoRow.holds Tryd.pinned (OpenSpec.upto fnExactSequenceErrorsSpec)

/-- 'laws.FnExactSelectEqual', WHERE WHAT IT READS IS OF BULK AT MOST 1048576: true; the input reads as it did. -/
def fnExactSelectEqualUptoRow : OpenClaim := { program := "ytmdamciheekeoaadoor", sum := "6e792a722d171531c5f6503a541ec29ef3c9c2b5c5b72a9c2a3ef58b71916d7f", func := "loop.example/g01012/laws.FnExactSelectEqual", spec := "fnExactSelectEqual", unfollowed := true, recurses := true, named := ["loop.example/g01012/impl.places"], apart := false, laid := [("loop.example/g01012/impl.places", laid_loop_example_g01012_impl_places)], narrowed := true }
def FnExactSelectEqualUptoSaid : Prop := fnExactSelectEqualUptoRow.holds Tryd.pinned (OpenSpec.upto fnExactSelectEqualSpec)

/-- 'laws.FnExactSelectBetween', WHERE WHAT IT READS IS OF BULK AT MOST 1048576: true; the input reads as it did. -/
def fnExactSelectBetweenUptoRow : OpenClaim := { program := "ytmdamciheekeoaadoor", sum := "6e792a722d171531c5f6503a541ec29ef3c9c2b5c5b72a9c2a3ef58b71916d7f", func := "loop.example/g01012/laws.FnExactSelectBetween", spec := "fnExactSelectBetween", unfollowed := true, recurses := true, named := ["loop.example/g01012/impl.places"], apart := false, laid := [("loop.example/g01012/impl.places", laid_loop_example_g01012_impl_places)], narrowed := true }
def FnExactSelectBetweenUptoSaid : Prop := fnExactSelectBetweenUptoRow.holds Tryd.pinned (OpenSpec.upto fnExactSelectBetweenSpec)

/-- 'laws.FnExactGroupsOf', WHERE WHAT IT READS IS OF BULK AT MOST 1048576: true; the input reads as it did. -/
def fnExactGroupsOfUptoRow : OpenClaim := { program := "ytmdamciheekeoaadoor", sum := "6e792a722d171531c5f6503a541ec29ef3c9c2b5c5b72a9c2a3ef58b71916d7f", func := "loop.example/g01012/laws.FnExactGroupsOf", spec := "fnExactGroupsOf", unfollowed := true, recurses := true, named := ["loop.example/g01012/impl.places"], apart := false, laid := [("loop.example/g01012/impl.places", laid_loop_example_g01012_impl_places)], narrowed := true }
def FnExactGroupsOfUptoSaid : Prop := fnExactGroupsOfUptoRow.holds Tryd.pinned (OpenSpec.upto fnExactGroupsOfSpec)

/-- 'laws.FnExactFirstOfGroups', WHERE WHAT IT READS IS OF BULK AT MOST 1048576: true; the input reads as it did. -/
def fnExactFirstOfGroupsUptoRow : OpenClaim := { program := "ytmdamciheekeoaadoor", sum := "6e792a722d171531c5f6503a541ec29ef3c9c2b5c5b72a9c2a3ef58b71916d7f", func := "loop.example/g01012/laws.FnExactFirstOfGroups", spec := "fnExactFirstOfGroups", unfollowed := true, recurses := true, named := ["loop.example/g01012/impl.places"], apart := false, laid := [("loop.example/g01012/impl.places", laid_loop_example_g01012_impl_places)], narrowed := true }
def FnExactFirstOfGroupsUptoSaid : Prop := fnExactFirstOfGroupsUptoRow.holds Tryd.pinned (OpenSpec.upto fnExactFirstOfGroupsSpec)

/-- 'laws.FnExactInsertCard', WHERE WHAT IT READS IS OF BULK AT MOST 1048576: true; the input reads as it did. -/
def fnExactInsertCardUptoRow : OpenClaim := { program := "ytmdamciheekeoaadoor", sum := "6e792a722d171531c5f6503a541ec29ef3c9c2b5c5b72a9c2a3ef58b71916d7f", func := "loop.example/g01012/laws.FnExactInsertCard", spec := "fnExactInsertCard", unfollowed := true, recurses := true, named := ["loop.example/g01012/impl.places"], apart := false, laid := [("loop.example/g01012/impl.places", laid_loop_example_g01012_impl_places)], narrowed := true }
def FnExactInsertCardUptoSaid : Prop := fnExactInsertCardUptoRow.holds Tryd.pinned (OpenSpec.upto fnExactInsertCardSpec)

/-- 'laws.FnExactFindCards', WHERE WHAT IT READS IS OF BULK AT MOST 1048576: true; the input reads as it did. -/
def fnExactFindCardsUptoRow : OpenClaim := { program := "ytmdamciheekeoaadoor", sum := "6e792a722d171531c5f6503a541ec29ef3c9c2b5c5b72a9c2a3ef58b71916d7f", func := "loop.example/g01012/laws.FnExactFindCards", spec := "fnExactFindCards", unfollowed := true, recurses := true, named := ["loop.example/g01012/impl.places"], apart := false, laid := [("loop.example/g01012/impl.places", laid_loop_example_g01012_impl_places)], narrowed := true }
def FnExactFindCardsUptoSaid : Prop := fnExactFindCardsUptoRow.holds Tryd.pinned (OpenSpec.upto fnExactFindCardsSpec)

end Rows
end Go.Proofs.YtmdamciheekeoaaDoor
