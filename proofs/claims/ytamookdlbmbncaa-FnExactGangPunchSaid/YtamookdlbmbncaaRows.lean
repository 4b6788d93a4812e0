/-
  No cell of these rows narrows 'for every input' (looked for: loops, veiled, ifaces, maps, wideKeys, modest, calm, conditions, laid).
  DERIVED. THE GIVEN ROWS OF THIS SEAT. 9 by the template 'for every input the law returns true; each argument reads behind the call as it read before'; 0 by the template 'total and deterministic' (their statements: YtamookdlbmbncaaTotals.lean).
  GIVEN WITH THE SEED: the statements are not yours to turn. If you find one false, say at which input.
  Laid BY PROGRAM, IN A SANDBOX (cutbox-rows.mjs): the forced cells as the released guide's own fill.sh prints them over the translation 7a0cd3632e1fba7b… (all of the seat's roots in one cut). By AI agents, Wed Nov 11 2026. No macro, syntax, notation, axiom, sorry.
-/
import Derived.Test.YtamookdlbmbncaaChecked
import GoSem.Claim
import GoSem.ClaimJoined
import GoSem.ClaimMapViews
import Derived.JoinedTies
import Derived.KernelRfl
namespace Go.Proofs.Ytamookdlbmbncaa
/- THE CELL 'sum', in the pinned program and in every row, IS THE sha256 OF THE DUMP (.gsa) THAT YtamookdlbmbncaaProg.lean LOADS. Nothing in Lean hashes anything: it is a label: what it is worth is what the hold of that sum in a sandbox is worth. -/
noncomputable def Try.pinned : Pinned := { name := "ytamookdlbmbncaa", sum := "7a0cd3632e1fba7bbbe517a9c991aa2d05da5334497d5958da6984e3a5ba35ba", checked := Try.checked }
namespace Rows
def none {H : Type} : Left H := { results := [], args := [] }

/-- 'laws.FnExactValidCopies': WHATEVER THE INPUT: true; the input reads as it did. -/
def fnExactValidCopiesSpec : ChangeSpec := { name := "fnExactValidCopies", fn := fun _ => fun
  | [d1, d2, d3] => { results := [.lit (.bool true)], args := [d1, d2, d3] }
  | _ => none }
def fnExactValidCopiesRow : OpenClaim := { program := "ytamookdlbmbncaa", sum := "7a0cd3632e1fba7bbbe517a9c991aa2d05da5334497d5958da6984e3a5ba35ba", func := "loop.example/g01012/laws.FnExactValidCopies", spec := "fnExactValidCopies", apart := false }
def FnExactValidCopiesSaid : Prop := fnExactValidCopiesRow.holds Try.pinned (OpenSpec.ofChange fnExactValidCopiesSpec)

/-- ITS FALSE NEIGHBOUR: 'it returns false'. Refute it at one input. -/
def fnExactValidCopiesWrong : ChangeSpec := { name := "fnExactValidCopies", fn := fun _ => fun
  | [d1, d2, d3] => { results := [.lit (.bool false)], args := [d1, d2, d3] }
  | _ => none }
def FnExactValidCopiesWrongFalsely : Prop := fnExactValidCopiesRow.holds Try.pinned (OpenSpec.ofChange fnExactValidCopiesWrong)

/-- 'laws.FnExactReproduceCard': WHATEVER THE INPUT: true; the input reads as it did. -/
def fnExactReproduceCardSpec : ChangeSpec := { name := "fnExactReproduceCard", fn := fun _ => fun
  | [d1, d2, d3] => { results := [.lit (.bool true)], args := [d1, d2, d3] }
  | _ => none }
def fnExactReproduceCardRow : OpenClaim := { program := "ytamookdlbmbncaa", sum := "7a0cd3632e1fba7bbbe517a9c991aa2d05da5334497d5958da6984e3a5ba35ba", func := "loop.example/g01012/laws.FnExactReproduceCard", spec := "fnExactReproduceCard", apart := false }
def FnExactReproduceCardSaid : Prop := fnExactReproduceCardRow.holds Try.pinned (OpenSpec.ofChange fnExactReproduceCardSpec)

/-- ITS FALSE NEIGHBOUR: 'it returns false'. Refute it at one input. -/
def fnExactReproduceCardWrong : ChangeSpec := { name := "fnExactReproduceCard", fn := fun _ => fun
  | [d1, d2, d3] => { results := [.lit (.bool false)], args := [d1, d2, d3] }
  | _ => none }
def FnExactReproduceCardWrongFalsely : Prop := fnExactReproduceCardRow.holds Try.pinned (OpenSpec.ofChange fnExactReproduceCardWrong)

/-- 'laws.FnExactReproduceDeck': WHATEVER THE INPUT: true; the input reads as it did. -/
def fnExactReproduceDeckSpec : ChangeSpec := { name := "fnExactReproduceDeck", fn := fun _ => fun
  | [d1, d2, d3] => { results := [.lit (.bool true)], args := [d1, d2, d3] }
  | _ => none }
def fnExactReproduceDeckRow : OpenClaim := { program := "ytamookdlbmbncaa", sum := "7a0cd3632e1fba7bbbe517a9c991aa2d05da5334497d5958da6984e3a5ba35ba", func := "loop.example/g01012/laws.FnExactReproduceDeck", spec := "fnExactReproduceDeck", apart := false }
def FnExactReproduceDeckSaid : Prop := fnExactReproduceDeckRow.holds Try.pinned (OpenSpec.ofChange fnExactReproduceDeckSpec)

/-- ITS FALSE NEIGHBOUR: 'it returns false'. Refute it at one input. -/
def fnExactReproduceDeckWrong : ChangeSpec := { name := "fnExactReproduceDeck", fn := fun _ => fun
  | [d1, d2, d3] => { results := [.lit (.bool false)], args := [d1, d2, d3] }
  | _ => none }
def FnExactReproduceDeckWrongFalsely : Prop := fnExactReproduceDeckRow.holds Try.pinned (OpenSpec.ofChange fnExactReproduceDeckWrong)

/-- 'laws.FnExactGangPunch': WHATEVER THE INPUT: true; the input reads as it did. -/
def fnExactGangPunchSpec : ChangeSpec := { name := "fnExactGangPunch", fn := fun _ => fun
  | [d1, d2, d3] => { results := [.lit (.bool true)], args := [d1, d2, d3] }
  | _ => none }
def fnExactGangPunchRow : OpenClaim := { program := "ytamookdlbmbncaa", sum := "7a0cd3632e1fba7bbbe517a9c991aa2d05da5334497d5958da6984e3a5ba35ba", func := "loop.example/g01012/laws.FnExactGangPunch", spec := "fnExactGangPunch", apart := false }
def FnExactGangPunchSaid : Prop := fnExactGangPunchRow.holds Try.pinned (OpenSpec.ofChange fnExactGangPunchSpec)

/-- ITS FALSE NEIGHBOUR: 'it returns false'. Refute it at one input. -/
def fnExactGangPunchWrong : ChangeSpec := { name := "fnExactGangPunch", fn := fun _ => fun
  | [d1, d2, d3] => { results := [.lit (.bool false)], args := [d1, d2, d3] }
  | _ => none }
def FnExactGangPunchWrongFalsely : Prop := fnExactGangPunchRow.holds Try.pinned (OpenSpec.ofChange fnExactGangPunchWrong)

/-- 'laws.FnExactInterspersedGang': WHATEVER THE INPUT: true; the input reads as it did. -/
def fnExactInterspersedGangSpec : ChangeSpec := { name := "fnExactInterspersedGang", fn := fun _ => fun
  | [d1, d2, d3] => { results := [.lit (.bool true)], args := [d1, d2, d3] }
  | _ => none }
def fnExactInterspersedGangRow : OpenClaim := { program := "ytamookdlbmbncaa", sum := "7a0cd3632e1fba7bbbe517a9c991aa2d05da5334497d5958da6984e3a5ba35ba", func := "loop.example/g01012/laws.FnExactInterspersedGang", spec := "fnExactInterspersedGang", apart := false }
def FnExactInterspersedGangSaid : Prop := fnExactInterspersedGangRow.holds Try.pinned (OpenSpec.ofChange fnExactInterspersedGangSpec)

/-- ITS FALSE NEIGHBOUR: 'it returns false'. Refute it at one input. -/
def fnExactInterspersedGangWrong : ChangeSpec := { name := "fnExactInterspersedGang", fn := fun _ => fun
  | [d1, d2, d3] => { results := [.lit (.bool false)], args := [d1, d2, d3] }
  | _ => none }
def FnExactInterspersedGangWrongFalsely : Prop := fnExactInterspersedGangRow.holds Try.pinned (OpenSpec.ofChange fnExactInterspersedGangWrong)

/-- 'laws.FnExactCompareCards': WHATEVER THE INPUT: true; the input reads as it did. -/
def fnExactCompareCardsSpec : ChangeSpec := { name := "fnExactCompareCards", fn := fun _ => fun
  | [d1, d2, d3] => { results := [.lit (.bool true)], args := [d1, d2, d3] }
  | _ => none }
def fnExactCompareCardsRow : OpenClaim := { program := "ytamookdlbmbncaa", sum := "7a0cd3632e1fba7bbbe517a9c991aa2d05da5334497d5958da6984e3a5ba35ba", func := "loop.example/g01012/laws.FnExactCompareCards", spec := "fnExactCompareCards", apart := false }
def FnExactCompareCardsSaid : Prop := fnExactCompareCardsRow.holds Try.pinned (OpenSpec.ofChange fnExactCompareCardsSpec)

/-- ITS FALSE NEIGHBOUR: 'it returns false'. Refute it at one input. -/
def fnExactCompareCardsWrong : ChangeSpec := { name := "fnExactCompareCards", fn := fun _ => fun
  | [d1, d2, d3] => { results := [.lit (.bool false)], args := [d1, d2, d3] }
  | _ => none }
def FnExactCompareCardsWrongFalsely : Prop := fnExactCompareCardsRow.holds Try.pinned (OpenSpec.ofChange fnExactCompareCardsWrong)

/-- 'laws.FnExactCompareDecks': WHATEVER THE INPUT: true; the input reads as it did. -/
def fnExactCompareDecksSpec : ChangeSpec := { name := "fnExactCompareDecks", fn := fun _ => fun
  | [d1, d2, d3] => { results := [.lit (.bool true)], args := [d1, d2, d3] }
  | _ => none }
def fnExactCompareDecksRow : OpenClaim := { program := "ytamookdlbmbncaa", sum := "7a0cd3632e1fba7bbbe517a9c991aa2d05da5334497d5958da6984e3a5ba35ba", func := "loop.example/g01012/laws.FnExactCompareDecks", spec := "fnExactCompareDecks", apart := false }
def FnExactCompareDecksSaid : Prop := fnExactCompareDecksRow.holds Try.pinned (OpenSpec.ofChange fnExactCompareDecksSpec)

/-- ITS FALSE NEIGHBOUR: 'it returns false'. Refute it at one input. -/
def fnExactCompareDecksWrong : ChangeSpec := { name := "fnExactCompareDecks", fn := fun _ => fun
  | [d1, d2, d3] => { results := [.lit (.bool false)], args := [d1, d2, d3] }
  | _ => none }
def FnExactCompareDecksWrongFalsely : Prop := fnExactCompareDecksRow.holds Try.pinned (OpenSpec.ofChange fnExactCompareDecksWrong)

/-- 'laws.FnExactBackCopies': WHATEVER THE INPUT: true; the input reads as it did. -/
def fnExactBackCopiesSpec : ChangeSpec := { name := "fnExactBackCopies", fn := fun _ => fun
  | [d] => { results := [.lit (.bool true)], args := [d] }
  | _ => none }
def fnExactBackCopiesRow : OpenClaim := { program := "ytamookdlbmbncaa", sum := "7a0cd3632e1fba7bbbe517a9c991aa2d05da5334497d5958da6984e3a5ba35ba", func := "loop.example/g01012/laws.FnExactBackCopies", spec := "fnExactBackCopies", inPlace := ["internal/reflectlite.ValueOf", "internal/reflectlite.Swapper", "(internal/reflectlite.Value).Len"], unfollowed := true, recurses := true, apart := false }
def FnExactBackCopiesSaid : Prop := fnExactBackCopiesRow.holds Try.pinned (OpenSpec.ofChange fnExactBackCopiesSpec)

/-- ITS FALSE NEIGHBOUR: 'it returns false'. Refute it at one input. -/
def fnExactBackCopiesWrong : ChangeSpec := { name := "fnExactBackCopies", fn := fun _ => fun
  | [d] => { results := [.lit (.bool false)], args := [d] }
  | _ => none }
def FnExactBackCopiesWrongFalsely : Prop := fnExactBackCopiesRow.holds Try.pinned (OpenSpec.ofChange fnExactBackCopiesWrong)

/-- 'laws.FnExactJoinCopies': WHATEVER THE INPUT: true; the input reads as it did. -/
def fnExactJoinCopiesSpec : ChangeSpec := { name := "fnExactJoinCopies", fn := fun _ => fun
  | [d1, d2] => { results := [.lit (.bool true)], args := [d1, d2] }
  | _ => none }
def fnExactJoinCopiesRow : OpenClaim := { program := "ytamookdlbmbncaa", sum := "7a0cd3632e1fba7bbbe517a9c991aa2d05da5334497d5958da6984e3a5ba35ba", func := "loop.example/g01012/laws.FnExactJoinCopies", spec := "fnExactJoinCopies", apart := false }
def FnExactJoinCopiesSaid : Prop := fnExactJoinCopiesRow.holds Try.pinned (OpenSpec.ofChange fnExactJoinCopiesSpec)

/-- ITS FALSE NEIGHBOUR: 'it returns false'. Refute it at one input. -/
def fnExactJoinCopiesWrong : ChangeSpec := { name := "fnExactJoinCopies", fn := fun _ => fun
  | [d1, d2] => { results := [.lit (.bool false)], args := [d1, d2] }
  | _ => none }
def FnExactJoinCopiesWrongFalsely : Prop := fnExactJoinCopiesRow.holds Try.pinned (OpenSpec.ofChange fnExactJoinCopiesWrong)

/- THE SECOND FORM. 'bulk': how many values and letters a reading holds, each counted each time it is reached (what is shared counts as often as it is met; a slice's spare places count too). A statement '..UptoSaid' is the law's where the arguments, and the package variables that the reading takes, are together of bulk at most 1048576: NARROWER than '..Said'. Prove '..Said' where nothing that the law and all that it calls make is longer than what came in: it says more and counts as full. Else prove '..UptoSaid'. A law counts once. -/
mutual
def uptoBulk {H : Type} : DataW H → Nat
  | .lit (.string bytes) => bytes.length + 1
  | .lit _ => 1
  | .nil => 1
  | .ptr d => uptoBulk d + 1
  | .slice elems spare => uptoBulkAll elems + uptoBulkAll spare + 1
  | .agg parts => uptoBulkAll parts + 1
  | .iface _ d => uptoBulk d + 1
  | .map entries => uptoBulkEntries entries + 1
  | .held _ => 1
def uptoBulkAll {H : Type} : List (DataW H) → Nat
  | [] => 0
  | d :: r => uptoBulk d + uptoBulkAll r
def uptoBulkEntries {H : Type} : List (Lit × DataW H) → Nat
  | [] => 0
  | x :: r => uptoBulkEntry x + uptoBulkEntries r
def uptoBulkEntry {H : Type} : Lit × DataW H → Nat
  | (.string bytes, d) => bytes.length + uptoBulk d + 1
  | (_, d) => uptoBulk d + 1
 end
def uptoSmall : (H : Type) → List (DataW H) → Bool := fun _ ds => decide (uptoBulkAll ds ≤ 1048576)
def OpenSpec.upto (s : _root_.Go.ChangeSpec) : _root_.Go.OpenSpec := { _root_.Go.OpenSpec.ofChange s with cond := some uptoSmall }

/-- 'laws.FnExactValidCopies', WHERE WHAT IT READS IS OF BULK AT MOST 1048576: true; the input reads as it did. -/
def fnExactValidCopiesUptoRow : OpenClaim := { program := "ytamookdlbmbncaa", sum := "7a0cd3632e1fba7bbbe517a9c991aa2d05da5334497d5958da6984e3a5ba35ba", func := "loop.example/g01012/laws.FnExactValidCopies", spec := "fnExactValidCopies", apart := false, narrowed := true }
def FnExactValidCopiesUptoSaid : Prop := fnExactValidCopiesUptoRow.holds Try.pinned (OpenSpec.upto fnExactValidCopiesSpec)

/-- 'laws.FnExactReproduceCard', WHERE WHAT IT READS IS OF BULK AT MOST 1048576: true; the input reads as it did. -/
def fnExactReproduceCardUptoRow : OpenClaim := { program := "ytamookdlbmbncaa", sum := "7a0cd3632e1fba7bbbe517a9c991aa2d05da5334497d5958da6984e3a5ba35ba", func := "loop.example/g01012/laws.FnExactReproduceCard", spec := "fnExactReproduceCard", apart := false, narrowed := true }
def FnExactReproduceCardUptoSaid : Prop := fnExactReproduceCardUptoRow.holds Try.pinned (OpenSpec.upto fnExactReproduceCardSpec)

/-- 'laws.FnExactReproduceDeck', WHERE WHAT IT READS IS OF BULK AT MOST 1048576: true; the input reads as it did. -/
def fnExactReproduceDeckUptoRow : OpenClaim := { program := "ytamookdlbmbncaa", sum := "7a0cd3632e1fba7bbbe517a9c991aa2d05da5334497d5958da6984e3a5ba35ba", func := "loop.example/g01012/laws.FnExactReproduceDeck", spec := "fnExactReproduceDeck", apart := false, narrowed := true }
def FnExactReproduceDeckUptoSaid : Prop := fnExactReproduceDeckUptoRow.holds Try.pinned (OpenSpec.upto fnExactReproduceDeckSpec)

/-- 'laws.FnExactGangPunch', WHERE WHAT IT READS IS OF BULK AT MOST 1048576: true; the input reads as it did. -/
def fnExactGangPunchUptoRow : OpenClaim := { program := "ytamookdlbmbncaa", sum := "7a0cd3632e1fba7bbbe517a9c991aa2d05da5334497d5958da6984e3a5ba35ba", func := "loop.example/g01012/laws.FnExactGangPunch", spec := "fnExactGangPunch", apart := false, narrowed := true }
def FnExactGangPunchUptoSaid : Prop := fnExactGangPunchUptoRow.holds Try.pinned (OpenSpec.upto fnExactGangPunchSpec)

/-- 'laws.FnExactInterspersedGang', WHERE WHAT IT READS IS OF BULK AT MOST 1048576: true; the input reads as it did. -/
def fnExactInterspersedGangUptoRow : OpenClaim := { program := "ytamookdlbmbncaa", sum := "7a0cd3632e1fba7bbbe517a9c991aa2d05da5334497d5958da6984e3a5ba35ba", func := "loop.example/g01012/laws.FnExactInterspersedGang", spec := "fnExactInterspersedGang", apart := false, narrowed := true }
def FnExactInterspersedGangUptoSaid : Prop := fnExactInterspersedGangUptoRow.holds Try.pinned (OpenSpec.upto fnExactInterspersedGangSpec)

/-- 'laws.FnExactCompareCards', WHERE WHAT IT READS IS OF BULK AT MOST 1048576: true; the input reads as it did. -/
def fnExactCompareCardsUptoRow : OpenClaim := { program := "ytamookdlbmbncaa", sum := "7a0cd3632e1fba7bbbe517a9c991aa2d05da5334497d5958da6984e3a5ba35ba", func := "loop.example/g01012/laws.FnExactCompareCards", spec := "fnExactCompareCards", apart := false, narrowed := true }
def FnExactCompareCardsUptoSaid : Prop := fnExactCompareCardsUptoRow.holds Try.pinned (OpenSpec.upto fnExactCompareCardsSpec)

/-- 'laws.FnExactCompareDecks', WHERE WHAT IT READS IS OF BULK AT MOST 1048576: true; the input reads as it did. -/
def fnExactCompareDecksUptoRow : OpenClaim := { program := "ytamookdlbmbncaa", sum := "7a0cd3632e1fba7bbbe517a9c991aa2d05da5334497d5958da6984e3a5ba35ba", func := "loop.example/g01012/laws.FnExactCompareDecks", spec := "fnExactCompareDecks", apart := false, narrowed := true }
def FnExactCompareDecksUptoSaid : Prop := fnExactCompareDecksUptoRow.holds Try.pinned (OpenSpec.upto fnExactCompareDecksSpec)

/-- 'laws.FnExactBackCopies', WHERE WHAT IT READS IS OF BULK AT MOST 1048576: true; the input reads as it did. -/
def fnExactBackCopiesUptoRow : OpenClaim := { program := "ytamookdlbmbncaa", sum := "7a0cd3632e1fba7bbbe517a9c991aa2d05da5334497d5958da6984e3a5ba35ba", func := "loop.example/g01012/laws.FnExactBackCopies", spec := "fnExactBackCopies", inPlace := ["internal/reflectlite.ValueOf", "internal/reflectlite.Swapper", "(internal/reflectlite.Value).Len"], unfollowed := true, recurses := true, apart := false, narrowed := true }
def FnExactBackCopiesUptoSaid : Prop := fnExactBackCopiesUptoRow.holds Try.pinned (OpenSpec.upto fnExactBackCopiesSpec)

/-- 'laws.FnExactJoinCopies', WHERE WHAT IT READS IS OF BULK AT MOST 1048576: true; the input reads as it did. -/
def fnExactJoinCopiesUptoRow : OpenClaim := { program := "ytamookdlbmbncaa", sum := "7a0cd3632e1fba7bbbe517a9c991aa2d05da5334497d5958da6984e3a5ba35ba", func := "loop.example/g01012/laws.FnExactJoinCopies", spec := "fnExactJoinCopies", apart := false, narrowed := true }
def FnExactJoinCopiesUptoSaid : Prop := fnExactJoinCopiesUptoRow.holds Try.pinned (OpenSpec.upto fnExactJoinCopiesSpec)

end Rows
end Go.Proofs.Ytamookdlbmbncaa
