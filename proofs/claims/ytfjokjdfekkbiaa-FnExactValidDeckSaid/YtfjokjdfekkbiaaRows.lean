/-
  No cell of these rows narrows 'for every input' (looked for: loops, veiled, ifaces, maps, wideKeys, modest, calm, conditions, laid).
  DERIVED. THE GIVEN ROWS OF THIS SEAT. 12 by the template 'for every input the law returns true; each argument reads behind the call as it read before'; 0 by the template 'total and deterministic' (their statements: YtfjokjdfekkbiaaTotals.lean).
  GIVEN WITH THE SEED: the statements are not yours to turn. If you find one false, say at which input.
  Laid BY PROGRAM, IN A SANDBOX (cutbox-rows.mjs): the forced cells as the released guide's own fill.sh prints them over the translation 7f0a41d150c7c08d… (all of the seat's roots in one cut). By AI agents, Wed Nov 11 2026. No macro, syntax, notation, axiom, sorry.
-/
import Derived.Test.YtfjokjdfekkbiaaChecked
import GoSem.Claim
import GoSem.ClaimJoined
import GoSem.ClaimMapViews
import Derived.JoinedTies
import Derived.KernelRfl
namespace Go.Proofs.Ytfjokjdfekkbiaa
/- THE CELL 'sum', in the pinned program and in every row, IS THE sha256 OF THE DUMP (.gsa) THAT YtfjokjdfekkbiaaProg.lean LOADS. Nothing in Lean hashes anything: it is a label: what it is worth is what the hold of that sum in a sandbox is worth. -/
noncomputable def Try.pinned : Pinned := { name := "ytfjokjdfekkbiaa", sum := "7f0a41d150c7c08d418be1ad247f32aa075ea9cef288e466fb461d8bd2305ac0", checked := Try.checked }
namespace Rows
def none {H : Type} : Left H := { results := [], args := [] }

/-- 'laws.FnExactValidCard': WHATEVER THE INPUT: true; the input reads as it did. -/
def fnExactValidCardSpec : ChangeSpec := { name := "fnExactValidCard", fn := fun _ => fun
  | [d] => { results := [.lit (.bool true)], args := [d] }
  | _ => none }
def fnExactValidCardRow : OpenClaim := { program := "ytfjokjdfekkbiaa", sum := "7f0a41d150c7c08d418be1ad247f32aa075ea9cef288e466fb461d8bd2305ac0", func := "loop.example/g01012/laws.FnExactValidCard", spec := "fnExactValidCard", apart := false }
def FnExactValidCardSaid : Prop := fnExactValidCardRow.holds Try.pinned (OpenSpec.ofChange fnExactValidCardSpec)

/-- ITS FALSE NEIGHBOUR: 'it returns false'. Refute it at one input. -/
def fnExactValidCardWrong : ChangeSpec := { name := "fnExactValidCard", fn := fun _ => fun
  | [d] => { results := [.lit (.bool false)], args := [d] }
  | _ => none }
def FnExactValidCardWrongFalsely : Prop := fnExactValidCardRow.holds Try.pinned (OpenSpec.ofChange fnExactValidCardWrong)

/-- 'laws.FnExactSameCard': WHATEVER THE INPUT: true; the input reads as it did. -/
def fnExactSameCardSpec : ChangeSpec := { name := "fnExactSameCard", fn := fun _ => fun
  | [d1, d2] => { results := [.lit (.bool true)], args := [d1, d2] }
  | _ => none }
def fnExactSameCardRow : OpenClaim := { program := "ytfjokjdfekkbiaa", sum := "7f0a41d150c7c08d418be1ad247f32aa075ea9cef288e466fb461d8bd2305ac0", func := "loop.example/g01012/laws.FnExactSameCard", spec := "fnExactSameCard", apart := false }
def FnExactSameCardSaid : Prop := fnExactSameCardRow.holds Try.pinned (OpenSpec.ofChange fnExactSameCardSpec)

/-- ITS FALSE NEIGHBOUR: 'it returns false'. Refute it at one input. -/
def fnExactSameCardWrong : ChangeSpec := { name := "fnExactSameCard", fn := fun _ => fun
  | [d1, d2] => { results := [.lit (.bool false)], args := [d1, d2] }
  | _ => none }
def FnExactSameCardWrongFalsely : Prop := fnExactSameCardRow.holds Try.pinned (OpenSpec.ofChange fnExactSameCardWrong)

/-- 'laws.FnExactValidDeck': WHATEVER THE INPUT: true; the input reads as it did. -/
def fnExactValidDeckSpec : ChangeSpec := { name := "fnExactValidDeck", fn := fun _ => fun
  | [d] => { results := [.lit (.bool true)], args := [d] }
  | _ => none }
def fnExactValidDeckRow : OpenClaim := { program := "ytfjokjdfekkbiaa", sum := "7f0a41d150c7c08d418be1ad247f32aa075ea9cef288e466fb461d8bd2305ac0", func := "loop.example/g01012/laws.FnExactValidDeck", spec := "fnExactValidDeck", apart := false }
def FnExactValidDeckSaid : Prop := fnExactValidDeckRow.holds Try.pinned (OpenSpec.ofChange fnExactValidDeckSpec)

/-- ITS FALSE NEIGHBOUR: 'it returns false'. Refute it at one input. -/
def fnExactValidDeckWrong : ChangeSpec := { name := "fnExactValidDeck", fn := fun _ => fun
  | [d] => { results := [.lit (.bool false)], args := [d] }
  | _ => none }
def FnExactValidDeckWrongFalsely : Prop := fnExactValidDeckRow.holds Try.pinned (OpenSpec.ofChange fnExactValidDeckWrong)

/-- 'laws.FnExactSameDeck': WHATEVER THE INPUT: true; the input reads as it did. -/
def fnExactSameDeckSpec : ChangeSpec := { name := "fnExactSameDeck", fn := fun _ => fun
  | [d1, d2] => { results := [.lit (.bool true)], args := [d1, d2] }
  | _ => none }
def fnExactSameDeckRow : OpenClaim := { program := "ytfjokjdfekkbiaa", sum := "7f0a41d150c7c08d418be1ad247f32aa075ea9cef288e466fb461d8bd2305ac0", func := "loop.example/g01012/laws.FnExactSameDeck", spec := "fnExactSameDeck", unfollowed := true, recurses := true, apart := false }
def FnExactSameDeckSaid : Prop := fnExactSameDeckRow.holds Try.pinned (OpenSpec.ofChange fnExactSameDeckSpec)

/-- ITS FALSE NEIGHBOUR: 'it returns false'. Refute it at one input. -/
def fnExactSameDeckWrong : ChangeSpec := { name := "fnExactSameDeck", fn := fun _ => fun
  | [d1, d2] => { results := [.lit (.bool false)], args := [d1, d2] }
  | _ => none }
def FnExactSameDeckWrongFalsely : Prop := fnExactSameDeckRow.holds Try.pinned (OpenSpec.ofChange fnExactSameDeckWrong)

/-- 'laws.FnExactBlankCard': WHATEVER THE INPUT: true; the input reads as it did. -/
def fnExactBlankCardSpec : ChangeSpec := { name := "fnExactBlankCard", fn := fun _ => fun
  | [d] => { results := [.lit (.bool true)], args := [d] }
  | _ => none }
def fnExactBlankCardRow : OpenClaim := { program := "ytfjokjdfekkbiaa", sum := "7f0a41d150c7c08d418be1ad247f32aa075ea9cef288e466fb461d8bd2305ac0", func := "loop.example/g01012/laws.FnExactBlankCard", spec := "fnExactBlankCard", apart := false }
def FnExactBlankCardSaid : Prop := fnExactBlankCardRow.holds Try.pinned (OpenSpec.ofChange fnExactBlankCardSpec)

/-- ITS FALSE NEIGHBOUR: 'it returns false'. Refute it at one input. -/
def fnExactBlankCardWrong : ChangeSpec := { name := "fnExactBlankCard", fn := fun _ => fun
  | [d] => { results := [.lit (.bool false)], args := [d] }
  | _ => none }
def FnExactBlankCardWrongFalsely : Prop := fnExactBlankCardRow.holds Try.pinned (OpenSpec.ofChange fnExactBlankCardWrong)

/-- 'laws.FnExactBitOf': WHATEVER THE INPUT: true; the input reads as it did. -/
def fnExactBitOfSpec : ChangeSpec := { name := "fnExactBitOf", fn := fun _ => fun
  | [d] => { results := [.lit (.bool true)], args := [d] }
  | _ => none }
def fnExactBitOfRow : OpenClaim := { program := "ytfjokjdfekkbiaa", sum := "7f0a41d150c7c08d418be1ad247f32aa075ea9cef288e466fb461d8bd2305ac0", func := "loop.example/g01012/laws.FnExactBitOf", spec := "fnExactBitOf", apart := false }
def FnExactBitOfSaid : Prop := fnExactBitOfRow.holds Try.pinned (OpenSpec.ofChange fnExactBitOfSpec)

/-- ITS FALSE NEIGHBOUR: 'it returns false'. Refute it at one input. -/
def fnExactBitOfWrong : ChangeSpec := { name := "fnExactBitOf", fn := fun _ => fun
  | [d] => { results := [.lit (.bool false)], args := [d] }
  | _ => none }
def FnExactBitOfWrongFalsely : Prop := fnExactBitOfRow.holds Try.pinned (OpenSpec.ofChange fnExactBitOfWrong)

/-- 'laws.FnExactPunchHole': WHATEVER THE INPUT: true; the input reads as it did. -/
def fnExactPunchHoleSpec : ChangeSpec := { name := "fnExactPunchHole", fn := fun _ => fun
  | [d1, d2, d3] => { results := [.lit (.bool true)], args := [d1, d2, d3] }
  | _ => none }
def fnExactPunchHoleRow : OpenClaim := { program := "ytfjokjdfekkbiaa", sum := "7f0a41d150c7c08d418be1ad247f32aa075ea9cef288e466fb461d8bd2305ac0", func := "loop.example/g01012/laws.FnExactPunchHole", spec := "fnExactPunchHole", apart := false }
def FnExactPunchHoleSaid : Prop := fnExactPunchHoleRow.holds Try.pinned (OpenSpec.ofChange fnExactPunchHoleSpec)

/-- ITS FALSE NEIGHBOUR: 'it returns false'. Refute it at one input. -/
def fnExactPunchHoleWrong : ChangeSpec := { name := "fnExactPunchHole", fn := fun _ => fun
  | [d1, d2, d3] => { results := [.lit (.bool false)], args := [d1, d2, d3] }
  | _ => none }
def FnExactPunchHoleWrongFalsely : Prop := fnExactPunchHoleRow.holds Try.pinned (OpenSpec.ofChange fnExactPunchHoleWrong)

/-- 'laws.FnExactHasHole': WHATEVER THE INPUT: true; the input reads as it did. -/
def fnExactHasHoleSpec : ChangeSpec := { name := "fnExactHasHole", fn := fun _ => fun
  | [d1, d2, d3] => { results := [.lit (.bool true)], args := [d1, d2, d3] }
  | _ => none }
def fnExactHasHoleRow : OpenClaim := { program := "ytfjokjdfekkbiaa", sum := "7f0a41d150c7c08d418be1ad247f32aa075ea9cef288e466fb461d8bd2305ac0", func := "loop.example/g01012/laws.FnExactHasHole", spec := "fnExactHasHole", apart := false }
def FnExactHasHoleSaid : Prop := fnExactHasHoleRow.holds Try.pinned (OpenSpec.ofChange fnExactHasHoleSpec)

/-- ITS FALSE NEIGHBOUR: 'it returns false'. Refute it at one input. -/
def fnExactHasHoleWrong : ChangeSpec := { name := "fnExactHasHole", fn := fun _ => fun
  | [d1, d2, d3] => { results := [.lit (.bool false)], args := [d1, d2, d3] }
  | _ => none }
def FnExactHasHoleWrongFalsely : Prop := fnExactHasHoleRow.holds Try.pinned (OpenSpec.ofChange fnExactHasHoleWrong)

/-- 'laws.FnExactCountHoles': WHATEVER THE INPUT: true; the input reads as it did. -/
def fnExactCountHolesSpec : ChangeSpec := { name := "fnExactCountHoles", fn := fun _ => fun
  | [d] => { results := [.lit (.bool true)], args := [d] }
  | _ => none }
def fnExactCountHolesRow : OpenClaim := { program := "ytfjokjdfekkbiaa", sum := "7f0a41d150c7c08d418be1ad247f32aa075ea9cef288e466fb461d8bd2305ac0", func := "loop.example/g01012/laws.FnExactCountHoles", spec := "fnExactCountHoles", apart := false }
def FnExactCountHolesSaid : Prop := fnExactCountHolesRow.holds Try.pinned (OpenSpec.ofChange fnExactCountHolesSpec)

/-- ITS FALSE NEIGHBOUR: 'it returns false'. Refute it at one input. -/
def fnExactCountHolesWrong : ChangeSpec := { name := "fnExactCountHoles", fn := fun _ => fun
  | [d] => { results := [.lit (.bool false)], args := [d] }
  | _ => none }
def FnExactCountHolesWrongFalsely : Prop := fnExactCountHolesRow.holds Try.pinned (OpenSpec.ofChange fnExactCountHolesWrong)

/-- 'laws.FnExactPartOf': WHATEVER THE INPUT: true; the input reads as it did. -/
def fnExactPartOfSpec : ChangeSpec := { name := "fnExactPartOf", fn := fun _ => fun
  | [d1, d2] => { results := [.lit (.bool true)], args := [d1, d2] }
  | _ => none }
def fnExactPartOfRow : OpenClaim := { program := "ytfjokjdfekkbiaa", sum := "7f0a41d150c7c08d418be1ad247f32aa075ea9cef288e466fb461d8bd2305ac0", func := "loop.example/g01012/laws.FnExactPartOf", spec := "fnExactPartOf", apart := false }
def FnExactPartOfSaid : Prop := fnExactPartOfRow.holds Try.pinned (OpenSpec.ofChange fnExactPartOfSpec)

/-- ITS FALSE NEIGHBOUR: 'it returns false'. Refute it at one input. -/
def fnExactPartOfWrong : ChangeSpec := { name := "fnExactPartOf", fn := fun _ => fun
  | [d1, d2] => { results := [.lit (.bool false)], args := [d1, d2] }
  | _ => none }
def FnExactPartOfWrongFalsely : Prop := fnExactPartOfRow.holds Try.pinned (OpenSpec.ofChange fnExactPartOfWrong)

/-- 'laws.FnExactOverlay': WHATEVER THE INPUT: true; the input reads as it did. -/
def fnExactOverlaySpec : ChangeSpec := { name := "fnExactOverlay", fn := fun _ => fun
  | [d1, d2] => { results := [.lit (.bool true)], args := [d1, d2] }
  | _ => none }
def fnExactOverlayRow : OpenClaim := { program := "ytfjokjdfekkbiaa", sum := "7f0a41d150c7c08d418be1ad247f32aa075ea9cef288e466fb461d8bd2305ac0", func := "loop.example/g01012/laws.FnExactOverlay", spec := "fnExactOverlay", apart := false }
def FnExactOverlaySaid : Prop := fnExactOverlayRow.holds Try.pinned (OpenSpec.ofChange fnExactOverlaySpec)

/-- ITS FALSE NEIGHBOUR: 'it returns false'. Refute it at one input. -/
def fnExactOverlayWrong : ChangeSpec := { name := "fnExactOverlay", fn := fun _ => fun
  | [d1, d2] => { results := [.lit (.bool false)], args := [d1, d2] }
  | _ => none }
def FnExactOverlayWrongFalsely : Prop := fnExactOverlayRow.holds Try.pinned (OpenSpec.ofChange fnExactOverlayWrong)

/-- 'laws.FnExactCardPicture': WHATEVER THE INPUT: true; the input reads as it did. -/
def fnExactCardPictureSpec : ChangeSpec := { name := "fnExactCardPicture", fn := fun _ => fun
  | [d] => { results := [.lit (.bool true)], args := [d] }
  | _ => none }
def fnExactCardPictureRow : OpenClaim := { program := "ytfjokjdfekkbiaa", sum := "7f0a41d150c7c08d418be1ad247f32aa075ea9cef288e466fb461d8bd2305ac0", func := "loop.example/g01012/laws.FnExactCardPicture", spec := "fnExactCardPicture", inPlace := ["internal/abi.NoEscape"], apart := false }
def FnExactCardPictureSaid : Prop := fnExactCardPictureRow.holds Try.pinned (OpenSpec.ofChange fnExactCardPictureSpec)

/-- ITS FALSE NEIGHBOUR: 'it returns false'. Refute it at one input. -/
def fnExactCardPictureWrong : ChangeSpec := { name := "fnExactCardPicture", fn := fun _ => fun
  | [d] => { results := [.lit (.bool false)], args := [d] }
  | _ => none }
def FnExactCardPictureWrongFalsely : Prop := fnExactCardPictureRow.holds Try.pinned (OpenSpec.ofChange fnExactCardPictureWrong)

/- THE SECOND FORM. 'bulk': how many values and letters a reading holds, each counted each time it is reached (what is shared counts as often as it is met; a slice's spare places count too). A statement '..UptoSaid' is the law's where the arguments, and the package variables that the reading takes, are together of bulk at most 1048576: NARROWER than '..Said'. Prove '..Said' where nothing that the law and all that it calls make is longer than what came in: it says more and counts as full. Else prove '..UptoSaid'. A law counts once. -/
mutual
def uptoBulk {H : Type} : DataW H → Nat
  | .lit (.string bytes) => bytes.length + 1
  | .lit _ => 1
  | .nil => 1
  | .ptr d => uptoBulk d + 1
  | .slice elems spare => uptoBulkAll elems + uptoBulkAll spare + 1
  | .agg parts => uptoBulkAll parts + 1
  | .iface _ d => uptoBulk d + 1
  | .map entries => uptoBulkEntries entries + 1
  | .held _ => 1
def uptoBulkAll {H : Type} : List (DataW H) → Nat
  | [] => 0
  | d :: r => uptoBulk d + uptoBulkAll r
def uptoBulkEntries {H : Type} : List (Lit × DataW H) → Nat
  | [] => 0
  | x :: r => uptoBulkEntry x + uptoBulkEntries r
def uptoBulkEntry {H : Type} : Lit × DataW H → Nat
  | (.string bytes, d) => bytes.length + uptoBulk d + 1
  | (_, d) => uptoBulk d + 1
 end
def uptoSmall : (H : Type) → List (DataW H) → Bool := fun _ ds => decide (uptoBulkAll ds ≤ 1048576)
def OpenSpec.upto (s : _root_.Go.ChangeSpec) : _root_.Go.OpenSpec := { _root_.Go.OpenSpec.ofChange s with cond := some uptoSmall }

/-- 'laws.FnExactValidCard', WHERE WHAT IT READS IS OF BULK AT MOST 1048576: true; the input reads as it did. -/
def fnExactValidCardUptoRow : OpenClaim := { program := "ytfjokjdfekkbiaa", sum := "7f0a41d150c7c08d418be1ad247f32aa075ea9cef288e466fb461d8bd2305ac0", func := "loop.example/g01012/laws.FnExactValidCard", spec := "fnExactValidCard", apart := false, narrowed := true }
def FnExactValidCardUptoSaid : Prop := fnExactValidCardUptoRow.holds Try.pinned (OpenSpec.upto fnExactValidCardSpec)

/-- 'laws.FnExactSameCard', WHERE WHAT IT READS IS OF BULK AT MOST 1048576: true; the input reads as it did. -/
def fnExactSameCardUptoRow : OpenClaim := { program := "ytfjokjdfekkbiaa", sum := "7f0a41d150c7c08d418be1ad247f32aa075ea9cef288e466fb461d8bd2305ac0", func := "loop.example/g01012/laws.FnExactSameCard", spec := "fnExactSameCard", apart := false, narrowed := true }
def FnExactSameCardUptoSaid : Prop := fnExactSameCardUptoRow.holds Try.pinned (OpenSpec.upto fnExactSameCardSpec)

/-- 'laws.FnExactValidDeck', WHERE WHAT IT READS IS OF BULK AT MOST 1048576: true; the input reads as it did. -/
def fnExactValidDeckUptoRow : OpenClaim := { program := "ytfjokjdfekkbiaa", sum := "7f0a41d150c7c08d418be1ad247f32aa075ea9cef288e466fb461d8bd2305ac0", func := "loop.example/g01012/laws.FnExactValidDeck", spec := "fnExactValidDeck", apart := false, narrowed := true }
def FnExactValidDeckUptoSaid : Prop := fnExactValidDeckUptoRow.holds Try.pinned (OpenSpec.upto fnExactValidDeckSpec)

/-- 'laws.FnExactSameDeck', WHERE WHAT IT READS IS OF BULK AT MOST 1048576: true; the input reads as it did. -/
def fnExactSameDeckUptoRow : OpenClaim := { program := "ytfjokjdfekkbiaa", sum := "7f0a41d150c7c08d418be1ad247f32aa075ea9cef288e466fb461d8bd2305ac0", func := "loop.example/g01012/laws.FnExactSameDeck", spec := "fnExactSameDeck", unfollowed := true, recurses := true, apart := false, narrowed := true }
def FnExactSameDeckUptoSaid : Prop := fnExactSameDeckUptoRow.holds Try.pinned (OpenSpec.upto fnExactSameDeckSpec)

/-- 'laws.FnExactBlankCard', WHERE WHAT IT READS IS OF BULK AT MOST 1048576: true; the input reads as it did. -/
def fnExactBlankCardUptoRow : OpenClaim := { program := "ytfjokjdfekkbiaa", sum := "7f0a41d150c7c08d418be1ad247f32aa075ea9cef288e466fb461d8bd2305ac0", func := "loop.example/g01012/laws.FnExactBlankCard", spec := "fnExactBlankCard", apart := false, narrowed := true }
def FnExactBlankCardUptoSaid : Prop := fnExactBlankCardUptoRow.holds Try.pinned (OpenSpec.upto fnExactBlankCardSpec)

/-- 'laws.FnExactBitOf', WHERE WHAT IT READS IS OF BULK AT MOST 1048576: true; the input reads as it did. -/
def fnExactBitOfUptoRow : OpenClaim := { program := "ytfjokjdfekkbiaa", sum := "7f0a41d150c7c08d418be1ad247f32aa075ea9cef288e466fb461d8bd2305ac0", func := "loop.example/g01012/laws.FnExactBitOf", spec := "fnExactBitOf", apart := false, narrowed := true }
def FnExactBitOfUptoSaid : Prop := fnExactBitOfUptoRow.holds Try.pinned (OpenSpec.upto fnExactBitOfSpec)

/-- 'laws.FnExactPunchHole', WHERE WHAT IT READS IS OF BULK AT MOST 1048576: true; the input reads as it did. -/
def fnExactPunchHoleUptoRow : OpenClaim := { program := "ytfjokjdfekkbiaa", sum := "7f0a41d150c7c08d418be1ad247f32aa075ea9cef288e466fb461d8bd2305ac0", func := "loop.example/g01012/laws.FnExactPunchHole", spec := "fnExactPunchHole", apart := false, narrowed := true }
def FnExactPunchHoleUptoSaid : Prop := fnExactPunchHoleUptoRow.holds Try.pinned (OpenSpec.upto fnExactPunchHoleSpec)

/-- 'laws.FnExactHasHole', WHERE WHAT IT READS IS OF BULK AT MOST 1048576: true; the input reads as it did. -/
def fnExactHasHoleUptoRow : OpenClaim := { program := "ytfjokjdfekkbiaa", sum := "7f0a41d150c7c08d418be1ad247f32aa075ea9cef288e466fb461d8bd2305ac0", func := "loop.example/g01012/laws.FnExactHasHole", spec := "fnExactHasHole", apart := false, narrowed := true }
def FnExactHasHoleUptoSaid : Prop := fnExactHasHoleUptoRow.holds Try.pinned (OpenSpec.upto fnExactHasHoleSpec)

/-- 'laws.FnExactCountHoles', WHERE WHAT IT READS IS OF BULK AT MOST 1048576: true; the input reads as it did. -/
def fnExactCountHolesUptoRow : OpenClaim := { program := "ytfjokjdfekkbiaa", sum := "7f0a41d150c7c08d418be1ad247f32aa075ea9cef288e466fb461d8bd2305ac0", func := "loop.example/g01012/laws.FnExactCountHoles", spec := "fnExactCountHoles", apart := false, narrowed := true }
def FnExactCountHolesUptoSaid : Prop := fnExactCountHolesUptoRow.holds Try.pinned (OpenSpec.upto fnExactCountHolesSpec)

/-- 'laws.FnExactPartOf', WHERE WHAT IT READS IS OF BULK AT MOST 1048576: true; the input reads as it did. -/
def fnExactPartOfUptoRow : OpenClaim := { program := "ytfjokjdfekkbiaa", sum := "7f0a41d150c7c08d418be1ad247f32aa075ea9cef288e466fb461d8bd2305ac0", func := "loop.example/g01012/laws.FnExactPartOf", spec := "fnExactPartOf", apart := false, narrowed := true }
def FnExactPartOfUptoSaid : Prop := fnExactPartOfUptoRow.holds Try.pinned (OpenSpec.upto fnExactPartOfSpec)

/-- 'laws.FnExactOverlay', WHERE WHAT IT READS IS OF BULK AT MOST 1048576: true; the input reads as it did. -/
def fnExactOverlayUptoRow : OpenClaim := { program := "ytfjokjdfekkbiaa", sum := "7f0a41d150c7c08d418be1ad247f32aa075ea9cef288e466fb461d8bd2305ac0", func := "loop.example/g01012/laws.FnExactOverlay", spec := "fnExactOverlay", apart := false, narrowed := true }
def FnExactOverlayUptoSaid : Prop := fnExactOverlayUptoRow.holds Try.pinned (OpenSpec.upto fnExactOverlaySpec)

/-- 'laws.FnExactCardPicture', WHERE WHAT IT READS IS OF BULK AT MOST 1048576: true; the input reads as it did. -/
def fnExactCardPictureUptoRow : OpenClaim := { program := "ytfjokjdfekkbiaa", sum := "7f0a41d150c7c08d418be1ad247f32aa075ea9cef288e466fb461d8bd2305ac0", func := "loop.example/g01012/laws.FnExactCardPicture", spec := "fnExactCardPicture", inPlace := ["internal/abi.NoEscape"], apart := false, narrowed := true }
def FnExactCardPictureUptoSaid : Prop := fnExactCardPictureUptoRow.holds Try.pinned (OpenSpec.upto fnExactCardPictureSpec)

end Rows
end Go.Proofs.Ytfjokjdfekkbiaa
