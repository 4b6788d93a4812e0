/-
  No cell of these rows narrows 'for every input' (looked for: loops, veiled, ifaces, maps, wideKeys, modest, calm, conditions, laid).
  DERIVED. THE GIVEN ROWS OF THIS SEAT. 10 by the template 'for every input the law returns true; each argument reads behind the call as it read before'; 0 by the template 'total and deterministic' (their statements: YthkfdfocghmmeaaTotals.lean).
  GIVEN WITH THE SEED: the statements are not yours to turn. If you find one false, say at which input.
  Laid BY PROGRAM, IN A SANDBOX (cutbox-rows.mjs): the forced cells as the released guide's own fill.sh prints them over the translation bdabad0a919577c1… (all of the seat's roots in one cut). By AI agents, Wed Nov 11 2026. No macro, syntax, notation, axiom, sorry.
-/
import Derived.Test.YthkfdfocghmmeaaChecked
import GoSem.Claim
import GoSem.ClaimJoined
import GoSem.ClaimMapViews
import Derived.JoinedTies
import Derived.KernelRfl
namespace Go.Proofs.Ythkfdfocghmmeaa
/- THE CELL 'sum', in the pinned program and in every row, IS THE sha256 OF THE DUMP (.gsa) THAT YthkfdfocghmmeaaProg.lean LOADS. Nothing in Lean hashes anything: it is a label: what it is worth is what the hold of that sum in a sandbox is worth. -/
noncomputable def Try.pinned : Pinned := { name := "ythkfdfocghmmeaa", sum := "bdabad0a919577c1db557c93008bd258ddd0c13dfabf320e09029c36566ac6d7", checked := Try.checked }
namespace Rows
def none {H : Type} : Left H := { results := [], args := [] }

/-- 'laws.FnExactDistanceOf': WHATEVER THE INPUT: true; the input reads as it did. -/
def fnExactDistanceOfSpec : ChangeSpec := { name := "fnExactDistanceOf", fn := fun _ => fun
  | [d1, d2] => { results := [.lit (.bool true)], args := [d1, d2] }
  | _ => none }
def fnExactDistanceOfRow : OpenClaim := { program := "ythkfdfocghmmeaa", sum := "bdabad0a919577c1db557c93008bd258ddd0c13dfabf320e09029c36566ac6d7", func := "loop.example/g01012/laws.FnExactDistanceOf", spec := "fnExactDistanceOf", apart := false }
def FnExactDistanceOfSaid : Prop := fnExactDistanceOfRow.holds Try.pinned (OpenSpec.ofChange fnExactDistanceOfSpec)

/-- ITS FALSE NEIGHBOUR: 'it returns false'. Refute it at one input. -/
def fnExactDistanceOfWrong : ChangeSpec := { name := "fnExactDistanceOf", fn := fun _ => fun
  | [d1, d2] => { results := [.lit (.bool false)], args := [d1, d2] }
  | _ => none }
def FnExactDistanceOfWrongFalsely : Prop := fnExactDistanceOfRow.holds Try.pinned (OpenSpec.ofChange fnExactDistanceOfWrong)

/-- 'laws.FnExactLaceColumn': WHATEVER THE INPUT: true; the input reads as it did. -/
def fnExactLaceColumnSpec : ChangeSpec := { name := "fnExactLaceColumn", fn := fun _ => fun
  | [d1, d2] => { results := [.lit (.bool true)], args := [d1, d2] }
  | _ => none }
def fnExactLaceColumnRow : OpenClaim := { program := "ythkfdfocghmmeaa", sum := "bdabad0a919577c1db557c93008bd258ddd0c13dfabf320e09029c36566ac6d7", func := "loop.example/g01012/laws.FnExactLaceColumn", spec := "fnExactLaceColumn", apart := false }
def FnExactLaceColumnSaid : Prop := fnExactLaceColumnRow.holds Try.pinned (OpenSpec.ofChange fnExactLaceColumnSpec)

/-- ITS FALSE NEIGHBOUR: 'it returns false'. Refute it at one input. -/
def fnExactLaceColumnWrong : ChangeSpec := { name := "fnExactLaceColumn", fn := fun _ => fun
  | [d1, d2] => { results := [.lit (.bool false)], args := [d1, d2] }
  | _ => none }
def FnExactLaceColumnWrongFalsely : Prop := fnExactLaceColumnRow.holds Try.pinned (OpenSpec.ofChange fnExactLaceColumnWrong)

/-- 'laws.FnExactLacedColumns': WHATEVER THE INPUT: true; the input reads as it did. -/
def fnExactLacedColumnsSpec : ChangeSpec := { name := "fnExactLacedColumns", fn := fun _ => fun
  | [d] => { results := [.lit (.bool true)], args := [d] }
  | _ => none }
def fnExactLacedColumnsRow : OpenClaim := { program := "ythkfdfocghmmeaa", sum := "bdabad0a919577c1db557c93008bd258ddd0c13dfabf320e09029c36566ac6d7", func := "loop.example/g01012/laws.FnExactLacedColumns", spec := "fnExactLacedColumns", apart := false }
def FnExactLacedColumnsSaid : Prop := fnExactLacedColumnsRow.holds Try.pinned (OpenSpec.ofChange fnExactLacedColumnsSpec)

/-- ITS FALSE NEIGHBOUR: 'it returns false'. Refute it at one input. -/
def fnExactLacedColumnsWrong : ChangeSpec := { name := "fnExactLacedColumns", fn := fun _ => fun
  | [d] => { results := [.lit (.bool false)], args := [d] }
  | _ => none }
def FnExactLacedColumnsWrongFalsely : Prop := fnExactLacedColumnsRow.holds Try.pinned (OpenSpec.ofChange fnExactLacedColumnsWrong)

/-- 'laws.FnExactShiftCard': WHATEVER THE INPUT: true; the input reads as it did. -/
def fnExactShiftCardSpec : ChangeSpec := { name := "fnExactShiftCard", fn := fun _ => fun
  | [d1, d2] => { results := [.lit (.bool true)], args := [d1, d2] }
  | _ => none }
def fnExactShiftCardRow : OpenClaim := { program := "ythkfdfocghmmeaa", sum := "bdabad0a919577c1db557c93008bd258ddd0c13dfabf320e09029c36566ac6d7", func := "loop.example/g01012/laws.FnExactShiftCard", spec := "fnExactShiftCard", apart := false }
def FnExactShiftCardSaid : Prop := fnExactShiftCardRow.holds Try.pinned (OpenSpec.ofChange fnExactShiftCardSpec)

/-- ITS FALSE NEIGHBOUR: 'it returns false'. Refute it at one input. -/
def fnExactShiftCardWrong : ChangeSpec := { name := "fnExactShiftCard", fn := fun _ => fun
  | [d1, d2] => { results := [.lit (.bool false)], args := [d1, d2] }
  | _ => none }
def FnExactShiftCardWrongFalsely : Prop := fnExactShiftCardRow.holds Try.pinned (OpenSpec.ofChange fnExactShiftCardWrong)

/-- 'laws.FnExactShiftOf': WHATEVER THE INPUT: true; the input reads as it did. -/
def fnExactShiftOfSpec : ChangeSpec := { name := "fnExactShiftOf", fn := fun _ => fun
  | [d1, d2] => { results := [.lit (.bool true)], args := [d1, d2] }
  | _ => none }
def fnExactShiftOfRow : OpenClaim := { program := "ythkfdfocghmmeaa", sum := "bdabad0a919577c1db557c93008bd258ddd0c13dfabf320e09029c36566ac6d7", func := "loop.example/g01012/laws.FnExactShiftOf", spec := "fnExactShiftOf", unfollowed := true, recurses := true, apart := false }
def FnExactShiftOfSaid : Prop := fnExactShiftOfRow.holds Try.pinned (OpenSpec.ofChange fnExactShiftOfSpec)

/-- ITS FALSE NEIGHBOUR: 'it returns false'. Refute it at one input. -/
def fnExactShiftOfWrong : ChangeSpec := { name := "fnExactShiftOf", fn := fun _ => fun
  | [d1, d2] => { results := [.lit (.bool false)], args := [d1, d2] }
  | _ => none }
def FnExactShiftOfWrongFalsely : Prop := fnExactShiftOfRow.holds Try.pinned (OpenSpec.ofChange fnExactShiftOfWrong)

/-- 'laws.FnExactAddedHoles': WHATEVER THE INPUT: true; the input reads as it did. -/
def fnExactAddedHolesSpec : ChangeSpec := { name := "fnExactAddedHoles", fn := fun _ => fun
  | [d1, d2] => { results := [.lit (.bool true)], args := [d1, d2] }
  | _ => none }
def fnExactAddedHolesRow : OpenClaim := { program := "ythkfdfocghmmeaa", sum := "bdabad0a919577c1db557c93008bd258ddd0c13dfabf320e09029c36566ac6d7", func := "loop.example/g01012/laws.FnExactAddedHoles", spec := "fnExactAddedHoles", apart := false }
def FnExactAddedHolesSaid : Prop := fnExactAddedHolesRow.holds Try.pinned (OpenSpec.ofChange fnExactAddedHolesSpec)

/-- ITS FALSE NEIGHBOUR: 'it returns false'. Refute it at one input. -/
def fnExactAddedHolesWrong : ChangeSpec := { name := "fnExactAddedHoles", fn := fun _ => fun
  | [d1, d2] => { results := [.lit (.bool false)], args := [d1, d2] }
  | _ => none }
def FnExactAddedHolesWrongFalsely : Prop := fnExactAddedHolesRow.holds Try.pinned (OpenSpec.ofChange fnExactAddedHolesWrong)

/-- 'laws.FnExactLostHoles': WHATEVER THE INPUT: true; the input reads as it did. -/
def fnExactLostHolesSpec : ChangeSpec := { name := "fnExactLostHoles", fn := fun _ => fun
  | [d1, d2] => { results := [.lit (.bool true)], args := [d1, d2] }
  | _ => none }
def fnExactLostHolesRow : OpenClaim := { program := "ythkfdfocghmmeaa", sum := "bdabad0a919577c1db557c93008bd258ddd0c13dfabf320e09029c36566ac6d7", func := "loop.example/g01012/laws.FnExactLostHoles", spec := "fnExactLostHoles", apart := false }
def FnExactLostHolesSaid : Prop := fnExactLostHolesRow.holds Try.pinned (OpenSpec.ofChange fnExactLostHolesSpec)

/-- ITS FALSE NEIGHBOUR: 'it returns false'. Refute it at one input. -/
def fnExactLostHolesWrong : ChangeSpec := { name := "fnExactLostHoles", fn := fun _ => fun
  | [d1, d2] => { results := [.lit (.bool false)], args := [d1, d2] }
  | _ => none }
def FnExactLostHolesWrongFalsely : Prop := fnExactLostHolesRow.holds Try.pinned (OpenSpec.ofChange fnExactLostHolesWrong)

/-- 'laws.FnExactNearestCard': WHATEVER THE INPUT: true; the input reads as it did. -/
def fnExactNearestCardSpec : ChangeSpec := { name := "fnExactNearestCard", fn := fun _ => fun
  | [d1, d2] => { results := [.lit (.bool true)], args := [d1, d2] }
  | _ => none }
def fnExactNearestCardRow : OpenClaim := { program := "ythkfdfocghmmeaa", sum := "bdabad0a919577c1db557c93008bd258ddd0c13dfabf320e09029c36566ac6d7", func := "loop.example/g01012/laws.FnExactNearestCard", spec := "fnExactNearestCard", apart := false }
def FnExactNearestCardSaid : Prop := fnExactNearestCardRow.holds Try.pinned (OpenSpec.ofChange fnExactNearestCardSpec)

/-- ITS FALSE NEIGHBOUR: 'it returns false'. Refute it at one input. -/
def fnExactNearestCardWrong : ChangeSpec := { name := "fnExactNearestCard", fn := fun _ => fun
  | [d1, d2] => { results := [.lit (.bool false)], args := [d1, d2] }
  | _ => none }
def FnExactNearestCardWrongFalsely : Prop := fnExactNearestCardRow.holds Try.pinned (OpenSpec.ofChange fnExactNearestCardWrong)

/-- 'laws.FnExactTornColumns': WHATEVER THE INPUT: true; the input reads as it did. -/
def fnExactTornColumnsSpec : ChangeSpec := { name := "fnExactTornColumns", fn := fun _ => fun
  | [d1, d2] => { results := [.lit (.bool true)], args := [d1, d2] }
  | _ => none }
def fnExactTornColumnsRow : OpenClaim := { program := "ythkfdfocghmmeaa", sum := "bdabad0a919577c1db557c93008bd258ddd0c13dfabf320e09029c36566ac6d7", func := "loop.example/g01012/laws.FnExactTornColumns", spec := "fnExactTornColumns", apart := false }
def FnExactTornColumnsSaid : Prop := fnExactTornColumnsRow.holds Try.pinned (OpenSpec.ofChange fnExactTornColumnsSpec)

/-- ITS FALSE NEIGHBOUR: 'it returns false'. Refute it at one input. -/
def fnExactTornColumnsWrong : ChangeSpec := { name := "fnExactTornColumns", fn := fun _ => fun
  | [d1, d2] => { results := [.lit (.bool false)], args := [d1, d2] }
  | _ => none }
def FnExactTornColumnsWrongFalsely : Prop := fnExactTornColumnsRow.holds Try.pinned (OpenSpec.ofChange fnExactTornColumnsWrong)

/-- 'laws.FnExactCorrectColumn': WHATEVER THE INPUT: true; the input reads as it did. -/
def fnExactCorrectColumnSpec : ChangeSpec := { name := "fnExactCorrectColumn", fn := fun _ => fun
  | [d1, d2, d3] => { results := [.lit (.bool true)], args := [d1, d2, d3] }
  | _ => none }
def fnExactCorrectColumnRow : OpenClaim := { program := "ythkfdfocghmmeaa", sum := "bdabad0a919577c1db557c93008bd258ddd0c13dfabf320e09029c36566ac6d7", func := "loop.example/g01012/laws.FnExactCorrectColumn", spec := "fnExactCorrectColumn", inPlace := ["internal/bytealg.IndexByteString"], apart := false }
def FnExactCorrectColumnSaid : Prop := fnExactCorrectColumnRow.holds Try.pinned (OpenSpec.ofChange fnExactCorrectColumnSpec)

/-- ITS FALSE NEIGHBOUR: 'it returns false'. Refute it at one input. -/
def fnExactCorrectColumnWrong : ChangeSpec := { name := "fnExactCorrectColumn", fn := fun _ => fun
  | [d1, d2, d3] => { results := [.lit (.bool false)], args := [d1, d2, d3] }
  | _ => none }
def FnExactCorrectColumnWrongFalsely : Prop := fnExactCorrectColumnRow.holds Try.pinned (OpenSpec.ofChange fnExactCorrectColumnWrong)

/- THE SECOND FORM. 'bulk': how many values and letters a reading holds, each counted each time it is reached (what is shared counts as often as it is met; a slice's spare places count too). A statement '..UptoSaid' is the law's where the arguments, and the package variables that the reading takes, are together of bulk at most 1048576: NARROWER than '..Said'. Prove '..Said' where nothing that the law and all that it calls make is longer than what came in: it says more and counts as full. Else prove '..UptoSaid'. A law counts once. -/
mutual
def uptoBulk {H : Type} : DataW H → Nat
  | .lit (.string bytes) => bytes.length + 1
  | .lit _ => 1
  | .nil => 1
  | .ptr d => uptoBulk d + 1
  | .slice elems spare => uptoBulkAll elems + uptoBulkAll spare + 1
  | .agg parts => uptoBulkAll parts + 1
  | .iface _ d => uptoBulk d + 1
  | .map entries => uptoBulkEntries entries + 1
  | .held _ => 1
def uptoBulkAll {H : Type} : List (DataW H) → Nat
  | [] => 0
  | d :: r => uptoBulk d + uptoBulkAll r
def uptoBulkEntries {H : Type} : List (Lit × DataW H) → Nat
  | [] => 0
  | x :: r => uptoBulkEntry x + uptoBulkEntries r
def uptoBulkEntry {H : Type} : Lit × DataW H → Nat
  | (.string bytes, d) => bytes.length + uptoBulk d + 1
  | (_, d) => uptoBulk d + 1
 end
def uptoSmall : (H : Type) → List (DataW H) → Bool := fun _ ds => decide (uptoBulkAll ds ≤ 1048576)
def OpenSpec.upto (s : _root_.Go.ChangeSpec) : _root_.Go.OpenSpec := { _root_.Go.OpenSpec.ofChange s with cond := some uptoSmall }

/-- 'laws.FnExactDistanceOf', WHERE WHAT IT READS IS OF BULK AT MOST 1048576: true; the input reads as it did. -/
def fnExactDistanceOfUptoRow : OpenClaim := { program := "ythkfdfocghmmeaa", sum := "bdabad0a919577c1db557c93008bd258ddd0c13dfabf320e09029c36566ac6d7", func := "loop.example/g01012/laws.FnExactDistanceOf", spec := "fnExactDistanceOf", apart := false, narrowed := true }
def FnExactDistanceOfUptoSaid : Prop := fnExactDistanceOfUptoRow.holds Try.pinned (OpenSpec.upto fnExactDistanceOfSpec)

/-- 'laws.FnExactLaceColumn', WHERE WHAT IT READS IS OF BULK AT MOST 1048576: true; the input reads as it did. -/
def fnExactLaceColumnUptoRow : OpenClaim := { program := "ythkfdfocghmmeaa", sum := "bdabad0a919577c1db557c93008bd258ddd0c13dfabf320e09029c36566ac6d7", func := "loop.example/g01012/laws.FnExactLaceColumn", spec := "fnExactLaceColumn", apart := false, narrowed := true }
def FnExactLaceColumnUptoSaid : Prop := fnExactLaceColumnUptoRow.holds Try.pinned (OpenSpec.upto fnExactLaceColumnSpec)

/-- 'laws.FnExactLacedColumns', WHERE WHAT IT READS IS OF BULK AT MOST 1048576: true; the input reads as it did. -/
def fnExactLacedColumnsUptoRow : OpenClaim := { program := "ythkfdfocghmmeaa", sum := "bdabad0a919577c1db557c93008bd258ddd0c13dfabf320e09029c36566ac6d7", func := "loop.example/g01012/laws.FnExactLacedColumns", spec := "fnExactLacedColumns", apart := false, narrowed := true }
def FnExactLacedColumnsUptoSaid : Prop := fnExactLacedColumnsUptoRow.holds Try.pinned (OpenSpec.upto fnExactLacedColumnsSpec)

/-- 'laws.FnExactShiftCard', WHERE WHAT IT READS IS OF BULK AT MOST 1048576: true; the input reads as it did. -/
def fnExactShiftCardUptoRow : OpenClaim := { program := "ythkfdfocghmmeaa", sum := "bdabad0a919577c1db557c93008bd258ddd0c13dfabf320e09029c36566ac6d7", func := "loop.example/g01012/laws.FnExactShiftCard", spec := "fnExactShiftCard", apart := false, narrowed := true }
def FnExactShiftCardUptoSaid : Prop := fnExactShiftCardUptoRow.holds Try.pinned (OpenSpec.upto fnExactShiftCardSpec)

/-- 'laws.FnExactShiftOf', WHERE WHAT IT READS IS OF BULK AT MOST 1048576: true; the input reads as it did. -/
def fnExactShiftOfUptoRow : OpenClaim := { program := "ythkfdfocghmmeaa", sum := "bdabad0a919577c1db557c93008bd258ddd0c13dfabf320e09029c36566ac6d7", func := "loop.example/g01012/laws.FnExactShiftOf", spec := "fnExactShiftOf", unfollowed := true, recurses := true, apart := false, narrowed := true }
def FnExactShiftOfUptoSaid : Prop := fnExactShiftOfUptoRow.holds Try.pinned (OpenSpec.upto fnExactShiftOfSpec)

/-- 'laws.FnExactAddedHoles', WHERE WHAT IT READS IS OF BULK AT MOST 1048576: true; the input reads as it did. -/
def fnExactAddedHolesUptoRow : OpenClaim := { program := "ythkfdfocghmmeaa", sum := "bdabad0a919577c1db557c93008bd258ddd0c13dfabf320e09029c36566ac6d7", func := "loop.example/g01012/laws.FnExactAddedHoles", spec := "fnExactAddedHoles", apart := false, narrowed := true }
def FnExactAddedHolesUptoSaid : Prop := fnExactAddedHolesUptoRow.holds Try.pinned (OpenSpec.upto fnExactAddedHolesSpec)

/-- 'laws.FnExactLostHoles', WHERE WHAT IT READS IS OF BULK AT MOST 1048576: true; the input reads as it did. -/
def fnExactLostHolesUptoRow : OpenClaim := { program := "ythkfdfocghmmeaa", sum := "bdabad0a919577c1db557c93008bd258ddd0c13dfabf320e09029c36566ac6d7", func := "loop.example/g01012/laws.FnExactLostHoles", spec := "fnExactLostHoles", apart := false, narrowed := true }
def FnExactLostHolesUptoSaid : Prop := fnExactLostHolesUptoRow.holds Try.pinned (OpenSpec.upto fnExactLostHolesSpec)

/-- 'laws.FnExactNearestCard', WHERE WHAT IT READS IS OF BULK AT MOST 1048576: true; the input reads as it did. -/
def fnExactNearestCardUptoRow : OpenClaim := { program := "ythkfdfocghmmeaa", sum := "bdabad0a919577c1db557c93008bd258ddd0c13dfabf320e09029c36566ac6d7", func := "loop.example/g01012/laws.FnExactNearestCard", spec := "fnExactNearestCard", apart := false, narrowed := true }
def FnExactNearestCardUptoSaid : Prop := fnExactNearestCardUptoRow.holds Try.pinned (OpenSpec.upto fnExactNearestCardSpec)

/-- 'laws.FnExactTornColumns', WHERE WHAT IT READS IS OF BULK AT MOST 1048576: true; the input reads as it did. -/
def fnExactTornColumnsUptoRow : OpenClaim := { program := "ythkfdfocghmmeaa", sum := "bdabad0a919577c1db557c93008bd258ddd0c13dfabf320e09029c36566ac6d7", func := "loop.example/g01012/laws.FnExactTornColumns", spec := "fnExactTornColumns", apart := false, narrowed := true }
def FnExactTornColumnsUptoSaid : Prop := fnExactTornColumnsUptoRow.holds Try.pinned (OpenSpec.upto fnExactTornColumnsSpec)

/-- 'laws.FnExactCorrectColumn', WHERE WHAT IT READS IS OF BULK AT MOST 1048576: true; the input reads as it did. -/
def fnExactCorrectColumnUptoRow : OpenClaim := { program := "ythkfdfocghmmeaa", sum := "bdabad0a919577c1db557c93008bd258ddd0c13dfabf320e09029c36566ac6d7", func := "loop.example/g01012/laws.FnExactCorrectColumn", spec := "fnExactCorrectColumn", inPlace := ["internal/bytealg.IndexByteString"], apart := false, narrowed := true }
def FnExactCorrectColumnUptoSaid : Prop := fnExactCorrectColumnUptoRow.holds Try.pinned (OpenSpec.upto fnExactCorrectColumnSpec)

end Rows
end Go.Proofs.Ythkfdfocghmmeaa
