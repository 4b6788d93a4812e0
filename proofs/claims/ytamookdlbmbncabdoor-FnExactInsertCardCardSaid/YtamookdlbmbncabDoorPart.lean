/- spec.PartOf and impl.PartOf give the card that has the columns of a field, or the code, for every card of at most 1048576 columns and every field: contracts, of laws.toField too. -/
import Derived.Test.YtamookdlbmbncabDoorOwn
import Derived.Test.YtamookdlbmbncabDoorFieldOf
import Derived.Deep.RegionHeld3
import Derived.Deep.QuietTactic
import Derived.BigQuiet
import Derived.Laws.NewDeep
namespace Go.Proofs.YtamookdlbmbncabDoor
open Go.ChangeShapes Go.WideShapes Go.ChangeAt Go.RowKit

theorem toField_any (a b : Int) (w : World) :
    Calls Tryd.prog 9 #[.agg #[.int .i64 a, .int .i64 b]] w fun e w' => e = .returned (.agg #[.int .i64 a, .int .i64 b]) ∧ Below w.heap.size w w' := by
  go_enter Tryd.func9, Tryd.ntmps9
  go_wp2
  refine bodyPost_ret (v := .agg #[.int .i64 a, .int .i64 b]) (by simp [results, Tryd.results9, go_sem]) rfl ⟨rfl, ?_⟩
  exact ((below_box w _).alloc (by simp) _).alloc (by simp; omega) _

/-- the code of a card and a field -/
def partCode (xs : List Int) (a b : Int) : Int := if okB xs = false then 1 else if fieldB a b xs.length = false then 2 else 0

/-- the numbers of a field -/
def partOf (xs : List Int) (i j : Nat) : List Int := (xs.drop i).take (j - i)
theorem partOf_length (xs : List Int) (i j : Nat) (h : j ≤ xs.length) : (partOf xs i j).length = j - i := by simp [partOf]; omega
theorem Ints.part {w : World} {B b off : Nat} {xs : List Int} (h : Ints w B (some ⟨b, off, none⟩) xs) (i j : Nat) (hij : i < j) (hj : j ≤ xs.length) : Ints w B (some ⟨b, off + i, none⟩) (partOf xs i j) := by
  intro _
  obtain ⟨b', off', e, hb, hc⟩ := h (by omega)
  injection e with e
  injection e with e1 e2
  subst e1 e2
  refine ⟨b, off + i, rfl, hb, fun t ht => ?_⟩
  rw [partOf_length xs i j hj] at ht
  rw [Nat.add_assoc, hc (i + t) (by omega), partOf, List.getElem?_take_of_lt (by omega), List.getElem?_drop]

theorem l02Part_any (b off c : Nat) (xs : List Int) (p o i j : Nat) (w : World) (hp : w.cell? ⟨p, o, none⟩ = some (.slice (some ⟨b, off, none⟩) xs.length c)) (hc : xs.length ≤ c) (_ : xs.length ≤ 1048576 ∧ c ≤ 9223372036854775807) (hij : i < j) (hj : j ≤ xs.length) :
    Calls Tryd.prog 47 #[.pointer (some ⟨p, o, none⟩), .agg #[.int .i64 i, .int .i64 j]] w fun e w' => e = .returned (.slice (some ⟨b, off + i, none⟩) (j - i) (c - i)) ∧ Below w.heap.size w w' := by
  have hp1 := cell_kept hp (below_box w (.cells #[.int .i64 i, .int .i64 j] 36))
  have hlt := World.block_lt_of_cell? _ _ hp
  obtain ⟨n, hN⟩ : ∃ n, xs.length = n := ⟨_, rfl⟩
  rw [hN] at hp hp1 hc hj
  have i0 : (0 : Int) ≤ (i : Int) := Int.natCast_nonneg _
  have i1 : (i : Int) ≤ (j : Int) := by omega
  have i2 : (j : Int) ≤ (c : Int) := by omega
  have i3 : ¬ c = i := by omega
  clear hN hp
  go_enter Tryd.func47, Tryd.ntmps47
  go_wp2
  go_quiet (fail)
  go_wp2
  go_ret
  exact ⟨rfl, below_drewN (below_box w _) _⟩

theorem partCode_cases (xs : List Int) (a b : Int) : (partCode xs a b = 1 ∧ okB xs = false) ∨ (partCode xs a b = 2 ∧ okB xs = true ∧ fieldB a b xs.length = false) ∨ (partCode xs a b = 0 ∧ okB xs = true ∧ fieldB a b xs.length = true) := by
  unfold partCode
  cases okB xs <;> cases fieldB a b xs.length <;> simp

end Go.Proofs.YtamookdlbmbncabDoor