/- Whether a field is one of so many columns: contracts of spec.l02Field and impl.isFieldOf (as in XPart, which a seat of layouts does not take in). -/
import Derived.Test.YtmmppflaacabbaaDoorM1
import Derived.Test.YtmmppflaacabbaaDoorM6
import Derived.Deep.RegionHeld3
import Derived.Deep.QuietTactic
import Derived.BigQuiet
import Derived.Laws.NewDeep
namespace Go.Proofs.YtmmppflaacabbaaDoor
open Go.ChangeShapes Go.WideShapes Go.ChangeAt Go.RowKit

/-- whether from a to b is a field of n columns -/
def fieldB (a b n : Int) : Bool := decide (0 ≤ a) && (decide (a < b) && decide (b ≤ n))

theorem fieldB_cases (a b n : Int) : (fieldB a b n = false ∧ ¬ 0 ≤ a) ∨ (fieldB a b n = false ∧ 0 ≤ a ∧ ¬ a < b) ∨ (fieldB a b n = false ∧ 0 ≤ a ∧ a < b ∧ ¬ b ≤ n) ∨ (fieldB a b n = true ∧ 0 ≤ a ∧ a < b ∧ b ≤ n) := by
  unfold fieldB
  by_cases h1 : 0 ≤ a
  · by_cases h2 : a < b
    · by_cases h3 : b ≤ n
      · exact Or.inr (Or.inr (Or.inr ⟨by simp [h1, h2, h3], h1, h2, h3⟩))
      · exact Or.inr (Or.inr (Or.inl ⟨by simp [h3], h1, h2, h3⟩))
    · exact Or.inr (Or.inl ⟨by simp [h2], h1, h2⟩)
  · exact Or.inl ⟨by simp [h1], h1⟩

theorem l02Field_any (a b n : Int) (w : World) :
    Calls Tryd.prog 45 #[.agg #[.int .i64 a, .int .i64 b], .int .i64 n] w fun e w' => e = .returned (.bool (fieldB a b n)) ∧ Below w.heap.size w w' := by
  rcases fieldB_cases a b n with ⟨e, h⟩ | ⟨e, h, h2⟩ | ⟨e, h, h2, h3⟩ | ⟨e, h, h2, h3⟩
  all_goals
    rw [e]
    clear e
    go_enter Tryd.func45, Tryd.ntmps45
    go_wp2
    go_ret
    exact ⟨rfl, below_box w _⟩

theorem isFieldOf_any (a b n : Int) (w : World) :
    Calls Tryd.prog 80 #[.agg #[.int .i64 a, .int .i64 b], .int .i64 n] w fun e w' => e = .returned (.bool (fieldB a b n)) ∧ Below w.heap.size w w' := by
  rcases fieldB_cases a b n with ⟨e, h⟩ | ⟨e, h, h2⟩ | ⟨e, h, h2, h3⟩ | ⟨e, h, h2, h3⟩
  all_goals
    rw [e]
    clear e
    go_enter Tryd.func80, Tryd.ntmps80
    go_wp2
    go_ret
    exact ⟨rfl, below_box w _⟩

end Go.Proofs.YtmmppflaacabbaaDoor

/- spec.PartOf and impl.PartOf give the card that has the columns of a field, or the code, for every card of at most 1048576 columns and every field: contracts, of laws.toField too. -/
namespace Go.Proofs.YtmmppflaacabbaaDoor
open Go.ChangeShapes Go.WideShapes Go.ChangeAt Go.RowKit

/-- the code of a card and a field -/
def partCode (xs : List Int) (a b : Int) : Int := if okB xs = false then 1 else if fieldB a b xs.length = false then 2 else 0

/-- the numbers of a field -/
def partOf (xs : List Int) (i j : Nat) : List Int := (xs.drop i).take (j - i)
theorem partOf_length (xs : List Int) (i j : Nat) (h : j ≤ xs.length) : (partOf xs i j).length = j - i := by simp [partOf]; omega
theorem Ints.part {w : World} {B b off : Nat} {xs : List Int} (h : Ints w B (some ⟨b, off, none⟩) xs) (i j : Nat) (hij : i < j) (hj : j ≤ xs.length) : Ints w B (some ⟨b, off + i, none⟩) (partOf xs i j) := by
  intro _
  obtain ⟨b', off', e, hb, hc⟩ := h (by omega)
  injection e with e
  injection e with e1 e2
  subst e1 e2
  refine ⟨b, off + i, rfl, hb, fun t ht => ?_⟩
  rw [partOf_length xs i j hj] at ht
  rw [Nat.add_assoc, hc (i + t) (by omega), partOf, List.getElem?_take_of_lt (by omega), List.getElem?_drop]

theorem l02Part_any (b off c : Nat) (xs : List Int) (p o i j : Nat) (w : World) (hp : w.cell? ⟨p, o, none⟩ = some (.slice (some ⟨b, off, none⟩) xs.length c)) (hc : xs.length ≤ c) (_ : xs.length ≤ 1048576 ∧ c ≤ 9223372036854775807) (hij : i < j) (hj : j ≤ xs.length) :
    Calls Tryd.prog 88 #[.pointer (some ⟨p, o, none⟩), .agg #[.int .i64 i, .int .i64 j]] w fun e w' => e = .returned (.slice (some ⟨b, off + i, none⟩) (j - i) (c - i)) ∧ Below w.heap.size w w' := by
  have hp1 := cell_kept hp (below_box w (.cells #[.int .i64 i, .int .i64 j] 27))
  have hlt := World.block_lt_of_cell? _ _ hp
  obtain ⟨n, hN⟩ : ∃ n, xs.length = n := ⟨_, rfl⟩
  rw [hN] at hp hp1 hc hj
  have i0 : (0 : Int) ≤ (i : Int) := Int.natCast_nonneg _
  have i1 : (i : Int) ≤ (j : Int) := by omega
  have i2 : (j : Int) ≤ (c : Int) := by omega
  have i3 : ¬ c = i := by omega
  clear hN hp
  go_enter Tryd.func88, Tryd.ntmps88
  go_wp2
  go_quiet (fail)
  go_wp2
  go_ret
  exact ⟨rfl, below_drewN (below_box w _) _⟩

theorem partCode_cases (xs : List Int) (a b : Int) : (partCode xs a b = 1 ∧ okB xs = false) ∨ (partCode xs a b = 2 ∧ okB xs = true ∧ fieldB a b xs.length = false) ∨ (partCode xs a b = 0 ∧ okB xs = true ∧ fieldB a b xs.length = true) := by
  unfold partCode
  cases okB xs <;> cases fieldB a b xs.length <;> simp

end Go.Proofs.YtmmppflaacabbaaDoor