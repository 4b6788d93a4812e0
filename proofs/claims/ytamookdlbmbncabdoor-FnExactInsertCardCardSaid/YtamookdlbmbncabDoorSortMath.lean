/- What sorting looks at, as plain functions: the number of columns of a deck, whether the columns of a field have characters, the code, and where the first step is. -/
import Derived.Test.YtamookdlbmbncabDoorG1
import Derived.Test.YtamookdlbmbncabDoorCompare
namespace Go.Proofs.YtamookdlbmbncabDoor
open Go.ChangeShapes Go.WideShapes Go.ChangeAt Go.RowKit

/-- whether the columns from i to j of all cards have characters -/
def keysB (H : List (List Int)) (i j : Nat) : Bool := H.all fun xs => textOk (partOf xs i j)
/-- the code of a deck and a field -/
def keysC (H : List (List Int)) (a b : Int) : Int := if deckB H = false then 1 else if fieldB a b (widthH H) = false then 2 else if keysB H a.toNat b.toNat = false then 8 else 0
theorem keysC_cases (H : List (List Int)) (a b : Int) : (keysC H a b = 1 ∧ deckB H = false) ∨ (keysC H a b = 2 ∧ deckB H = true ∧ fieldB a b (widthH H) = false) ∨
    (∃ i j : Nat, a = i ∧ b = j ∧ i < j ∧ j ≤ widthH H ∧ deckB H = true ∧ fieldB i j (widthH H) = true ∧ keysC H a b = if keysB H i j = false then 8 else 0) := by
  unfold keysC
  cases h1 : deckB H
  · left; simp
  · cases h2 : fieldB a b (widthH H)
    · right; left; simp
    · right; right
      have h' : 0 ≤ a ∧ a < b ∧ b ≤ (widthH H : Int) := by simpa [fieldB] using h2
      have ha : a = (a.toNat : Int) := by omega
      have hb : b = (b.toNat : Int) := by omega
      refine ⟨a.toNat, b.toNat, ha, hb, by omega, by omega, rfl, ?_, ?_⟩
      · rw [← ha, ← hb]; exact h2
      · rw [if_neg (by simp), if_neg (by simp)]

/-- how two cards compare by the columns from i to j -/
def cmpK (H : List (List Int)) (i j p q : Nat) : Int := cmpTo (partOf (H[p]?.getD []) i j) (partOf (H[q]?.getD []) i j) (j - i)
/-- the first k from there on, m of them, with q -/
def stepFrom (q : Nat → Bool) : Nat → Nat → Int
  | 0, _ => -1
  | m + 1, k => if q k = true then (k : Int) else stepFrom q m (k + 1)
theorem stepFrom_succ (q : Nat → Bool) (m k : Nat) : stepFrom q (m + 1) k = if q k = true then (k : Int) else stepFrom q m (k + 1) := rfl
def lessB (H : List (List Int)) (i j k : Nat) : Bool := decide (cmpK H i j k (k - 1) < 0)
/-- the first card that is less than the one before it, -1 if there is none -/
def stepV (H : List (List Int)) (i j : Nat) : Int := stepFrom (lessB H i j) (H.length - 1) 1

theorem keysB_more {H : List (List Int)} {i j k : Nat} {xs : List Int} (hk : H[k]? = some xs) (h : keysB (H.take k) i j = true) (e : textOk (partOf xs i j) = true) : keysB (H.take (k + 1)) i j = true :=
  all_more _ H k xs hk h e
theorem keysB_bad {H : List (List Int)} {i j k : Nat} {xs : List Int} (hk : H[k]? = some xs) (e : textOk (partOf xs i j) = false) : keysB H i j = false :=
  all_bad _ H k xs hk e
theorem keysB_at {H : List (List Int)} {i j k : Nat} {xs : List Int} (hk : H[k]? = some xs) (h : keysB H i j = true) : textOk (partOf xs i j) = true :=
  List.all_eq_true.1 h xs (List.mem_of_getElem? hk)
end Go.Proofs.YtamookdlbmbncabDoor
