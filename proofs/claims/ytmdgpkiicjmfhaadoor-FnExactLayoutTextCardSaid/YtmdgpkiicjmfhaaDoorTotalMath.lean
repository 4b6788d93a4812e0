/- What ItemTotal answers, as plain functions: the checks, the item that is asked for, the sum of the numbers. -/
import Derived.Test.YtmdgpkiicjmfhaaDoorNamed
import Derived.Test.YtmdgpkiicjmfhaaDoorDeckValid
import Derived.Test.YtmdgpkiicjmfhaaDoorNumberIn
namespace Go.Proofs.YtmdgpkiicjmfhaaDoor
open Go.ChangeShapes Go.WideShapes Go.ChangeAt Go.RowKit

/-- the sum of the numbers in the columns from i to j of the first k cards, none if one of them has no number -/
def sumTo (H : List (List Int)) (i j : Nat) : Nat → Option Int
  | 0 => some 0
  | k + 1 => match sumTo H i j k with
    | none => none
    | some s => match numOf (partOf (H[k]?.getD []) i j) with
      | none => none
      | some n => some (wrap64 (s + n))
theorem sumTo_more {H : List (List Int)} {i j k : Nat} {s n : Int} {xs : List Int} (h : sumTo H i j k = some s) (hx : H[k]? = some xs) (hn : numOf (partOf xs i j) = some n) : sumTo H i j (k + 1) = some (wrap64 (s + n)) := by
  rw [sumTo, h, hx]
  simp only [Option.getD_some, hn]
theorem sumTo_none {H : List (List Int)} {i j k : Nat} (h : sumTo H i j k = none) : ∀ m, sumTo H i j (k + m) = none
  | 0 => h
  | m + 1 => by rw [← Nat.add_assoc, sumTo, sumTo_none h m]
theorem sumTo_stop {H : List (List Int)} {i j k n : Nat} {xs : List Int} (hx : H[k]? = some xs) (hn : numOf (partOf xs i j) = none) (hk : k < n) : sumTo H i j n = none := by
  have h : sumTo H i j (k + 1) = none := by
    rw [sumTo, hx]
    simp only [Option.getD_some, hn]
    split <;> rfl
  have := sumTo_none h (n - (k + 1))
  rwa [show k + 1 + (n - (k + 1)) = n by omega] at this

/-- the code of a layout and a deck -/
def chkC (u : Int) (ds : List It) (H : List (List Int)) : Int := if layoutB u ds = false then 1 else if deckB H = false then 1 else if H.length ≠ 0 ∧ (firstZ H : Int) ≠ u then 2 else 0
theorem chkC_cases (u : Int) (ds : List It) (H : List (List Int)) : (chkC u ds H = 1 ∧ layoutB u ds = false) ∨ (chkC u ds H = 1 ∧ layoutB u ds = true ∧ deckB H = false) ∨ (chkC u ds H = 2 ∧ layoutB u ds = true ∧ deckB H = true ∧ H.length ≠ 0 ∧ (firstZ H : Int) ≠ u) ∨
    (chkC u ds H = 0 ∧ layoutB u ds = true ∧ deckB H = true ∧ (H.length = 0 ∨ (firstZ H : Int) = u)) := by
  unfold chkC
  cases h1 : layoutB u ds
  · left; simp
  · cases h2 : deckB H
    · right; left; simp
    · by_cases h3 : H.length ≠ 0 ∧ (firstZ H : Int) ≠ u
      · right; right; left
        exact ⟨by rw [if_neg (by simp), if_neg (by simp), if_pos h3], rfl, rfl, h3⟩
      · right; right; right
        refine ⟨by rw [if_neg (by simp), if_neg (by simp), if_neg h3], rfl, rfl, ?_⟩
        omega
theorem okTo_at {ds : List It} {u : Int} : ∀ {n i : Nat} {d : It}, okTo ds u n = true → i < n → ds[i]? = some d → itemB d u = true
  | 0, _, _, _, h, _ => by omega
  | n + 1, i, d, h, hi, hd => by
    rw [okTo, Bool.and_eq_true] at h
    rcases Nat.lt_or_ge i n with hlt | hge
    · exact okTo_at h.1 hlt hd
    · obtain rfl : i = n := by omega
      rw [hd] at h
      have h2 := h.2
      simp only [Bool.and_eq_true] at h2
      exact h2.1
theorem layout_item {u : Int} {ds : List It} {i : Nat} {d : It} (h : layoutB u ds = true) (hd : ds[i]? = some d) : itemB d u = true := by
  obtain ⟨hi, _⟩ := List.getElem?_eq_some_iff.1 hd
  rw [layoutB, Bool.and_eq_true, Bool.and_eq_true] at h
  exact okTo_at h.2.1 hi hd
theorem itemB_field {d : It} {u : Int} (h : itemB d u = true) : fieldB d.f0 d.f1 u = true ∧ (d.kind = 1 ∨ (d.kind = 2 ∧ d.f1 - d.f0 ≤ 12)) := by
  unfold itemB inB at h
  simp only [Bool.and_eq_true, Bool.or_eq_true, decide_eq_true_eq] at h
  refine ⟨h.2.2.1, ?_⟩
  omega
theorem layout_size {u : Int} {ds : List It} (h : layoutB u ds = true) : ds.length ≤ 12 ∧ 1 ≤ u ∧ u ≤ 20 := by
  rw [layoutB, Bool.and_eq_true, Bool.and_eq_true] at h
  unfold inB at h
  simp only [Bool.and_eq_true, decide_eq_true_eq] at h
  omega

/-- the item that is asked for -/
def itemOf (ds : List It) (s : ByteArray) : Option It := if nameTo ds s ds.length = true then ds[(firstTo ds s ds.length).toNat]? else none
/-- the code of ItemTotal, and its answer -/
def totC (u : Int) (ds : List It) (s : ByteArray) (H : List (List Int)) : Int :=
  if chkC u ds H ≠ 0 then chkC u ds H else match itemOf ds s with
    | none => 3
    | some d => if d.kind ≠ 2 then 6 else match sumTo H d.f0.toNat d.f1.toNat H.length with
      | none => 8
      | some _ => 0
def totV (u : Int) (ds : List It) (s : ByteArray) (H : List (List Int)) : Int :=
  if chkC u ds H ≠ 0 then 0 else match itemOf ds s with
    | none => 0
    | some d => if d.kind ≠ 2 then 0 else match sumTo H d.f0.toNat d.f1.toNat H.length with
      | none => 0
      | some n => n
theorem itemOf_cases (ds : List It) (s : ByteArray) : (itemOf ds s = none ∧ firstTo ds s ds.length = -1 ∧ nameTo ds s ds.length = false) ∨ (∃ (p : Nat) (d : It), p < ds.length ∧ ds[p]? = some d ∧ itemOf ds s = some d ∧ firstTo ds s ds.length = p ∧ nameTo ds s ds.length = true) := by
  rcases firstTo_cases ds s ds.length with ⟨h1, h2⟩ | ⟨p, hp, h1, h2⟩
  · left
    exact ⟨by rw [itemOf, h2]; rfl, h1, h2⟩
  · right
    refine ⟨p, ds[p], hp, List.getElem?_eq_getElem hp, ?_, h1, h2⟩
    rw [itemOf, h2, if_pos rfl, h1, Int.toNat_natCast, List.getElem?_eq_getElem hp]
end Go.Proofs.YtmdgpkiicjmfhaaDoor
