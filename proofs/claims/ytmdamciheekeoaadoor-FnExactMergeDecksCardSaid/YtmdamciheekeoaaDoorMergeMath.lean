/- Merging two sorted decks, as plain functions: the merged deck, and the code. No function of the program is spoken of. -/
import Derived.Test.YtmdamciheekeoaaDoorColMath
namespace Go.Proofs.YtmdamciheekeoaaDoor
open Go.ChangeShapes Go.WideShapes Go.ChangeAt Go.RowKit

/-- the merged deck: the first one's cards ahead of equal ones of the second -/
def mg (i j : Nat) : List (List Int) → List (List Int) → List (List Int)
  | [], B => B
  | a :: A, [] => a :: A
  | a :: A, b :: B => if cmpTo (partOf a i j) (partOf b i j) (j - i) ≤ 0 then a :: mg i j A (b :: B) else b :: mg i j (a :: A) B
termination_by A B => A.length + B.length
theorem mg_left (i j : Nat) (B : List (List Int)) : mg i j [] B = B := by
  unfold mg
  rfl
theorem mg_right (i j : Nat) (A : List (List Int)) : mg i j A [] = A := by
  cases A with
  | nil => exact mg_left i j []
  | cons a A => unfold mg; rfl
theorem mg_le {i j : Nat} {a b : List Int} {A B : List (List Int)} (h : cmpTo (partOf a i j) (partOf b i j) (j - i) ≤ 0) : mg i j (a :: A) (b :: B) = a :: mg i j A (b :: B) := by
  rw [mg, if_pos h]
theorem mg_gt {i j : Nat} {a b : List Int} {A B : List (List Int)} (h : ¬ cmpTo (partOf a i j) (partOf b i j) (j - i) ≤ 0) : mg i j (a :: A) (b :: B) = b :: mg i j (a :: A) B := by
  rw [mg, if_neg h]
theorem mg_perm (i j : Nat) : ∀ (m : Nat) (A B : List (List Int)), A.length + B.length = m → (mg i j A B).Perm (A ++ B)
  | _, [], B, _ => by rw [mg_left]; exact List.Perm.refl _
  | _, a :: A, [], _ => by rw [mg_right, List.append_nil]
  | 0, a :: A, b :: B, h => by simp at h
  | m + 1, a :: A, b :: B, h => by
    simp only [List.length_cons] at h
    by_cases hc : cmpTo (partOf a i j) (partOf b i j) (j - i) ≤ 0
    · rw [mg_le hc]
      exact List.Perm.cons a (mg_perm i j m A (b :: B) (by simp only [List.length_cons]; omega))
    · rw [mg_gt hc]
      exact (List.Perm.cons b (mg_perm i j m (a :: A) B (by simp only [List.length_cons]; omega))).trans (List.perm_middle.symm)
theorem mg_length (i j : Nat) (A B : List (List Int)) : (mg i j A B).length = A.length + B.length := by
  rw [(mg_perm i j _ A B rfl).length_eq, List.length_append]

/-- the code of two decks and a field -/
def twoC (H G : List (List Int)) (a b : Int) : Int := firstC [keysC H a b, keysC G a b]
/-- whether both have cards, with different numbers of columns -/
def clashB (H G : List (List Int)) : Bool := decide (0 < H.length) && decide (0 < G.length) && !decide (widthH H = widthH G)
def mergeC (H G : List (List Int)) (a b : Int) : Int :=
  if twoC H G a b ≠ 0 then twoC H G a b else if clashB H G = true then 9 else if 0 ≤ stepV H a.toNat b.toNat ∨ 0 ≤ stepV G a.toNat b.toNat then 6 else if 40 < H.length + G.length then 5 else 0
def mergeA (H G : List (List Int)) (a b : Int) : List (List Int) := if mergeC H G a b = 0 then mg a.toNat b.toNat H G else []
theorem two_zero {H G : List (List Int)} {a b : Int} (h : twoC H G a b = 0) : keysC H a b = 0 ∧ keysC G a b = 0 := by
  unfold twoC firstC at h
  rcases keysC_vals H a b with e | e | e | e <;> rcases keysC_vals G a b with f | f | f | f <;> rw [e, f] at h <;> first | exact ⟨e, f⟩ | (exfalso; revert h; decide)
theorem two_vals (H G : List (List Int)) (a b : Int) : twoC H G a b = if keysC H a b = 1 ∨ keysC G a b = 1 then 1 else if keysC H a b = 2 ∨ keysC G a b = 2 then 2 else if keysC H a b = 8 ∨ keysC G a b = 8 then 8 else 0 := by
  unfold twoC firstC
  rcases keysC_vals H a b with e | e | e | e <;> rcases keysC_vals G a b with f | f | f | f <;> rw [e, f] <;> decide
theorem merge_two {H G : List (List Int)} {a b : Int} (h : mergeC H G a b = 0) : twoC H G a b = 0 := by
  unfold mergeC at h
  by_cases h1 : twoC H G a b ≠ 0
  · rw [if_pos h1] at h; exact absurd h h1
  · omega
theorem mergeA_length (H G : List (List Int)) (a b : Int) : (mergeA H G a b).length ≤ 1048576 := by
  unfold mergeA
  by_cases h : mergeC H G a b = 0
  · rw [if_pos h, mg_length]
    obtain ⟨h1, h2⟩ := two_zero (merge_two h)
    have := (key_len h1).1
    have := (key_len h2).1
    omega
  · rw [if_neg h]; simp
theorem deck_total {H : List (List Int)} (h : deckB H = true) : totH H ≤ 800 := by
  have hl := deck_len h
  have key : ∀ (L : List (List Int)), (∀ x ∈ L, x.length ≤ 20) → totH L ≤ L.length * 20 := by
    intro L hL
    unfold totH
    induction L with
    | nil => simp
    | cons x L ih =>
      have h1 := hL x (by simp)
      have h2 := ih fun y hy => hL y (by simp [hy])
      simp only [List.map_cons, List.sum_cons, List.length_cons, Nat.succ_mul]
      omega
  have := key H fun x hx => by
    obtain ⟨k, hk, rfl⟩ := List.getElem_of_mem hx
    obtain ⟨y1, _⟩ := deck_width h (List.getElem?_eq_getElem hk)
    exact (okB_parts y1).2
  omega
theorem mergeA_total (H G : List (List Int)) (a b : Int) : totH (mergeA H G a b) ≤ 1048576 := by
  unfold mergeA
  by_cases h : mergeC H G a b = 0
  · rw [if_pos h]
    obtain ⟨h1, h2⟩ := two_zero (merge_two h)
    have e : totH (mg a.toNat b.toNat H G) = totH H + totH G := by
      unfold totH
      rw [((mg_perm a.toNat b.toNat _ H G rfl).map List.length).sum_nat, List.map_append, List.sum_append]
    have := deck_total (key_len h1).2
    have := deck_total (key_len h2).2
    omega
  · rw [if_neg h]; simp [totH]
end Go.Proofs.YtmdamciheekeoaaDoor
