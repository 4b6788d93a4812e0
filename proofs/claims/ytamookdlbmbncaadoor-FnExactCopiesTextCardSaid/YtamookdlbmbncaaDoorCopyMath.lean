/- Copies as plain pairs of numbers: when they are valid, what they punch, where two cards differ in them. No function of the program is spoken of. -/
import Derived.Test.YtamookdlbmbncaaDoorBits
import Derived.Test.YtamookdlbmbncaaDoorWherePl
import Derived.Test.YtamookdlbmbncaaDoorSortWidth
namespace Go.Proofs.YtamookdlbmbncaaDoor
open Go.ChangeShapes Go.WideShapes Go.ChangeAt Go.RowKit

/-- copies from f columns to t columns, with targets that rise above l -/
def validTo (f t : Int) : List (Int × Int) → Int → Bool
  | [], _ => true
  | x :: P, l => decide (0 ≤ x.1) && (decide (x.1 < f) && (decide (0 ≤ x.2) && (decide (x.2 < t) && (decide (l < x.2) && validTo f t P x.2))))
def validP (P : List (Int × Int)) (f t : Int) : Bool := inB f 1 20 && (inB t 1 20 && validTo f t P (-1))
theorem validTo_cons {f t l : Int} {x : Int × Int} {P : List (Int × Int)} : validTo f t (x :: P) l = true ↔ (0 ≤ x.1 ∧ x.1 < f ∧ 0 ≤ x.2 ∧ x.2 < t ∧ l < x.2) ∧ validTo f t P x.2 = true := by
  simp only [validTo, Bool.and_eq_true, decide_eq_true_eq]
  constructor
  · rintro ⟨a, b, c, d, e, g⟩; exact ⟨⟨a, b, c, d, e⟩, g⟩
  · rintro ⟨⟨a, b, c, d, e⟩, g⟩; exact ⟨a, b, c, d, e, g⟩
theorem validTo_step {f t l : Int} {x : Int × Int} {P : List (Int × Int)} (h : 0 ≤ x.1 ∧ x.1 < f ∧ 0 ≤ x.2 ∧ x.2 < t ∧ l < x.2) : validTo f t (x :: P) l = validTo f t P x.2 := by
  simp [validTo, h.1, h.2.1, h.2.2.1, h.2.2.2.1, h.2.2.2.2]
theorem validTo_stop {f t l : Int} {x : Int × Int} {P : List (Int × Int)} (h : ¬ (0 ≤ x.1 ∧ x.1 < f ∧ 0 ≤ x.2 ∧ x.2 < t ∧ l < x.2)) : validTo f t (x :: P) l = false := by
  cases hv : validTo f t (x :: P) l with
  | false => rfl
  | true => exact absurd (validTo_cons.1 hv).1 h
theorem validTo_len {f t : Int} : ∀ {P : List (Int × Int)} {l : Int}, -1 ≤ l → l < t → validTo f t P l = true → (P.length : Int) ≤ t - 1 - l
  | [], l, _, h2, _ => by simp; omega
  | x :: P, l, h1, _, h => by
    obtain ⟨⟨a, b, c, d, e⟩, g⟩ := validTo_cons.1 h
    have := validTo_len (P := P) (by omega) d g
    simp only [List.length_cons]
    omega
theorem validTo_at {f t : Int} : ∀ {P : List (Int × Int)} {l : Int}, validTo f t P l = true → ∀ {k : Nat} {x : Int × Int}, P[k]? = some x → 0 ≤ x.1 ∧ x.1 < f ∧ 0 ≤ x.2 ∧ x.2 < t
  | [], _, _, k, x, h => by simp at h
  | y :: P, l, h, 0, x, hk => by
    obtain rfl : y = x := by simpa using hk
    obtain ⟨⟨a, b, c, d, _⟩, _⟩ := validTo_cons.1 h
    exact ⟨a, b, c, d⟩
  | y :: P, l, h, k + 1, x, hk => validTo_at (validTo_cons.1 h).2 (by simpa using hk)
theorem validP_parts {P : List (Int × Int)} {f t : Int} (h : validP P f t = true) : 1 ≤ f ∧ f ≤ 20 ∧ 1 ≤ t ∧ t ≤ 20 ∧ validTo f t P (-1) = true ∧ P.length ≤ 20 := by
  simp only [validP, inB, Bool.and_eq_true, decide_eq_true_eq] at h
  obtain ⟨⟨a, b⟩, ⟨c, d⟩, e⟩ := h
  have := validTo_len (f := f) (t := t) (P := P) (l := -1) (by omega) (by omega) e
  exact ⟨a, b, c, d, e, by omega⟩
/-- valid from fewer columns: valid from 20, and none too far -/
theorem validTo_two {f t : Int} (hf : f ≤ 20) (ht : t ≤ 20) : ∀ (P : List (Int × Int)) (l : Int), validTo f t P l = (validTo 20 20 P l && P.all fun x => decide (x.1 < f) && decide (x.2 < t))
  | [], l => rfl
  | x :: P, l => by
    have ih := validTo_two hf ht P x.2
    by_cases h : 0 ≤ x.1 ∧ x.1 < f ∧ 0 ≤ x.2 ∧ x.2 < t ∧ l < x.2
    · rw [validTo_step h, validTo_step (f := 20) (t := 20) (by omega), ih, List.all_cons]
      simp [h.2.1, h.2.2.2.1]
    · rw [validTo_stop h]
      by_cases h2 : 0 ≤ x.1 ∧ x.1 < 20 ∧ 0 ≤ x.2 ∧ x.2 < 20 ∧ l < x.2
      · rw [List.all_cons]
        have : (decide (x.1 < f) && decide (x.2 < t)) = false := by
          rw [Bool.and_eq_false_iff, decide_eq_false_iff_not, decide_eq_false_iff_not]
          omega
        rw [this]
        simp
      · rw [validTo_stop h2]
        simp

/-- the card o with the copies from c -/
def xferTo (c : List Int) : List Int → List (Int × Int) → List Int
  | o, [] => o
  | o, x :: P => xferTo c (o.set x.2.toNat (bits .or .i64 (o[x.2.toNat]?.getD 0) (c[x.1.toNat]?.getD 0))) P
theorem xferTo_length (c : List Int) : ∀ (o : List Int) (P : List (Int × Int)), (xferTo c o P).length = o.length
  | o, [] => rfl
  | o, x :: P => by rw [xferTo, xferTo_length]; simp
theorem drop_one {α : Type} {L : List α} {k : Nat} {x : α} (h : L[k]? = some x) : L.drop k = x :: L.drop (k + 1) := by
  obtain ⟨hk, e⟩ := List.getElem?_eq_some_iff.1 h
  rw [List.drop_eq_getElem_cons hk, e]
/-- whether two cards differ in copy k -/
def difQ (c o : List Int) (P : List (Int × Int)) (k : Nat) : Bool :=
  match P[k]? with
  | none => false
  | some x => decide (c[x.1.toNat]?.getD 0 ≠ o[x.2.toNat]?.getD 0)
/-- the copies in which two cards differ -/
def difL (c o : List Int) (P : List (Int × Int)) : List Int := wherePl (difQ c o P) P.length

/-- reproduced decks -/
def reprC (H : List (List Int)) (P : List (Int × Int)) (n : Int) : Int := if deckB H = false then 1 else if validP P (widthH H) n = false then 2 else 0
def reprA (H : List (List Int)) (P : List (Int × Int)) (n : Int) : List (List Int) := if reprC H P n = 0 then H.map fun xs => xferTo xs (List.replicate n.toNat 0) P else []
theorem reprC_cases (H : List (List Int)) (P : List (Int × Int)) (n : Int) : (deckB H = false ∧ reprC H P n = 1 ∧ reprA H P n = []) ∨ (deckB H = true ∧ validP P (widthH H) n = false ∧ reprC H P n = 2 ∧ reprA H P n = []) ∨ (deckB H = true ∧ validP P (widthH H) n = true ∧ reprC H P n = 0 ∧ reprA H P n = H.map fun xs => xferTo xs (List.replicate n.toNat 0) P) := by
  unfold reprA reprC
  cases deckB H <;> cases validP P (widthH H) n <;> simp
/-- gang punched decks -/
def gangC (m : List Int) (H : List (List Int)) (P : List (Int × Int)) : Int := if okB m = false then 1 else if deckB H = false then 1 else if validP P m.length (widthH H) = false then 2 else 0
def gangA (m : List Int) (H : List (List Int)) (P : List (Int × Int)) : List (List Int) := if gangC m H P = 0 then H.map fun xs => xferTo m xs P else []
/-- whether a card is a master -/
def mastB (xs : List Int) (k : Nat) : Bool := decide (bits .and .i64 (xs[k]?.getD 0) 2 ≠ 0)
def interTo (k : Nat) (P : List (Int × Int)) : List Int → List (List Int) → List (List Int)
  | _, [] => []
  | m, xs :: H => if mastB xs k = true then xs :: interTo k P xs H else xferTo m xs P :: interTo k P m H
def interC (H : List (List Int)) (k : Int) (P : List (Int × Int)) : Int :=
  if deckB H = false then 1 else if validP P (widthH H) (widthH H) = false then 2 else if decide (0 ≤ k) && decide (k < widthH H) then (match H with | [] => 0 | xs :: _ => if mastB xs k.toNat = true then 0 else 6) else 2
def interA (H : List (List Int)) (k : Int) (P : List (Int × Int)) : List (List Int) := if interC H k P = 0 then interTo k.toNat P [] H else []
theorem interTo_length (k : Nat) (P : List (Int × Int)) : ∀ (m : List Int) (H : List (List Int)), (interTo k P m H).length = H.length
  | _, [] => rfl
  | m, xs :: H => by
    rw [interTo]
    split <;> simp [interTo_length]
/-- a place where two decks differ -/
def pairQ (G H : List (List Int)) (P : List (Int × Int)) (k : Nat) : Bool := decide (0 < (difL (G[k]?.getD []) (H[k]?.getD []) P).length)
def decksTo (G H : List (List Int)) (P : List (Int × Int)) : Nat → Nat → Int
  | 0, _ => if G.length = H.length then -1 else min (G.length : Int) H.length
  | n + 1, k => if k < G.length ∧ k < H.length then (if pairQ G H P k = true then k else decksTo G H P n (k + 1)) else if G.length = H.length then -1 else min (G.length : Int) H.length
def decksC (G H : List (List Int)) (P : List (Int × Int)) : Int := if deckB G = false then 1 else if deckB H = false then 1 else if validP P (widthH G) (widthH H) = false then 2 else 0
def decksA (G H : List (List Int)) (P : List (Int × Int)) : Int := if decksC G H P = 0 then decksTo G H P G.length 0 else 0
/-- joined copies -/
def joinOne (a : List (Int × Int)) (y : Int × Int) : List (Int × Int) := (a.filter fun x => x.2 == y.1).map fun x => (x.1, y.2)
def joinTo (a b : List (Int × Int)) : List (Int × Int) := b.flatMap (joinOne a)
def joinC (a b : List (Int × Int)) : Int := if validTo 20 20 a (-1) = false then 2 else if validTo 20 20 b (-1) = false then 2 else 0
def joinA (a b : List (Int × Int)) : List (Int × Int) := if joinC a b = 0 then joinTo a b else []
end Go.Proofs.YtamookdlbmbncaaDoor
