/- Interspersed gang punching as plain lists: the last master card ahead of a place, what each card becomes. No function of the program is spoken of. -/
import Derived.Test.YtamookdlbmbncaaCopyMath
import Derived.Test.YtamookdlbmbncaaReprD
namespace Go.Proofs.Ytamookdlbmbncaa
open Go.ChangeShapes Go.WideShapes Go.ChangeAt Go.RowKit

/-- the last master among the first cards -/
def lastM (H : List (List Int)) (k : Nat) : Nat → List Int
  | 0 => []
  | t + 1 => if mastB (H[t]?.getD []) k = true then H[t]?.getD [] else lastM H k t
theorem lastM_yes {H : List (List Int)} {k t : Nat} {xs : List Int} (h : H[t]? = some xs) (hm : mastB xs k = true) : lastM H k (t + 1) = xs := by
  rw [lastM, h, Option.getD_some, if_pos hm]
theorem lastM_no {H : List (List Int)} {k t : Nat} {xs : List Int} (h : H[t]? = some xs) (hm : mastB xs k = false) : lastM H k (t + 1) = lastM H k t := by
  rw [lastM, h, Option.getD_some, if_neg (by simp [hm])]
theorem lastM_in {H : List (List Int)} {k : Nat} {xs : List Int} (h0 : H[0]? = some xs) (hm : mastB xs k = true) : ∀ t, 0 < t → t ≤ H.length → lastM H k t ∈ H
  | 0, h, _ => absurd h (by omega)
  | 1, _, _ => by rw [lastM_yes h0 hm]; exact List.mem_of_getElem? h0
  | t + 2, _, hl => by
    have ih := lastM_in h0 hm (t + 1) (by omega) (by omega)
    obtain ⟨ys, hy⟩ : ∃ ys, H[t + 1]? = some ys := ⟨H[t + 1]'(by omega), List.getElem?_eq_getElem _⟩
    cases hb : mastB ys k
    · rw [lastM_no hy hb]; exact ih
    · rw [lastM_yes hy hb]; exact List.mem_of_getElem? hy
/-- what card t becomes -/
def interAt (H : List (List Int)) (k : Nat) (P : List (Int × Int)) (t : Nat) : List Int := if mastB (H[t]?.getD []) k = true then H[t]?.getD [] else xferTo (lastM H k t) (H[t]?.getD []) P
def interL (H : List (List Int)) (k : Nat) (P : List (Int × Int)) : List (List Int) := (List.range H.length).map (interAt H k P)
def interV (H : List (List Int)) (k : Int) (P : List (Int × Int)) : List (List Int) := if interC H k P = 0 then interL H k.toNat P else []
theorem interL_length (H : List (List Int)) (k : Nat) (P : List (Int × Int)) : (interL H k P).length = H.length := by simp [interL]
theorem interL_at {H : List (List Int)} {k : Nat} {P : List (Int × Int)} {t : Nat} (h : t < H.length) : (interL H k P)[t]? = some (interAt H k P t) := by
  simp [interL, h]
theorem interAt_length {H : List (List Int)} {k : Nat} {P : List (Int × Int)} {t : Nat} : (interAt H k P t).length = (H[t]?.getD []).length := by
  unfold interAt
  split
  · rfl
  · rw [xferTo_length]
/-- the cards ahead of place t are those of f -/
def partL (f : Nat → List Int) (H : List (List Int)) (t : Nat) : List (List Int) := (List.range H.length).map fun i => if i < t then f i else H[i]?.getD []
theorem partL_length (f : Nat → List Int) (H : List (List Int)) (t : Nat) : (partL f H t).length = H.length := by simp [partL]
theorem partL_zero (f : Nat → List Int) (H : List (List Int)) : partL f H 0 = H := by
  apply List.ext_getElem?
  intro i
  by_cases hi : i < H.length
  · simp [partL, hi]
  · simp [partL, hi]
theorem partL_all (f : Nat → List Int) (H : List (List Int)) : partL f H H.length = (List.range H.length).map f := by
  unfold partL
  apply List.map_congr_left
  intro i hi
  rw [if_pos (List.mem_range.1 hi)]
theorem partL_at {f : Nat → List Int} {H : List (List Int)} {t : Nat} (h : t < H.length) : (partL f H t)[t]? = H[t]? := by
  simp [partL, h]
theorem partL_set {f : Nat → List Int} {H : List (List Int)} {t : Nat} : (partL f H t).set t (f t) = partL f H (t + 1) := by
  apply List.ext_getElem?
  intro i
  rw [List.getElem?_set]
  by_cases hi : t = i
  · subst hi
    by_cases ht : t < H.length
    · simp [partL, ht]
    · simp [partL, ht]
  · rw [if_neg hi]
    by_cases hl : i < H.length
    · simp only [partL, List.getElem?_map, List.getElem?_range hl, Option.map_some]
      by_cases h1 : i < t
      · rw [if_pos h1, if_pos (by omega)]
      · rw [if_neg h1, if_neg (by omega)]
    · simp [partL, hl]
theorem partL_same {f : Nat → List Int} {H : List (List Int)} {t : Nat} {xs : List Int} (h : H[t]? = some xs) (hf : f t = xs) : partL f H (t + 1) = partL f H t := by
  rw [← partL_set]
  obtain ⟨ht, _⟩ := List.getElem?_eq_some_iff.1 h
  have := partL_at (f := f) ht
  rw [h] at this
  apply List.ext_getElem?
  intro i
  rw [List.getElem?_set]
  by_cases hi : t = i
  · subst hi
    rw [if_pos rfl, if_pos (by rw [partL_length]; exact ht), this, hf]
  · rw [if_neg hi]

/-- a card without holes punches nothing -/
theorem or_zero {x : Int} (h0 : 0 ≤ x) (h1 : x ≤ 4095) : bits .or .i64 x 0 = x := by
  have key : ∀ a : Fin 64, ∀ b : Fin 64, bits .or .i64 ((64 * a.val + b.val : Nat) : Int) 0 = ((64 * a.val + b.val : Nat) : Int) := by decide +kernel
  have := key ⟨x.toNat / 64, by omega⟩ ⟨x.toNat % 64, by omega⟩
  have e : ((64 * (x.toNat / 64) + x.toNat % 64 : Nat) : Int) = x := by omega
  rw [e] at this
  exact this
theorem xfer_zeros (z : Nat) : ∀ (P : List (Int × Int)) (l : Int) (o : List Int), validTo z o.length P l = true → (∀ x ∈ o, 0 ≤ x ∧ x ≤ 4095) → xferTo (List.replicate z 0) o P = o
  | [], _, _, _, _ => rfl
  | x :: P, l, o, h, ho => by
    obtain ⟨⟨a, b, c, d, _⟩, hv⟩ := validTo_cons.1 h
    have hq : x.2.toNat < o.length := by omega
    have e1 : (List.replicate z (0 : Int))[x.1.toNat]?.getD 0 = 0 := by
      rw [List.getElem?_replicate]
      split <;> rfl
    have e2 : o[x.2.toNat]?.getD 0 = o[x.2.toNat] := by rw [List.getElem?_eq_getElem hq]; rfl
    obtain ⟨g1, g2⟩ := ho (o[x.2.toNat]) (List.getElem_mem hq)
    rw [xferTo, e1, e2, or_zero g1 g2, List.set_getElem_self]
    exact xfer_zeros z P x.2 o hv ho
theorem legal_each {xs : List Int} (h : okB xs = true) : ∀ x ∈ xs, 0 ≤ x ∧ x ≤ 4095 := fun x hx => by
  have := List.all_eq_true.1 (okB_parts h).1 x hx
  simpa [maskB, inB] using this
theorem interC_cases (H : List (List Int)) (k : Int) (P : List (Int × Int)) :
    (deckB H = false ∧ interC H k P = 1 ∧ interV H k P = []) ∨ (deckB H = true ∧ validP P (widthH H) (widthH H) = false ∧ interC H k P = 2 ∧ interV H k P = []) ∨
    (deckB H = true ∧ validP P (widthH H) (widthH H) = true ∧ ¬ (0 ≤ k ∧ k < widthH H) ∧ interC H k P = 2 ∧ interV H k P = []) ∨
    (deckB H = true ∧ validP P (widthH H) (widthH H) = true ∧ (0 ≤ k ∧ k < widthH H) ∧ (∃ xs, H[0]? = some xs ∧ mastB xs k.toNat = false) ∧ interC H k P = 6 ∧ interV H k P = []) ∨
    (deckB H = true ∧ validP P (widthH H) (widthH H) = true ∧ (0 ≤ k ∧ k < widthH H) ∧ (∀ xs, H[0]? = some xs → mastB xs k.toNat = true) ∧ interC H k P = 0 ∧ interV H k P = interL H k.toNat P) := by
  cases h1 : deckB H
  · left; simp [interV, interC, h1]
  · cases h2 : validP P (widthH H) (widthH H)
    · right; left; simp [interV, interC, h1, h2]
    · by_cases h3 : 0 ≤ k ∧ k < widthH H
      · cases H with
        | nil => right; right; right; right; simp [interV, interC, h1, h2, h3]
        | cons xs H =>
          cases h4 : mastB xs k.toNat
          · right; right; right; left; simp [interV, interC, h1, h2, h3, h4]
          · right; right; right; right; simp [interV, interC, h1, h2, h3, h4]
      · have e : (decide (0 ≤ k) && decide (k < (widthH H : Int))) = false := colB_false h3
        right; right; left; simp [interV, interC, h1, h2, e, h3]
theorem interV_length (H : List (List Int)) (k : Int) (P : List (Int × Int)) : (interV H k P).length ≤ 1048576 := by
  rcases interC_cases H k P with ⟨_, _, e⟩ | ⟨_, _, _, e⟩ | ⟨_, _, _, _, e⟩ | ⟨_, _, _, _, _, e⟩ | ⟨h, _, _, _, _, e⟩ <;> rw [e]
  · simp
  · simp
  · simp
  · simp
  · have := deck_len h
    rw [interL_length]; omega
theorem interV_total (H : List (List Int)) (k : Int) (P : List (Int × Int)) : totH (interV H k P) ≤ 1048576 := by
  rcases interC_cases H k P with ⟨_, _, e⟩ | ⟨_, _, _, e⟩ | ⟨_, _, _, _, e⟩ | ⟨_, _, _, _, _, e⟩ | ⟨h, _, _, _, _, e⟩ <;> rw [e]
  · simp [totH]
  · simp [totH]
  · simp [totH]
  · simp [totH]
  · have := deck_len h
    refine tot_le (by rw [interL_length]; exact this) fun xs hxs => ?_
    obtain ⟨t, ht, rfl⟩ := List.mem_map.1 hxs
    rw [interAt_length]
    have ht' := List.mem_range.1 ht
    rw [List.getElem?_eq_getElem ht']
    exact (okB_parts (deck_width h (List.getElem?_eq_getElem ht')).1).2
end Go.Proofs.Ytamookdlbmbncaa
