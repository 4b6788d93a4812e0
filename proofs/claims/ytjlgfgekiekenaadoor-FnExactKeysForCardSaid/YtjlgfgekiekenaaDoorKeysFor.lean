/- The keys for a card, as plain functions, and what tells that they give it again. -/
import Derived.Test.YtjlgfgekiekenaaDoorPunchBy
import Derived.Test.YtjlgfgekiekenaaDoorRead
import Derived.Test.YtjlgfgekiekenaaDoorVerify
namespace Go.Proofs.YtjlgfgekiekenaaDoor
open Go.ChangeShapes Go.WideShapes Go.ChangeAt Go.RowKit

theorem char_back (m : Int) (h : charOk m = true) : codeS (charV m) = m ∧ 0 ≤ charV m ∧ charV m ≤ 255 := by
  unfold charOk at h
  unfold charV
  cases hr : rankM m with
  | none => rw [hr] at h; cases h
  | some j =>
    obtain ⟨h1, h2, _⟩ := rankM_some hr
    refine ⟨h2, ?_, ?_⟩
    · unfold charR; exact Int.natCast_nonneg _
    · have := (orderL[j]?.getD 0).toNat_lt
      show ((orderL[j]?.getD 0).toNat : Int) ≤ 255
      omega
theorem code_nonneg (m : Int) (h : charOk m = true) : 0 ≤ m := by
  unfold charOk at h
  cases hr : rankM m with
  | none => rw [hr] at h; cases h
  | some j =>
    obtain ⟨h1, h2, _⟩ := rankM_some hr
    rw [← h2, codes_at j h1]
    exact Int.natCast_nonneg _

/-- the holes of the columns for which keys are struck, among the first k -/
def kfM (s : ByteArray) (cs : List Int) : Nat → List Int
  | 0 => []
  | k + 1 => if keyB (s.get! k).toNat then kfM s cs k ++ [cs[k]?.getD 0] else kfM s cs k
theorem kfM_length (s : ByteArray) (cs : List Int) : ∀ k, (kfM s cs k).length = keysTo s k
  | 0 => rfl
  | k + 1 => by
    have ih := kfM_length s cs k
    rw [kfM, keysTo]
    cases keyB (s.get! k).toNat
    · simpa using ih
    · simpa using ih
theorem kfM_get (s : ByteArray) (cs : List Int) (i : Nat) (hi : keyB (s.get! i).toNat = true) : ∀ n, i < n → (kfM s cs n)[keysTo s i]? = some (cs[i]?.getD 0)
  | 0, h => by omega
  | n + 1, h => by
    have hl := kfM_length s cs n
    by_cases e : i = n
    · subst e
      rw [kfM, if_pos hi, List.getElem?_append_right (by omega), hl, Nat.sub_self]
      rfl
    · have ih := kfM_get s cs i hi n (by omega)
      have hlt := keysTo_mono s (i + 1) n (by omega)
      rw [keysTo_key s i hi] at hlt
      rw [kfM]
      cases keyB (s.get! n).toNat
      · simpa using ih
      · rw [if_pos rfl, List.getElem?_append_left (by omega)]
        exact ih
/-- whether column i is as keys may punch it -/
def kfCol (s : ByteArray) (bs cs : List Int) (i : Nat) : Bool :=
  if keyB (s.get! i).toNat then charOk (cs[i]?.getD 0) && !(decide ((s.get! i).toNat = 110) && !digC (charV (cs[i]?.getD 0)).toNat)
  else if (s.get! i).toNat = 100 then decide (cs[i]?.getD 0 = bs[i]?.getD 0) else decide (cs[i]?.getD 0 = 0)
def kfTo (s : ByteArray) (bs cs : List Int) (k : Nat) : Bool := (List.range k).all (kfCol s bs cs)
theorem kfTo_succ (s : ByteArray) (bs cs : List Int) (k : Nat) : kfTo s bs cs (k + 1) = (kfTo s bs cs k && kfCol s bs cs k) := by simp [kfTo, List.range_succ]
theorem kfTo_bad (s : ByteArray) (bs cs : List Int) (k n : Nat) (hk : k < n) (h : kfCol s bs cs k = false) : kfTo s bs cs n = false := by
  rw [kfTo, List.all_eq_false]
  exact ⟨k, by simpa using hk, by simpa using h⟩
theorem kfTo_text (s : ByteArray) (bs cs : List Int) : ∀ k, kfTo s bs cs k = true → textOk (kfM s cs k) = true
  | 0, _ => rfl
  | k + 1, h => by
    rw [kfTo_succ, Bool.and_eq_true] at h
    have ih := kfTo_text s bs cs k h.1
    have h2 := h.2
    unfold kfCol at h2
    rw [kfM]
    cases hk : keyB (s.get! k).toNat
    · exact ih
    · rw [hk, if_pos rfl, Bool.and_eq_true] at h2
      rw [if_pos rfl, textOk, List.all_append]
      unfold textOk at ih
      rw [ih]
      simpa using h2.1

/-- the keys -/
def kfK (s : ByteArray) (cs : List Int) : ByteArray := textS (kfM s cs s.size)
theorem kfK_size (s : ByteArray) (cs : List Int) : (kfK s cs).size = keysTo s s.size := by
  show (textL (kfM s cs s.size)).toArray.size = _
  rw [List.size_toArray, textL_length, kfM_length]
theorem kfK_get (s : ByteArray) (cs : List Int) (i : Nat) (hi : keyB (s.get! i).toNat = true) (h : i < s.size) : ((kfK s cs).get! (keysTo s i)).toNat = (charV (cs[i]?.getD 0)).toNat := by
  have hg := kfM_get s cs i hi s.size h
  have hlt : keysTo s i < (kfK s cs).size := by rw [kfK_size]; exact keysTo_lt s i h hi
  rw [byte_of _ _ hlt]
  have e : (kfK s cs)[keysTo s i]'hlt = byteV (cs[i]?.getD 0) := by
    show (textL (kfM s cs s.size)).toArray[keysTo s i]'_ = _
    have hl : keysTo s i < (kfM s cs s.size).length := by rw [kfM_length]; exact keysTo_lt s i h hi
    rw [List.getElem?_eq_getElem hl] at hg
    injection hg with hg
    simp [textL, hg]
  rw [e]
  have := byteV_int (cs[i]?.getD 0)
  omega
theorem text_mem (xs : List Int) (k : Nat) (x : Int) (h : textOk xs = true) (hx : xs[k]? = some x) : charOk x = true :=
  List.all_eq_true.1 h x (List.mem_of_getElem? hx)

/-- what a column gives with these keys -/
theorem kf_col (s : ByteArray) (bs cs : List Int) (i : Nat) (h : i < s.size) (hl : lettersTo s s.size = true) (ht : textOk (kfM s cs s.size) = true) :
    (colBad s (kfK s cs) i = 0 ∧ colVal s bs (kfK s cs) i = cs[i]?.getD 0) ↔ kfCol s bs cs i = true := by
  unfold colBad colVal kfCol
  cases hk : keyB (s.get! i).toNat
  · have hlet := letter_at s i hl h
    simp only [Bool.false_eq_true, if_false]
    by_cases h100 : (s.get! i).toNat = 100
    · rw [if_pos h100, if_pos h100]
      simp only [true_and, decide_eq_true_eq]
      exact eq_comm
    · rw [if_neg h100, if_neg h100]
      simp only [true_and, decide_eq_true_eq]
      exact eq_comm
  · have hok : charOk (cs[i]?.getD 0) = true := text_mem _ _ _ ht (kfM_get s cs i hk s.size h)
    obtain ⟨hcb, hc0, hc1⟩ := char_back _ hok
    have hnn := code_nonneg _ hok
    have hg := kfK_get s cs i hk h
    have hgi : (((kfK s cs).get! (keysTo s i)).toNat : Int) = charV (cs[i]?.getD 0) := by rw [hg]; omega
    simp only [if_true]
    rw [hgi, hcb, if_neg (by omega), hg, hok]
    by_cases h110 : (s.get! i).toNat = 110
    · rw [if_pos h110, decide_eq_true h110]
      cases digC (charV (cs[i]?.getD 0)).toNat <;> simp
    · rw [if_neg h110, decide_eq_false h110]
      simp
theorem badC_zero (s K : ByteArray) : ∀ n, badC s K n = 0 ↔ ∀ i, i < n → colBad s K i = 0
  | 0 => by simp [badC]
  | n + 1 => by
    have ih := badC_zero s K n
    by_cases h : badC s K n = 0
    · rw [badC_step s K n h]
      constructor
      · intro hc i hi
        by_cases e : i = n
        · rw [e]; exact hc
        · exact ih.1 h i (by omega)
      · intro hh
        exact hh n (by omega)
    · constructor
      · intro hc
        rw [badC, if_neg h] at hc
        exact absurd hc h
      · intro hh
        exact absurd (ih.2 fun i hi => hh i (by omega)) h
theorem punL_eq (s : ByteArray) (bs cs : List Int) (K : ByteArray) (n : Nat) (hl : cs.length = n) : punL s bs K n = cs ↔ ∀ i, i < n → colVal s bs K i = cs[i]?.getD 0 := by
  constructor
  · intro e i hi
    rw [← e, punL_get s bs K n i hi]
  · intro hh
    apply List.ext_getElem?
    intro i
    by_cases hi : i < n
    · have h1 := punL_get s bs K n i hi
      have e1 : (punL s bs K n)[i]? = some ((punL s bs K n)[i]?.getD 0) := by
        rw [List.getElem?_eq_getElem (by rw [punL_length]; exact hi)]
        rfl
      have e2 : cs[i]? = some (cs[i]?.getD 0) := by
        rw [List.getElem?_eq_getElem (by omega)]
        rfl
      rw [e1, e2, h1, hh i hi]
    · rw [List.getElem?_eq_none (by rw [punL_length]; omega), List.getElem?_eq_none (by omega)]
theorem kf_main (s : ByteArray) (bs cs : List Int) (hl : lettersTo s s.size = true) (hc : cs.length = s.size) (ht : textOk (kfM s cs s.size) = true) :
    (badC s (kfK s cs) s.size = 0 ∧ punL s bs (kfK s cs) s.size = cs) ↔ kfTo s bs cs s.size = true := by
  rw [badC_zero, punL_eq s bs cs _ _ hc, kfTo, List.all_eq_true]
  constructor
  · intro ⟨h1, h2⟩ i hi
    have hi' : i < s.size := by simpa using hi
    exact (kf_col s bs cs i hi' hl ht).1 ⟨h1 i hi', h2 i hi'⟩
  · intro hh
    exact ⟨fun i hi => ((kf_col s bs cs i hi hl ht).2 (hh i (by simpa using hi))).1, fun i hi => ((kf_col s bs cs i hi hl ht).2 (hh i (by simpa using hi))).2⟩

def kfC (s : ByteArray) (bs cs : List Int) : Nat := if twoC s bs cs = 0 then (if kfTo s bs cs s.size = true then 0 else 3) else twoC s bs cs
def kfV (s : ByteArray) (bs cs : List Int) : ByteArray := if kfC s bs cs = 0 then kfK s cs else ⟨#[]⟩
end Go.Proofs.YtjlgfgekiekenaaDoor
