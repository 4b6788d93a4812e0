/- Plain facts of layouts: what items and columns a valid layout has, told in the two ways of the two programs; the map of the items' places. -/
import Derived.Test.YtmdgpkiicjmfhaaDoorItemOk
import Derived.Test.YtmdgpkiicjmfhaaDoorItemLists
import Derived.Maps.Own
import Derived.Maps.OwnSet
namespace Go.Proofs.YtmdgpkiicjmfhaaDoor
open Go.ChangeShapes Go.WideShapes Go.ChangeAt Go.RowKit

/-- whether none of the first k items has the name or a column of d -/
def clearTo (ds : List It) (d : It) : Nat → Bool
  | 0 => true
  | k + 1 => clearTo ds d k && (match ds[k]? with | some e => !(decide (e.name = d.name) || meetB e.f0 e.f1 d.f0 d.f1) | none => true)
/-- whether the first i items are items of cards of n columns that have no name and no column in common -/
def okTo (ds : List It) (n : Int) : Nat → Bool
  | 0 => true
  | i + 1 => okTo ds n i && (match ds[i]? with | some d => itemB d n && clearTo ds d i | none => true)
def layoutB (u : Int) (ds : List It) : Bool := inB u 1 20 && (okTo ds u ds.length && decide (ds.length ≤ 12))
theorem clearTo_step {ds : List It} {d e : It} {k : Nat} (h : ds[k]? = some e) : clearTo ds d (k + 1) = (clearTo ds d k && !(decide (e.name = d.name) || meetB e.f0 e.f1 d.f0 d.f1)) := by rw [clearTo, h]
theorem okTo_step {ds : List It} {d : It} {n : Int} {i : Nat} (h : ds[i]? = some d) : okTo ds n (i + 1) = (okTo ds n i && (itemB d n && clearTo ds d i)) := by rw [okTo, h]
theorem clearTo_bad {ds : List It} {d : It} {k : Nat} (h : clearTo ds d k = false) : ∀ j, clearTo ds d (k + j) = false
  | 0 => h
  | j + 1 => by rw [← Nat.add_assoc, clearTo, clearTo_bad h j, Bool.false_and]
theorem okTo_bad {ds : List It} {n : Int} {k : Nat} (h : okTo ds n k = false) : ∀ j, okTo ds n (k + j) = false
  | 0 => h
  | j + 1 => by rw [← Nat.add_assoc, okTo, okTo_bad h j, Bool.false_and]
theorem clearTo_false {ds : List It} {d : It} {k n : Nat} (h : clearTo ds d k = false) (hk : k ≤ n) : clearTo ds d n = false := by
  have := clearTo_bad h (n - k)
  rwa [Nat.add_sub_cancel' hk] at this
theorem okTo_false {ds : List It} {n : Int} {k m : Nat} (h : okTo ds n k = false) (hk : k ≤ m) : okTo ds n m = false := by
  have := okTo_bad h (m - k)
  rwa [Nat.add_sub_cancel' hk] at this

/-- whether one of the first k items has a column of a field -/
def meetTo (ds : List It) (a b : Int) : Nat → Bool
  | 0 => false
  | k + 1 => meetTo ds a b k || (match ds[k]? with | some e => meetB e.f0 e.f1 a b | none => false)
/-- whether one of the first k items has a name -/
def nameTo (ds : List It) (s : ByteArray) : Nat → Bool
  | 0 => false
  | k + 1 => nameTo ds s k || (match ds[k]? with | some e => decide (e.name = s) | none => false)
/-- whether the first i items are items of cards of n columns that have no column in common -/
def partsTo (ds : List It) (n : Int) : Nat → Bool
  | 0 => true
  | i + 1 => partsTo ds n i && (match ds[i]? with | some d => itemB d n && !meetTo ds d.f0 d.f1 i | none => true)
/-- whether the first i items have different names -/
def freshTo (ds : List It) : Nat → Bool
  | 0 => true
  | i + 1 => freshTo ds i && (match ds[i]? with | some d => !nameTo ds d.name i | none => true)
/-- how many different names the first i items have -/
def sizeTo (ds : List It) : Nat → Nat
  | 0 => 0
  | i + 1 => (match ds[i]? with | some d => if nameTo ds d.name i = true then sizeTo ds i else sizeTo ds i + 1 | none => sizeTo ds i)

theorem meetTo_step {ds : List It} {e : It} {a b : Int} {k : Nat} (h : ds[k]? = some e) : meetTo ds a b (k + 1) = (meetTo ds a b k || meetB e.f0 e.f1 a b) := by rw [meetTo, h]
theorem meetTo_hit {ds : List It} {a b : Int} {k : Nat} (h : meetTo ds a b k = true) : ∀ j, meetTo ds a b (k + j) = true
  | 0 => h
  | j + 1 => by rw [← Nat.add_assoc, meetTo, meetTo_hit h j, Bool.true_or]
theorem meetTo_true {ds : List It} {a b : Int} {k n : Nat} (h : meetTo ds a b k = true) (hk : k ≤ n) : meetTo ds a b n = true := by
  have := meetTo_hit h (n - k)
  rwa [Nat.add_sub_cancel' hk] at this
theorem partsTo_step {ds : List It} {d : It} {n : Int} {i : Nat} (h : ds[i]? = some d) : partsTo ds n (i + 1) = (partsTo ds n i && (itemB d n && !meetTo ds d.f0 d.f1 i)) := by rw [partsTo, h]
theorem partsTo_bad {ds : List It} {n : Int} {k : Nat} (h : partsTo ds n k = false) : ∀ j, partsTo ds n (k + j) = false
  | 0 => h
  | j + 1 => by rw [← Nat.add_assoc, partsTo, partsTo_bad h j, Bool.false_and]
theorem partsTo_false {ds : List It} {n : Int} {k m : Nat} (h : partsTo ds n k = false) (hk : k ≤ m) : partsTo ds n m = false := by
  have := partsTo_bad h (m - k)
  rwa [Nat.add_sub_cancel' hk] at this
theorem clearTo_eq (ds : List It) (d : It) : ∀ k, clearTo ds d k = (!nameTo ds d.name k && !meetTo ds d.f0 d.f1 k)
  | 0 => rfl
  | k + 1 => by
    rw [clearTo, nameTo, meetTo, clearTo_eq ds d k]
    cases ds[k]? with
    | none => simp
    | some e =>
      simp only []
      cases nameTo ds d.name k <;> cases meetTo ds d.f0 d.f1 k <;> cases decide (e.name = d.name) <;> cases meetB e.f0 e.f1 d.f0 d.f1 <;> rfl
theorem okTo_eq (ds : List It) (n : Int) : ∀ i, okTo ds n i = (partsTo ds n i && freshTo ds i)
  | 0 => rfl
  | i + 1 => by
    rw [okTo, partsTo, freshTo, okTo_eq ds n i]
    cases ds[i]? with
    | none => simp
    | some d =>
      simp only [clearTo_eq]
      cases partsTo ds n i <;> cases freshTo ds i <;> cases itemB d n <;> cases nameTo ds d.name i <;> cases meetTo ds d.f0 d.f1 i <;> rfl
theorem sizeTo_le (ds : List It) : ∀ i, sizeTo ds i ≤ i
  | 0 => Nat.le_refl _
  | i + 1 => by
    have := sizeTo_le ds i
    rw [sizeTo]
    split
    · split <;> omega
    · omega
theorem sizeTo_eq (ds : List It) : ∀ i, i ≤ ds.length → decide (sizeTo ds i = i) = freshTo ds i
  | 0, _ => rfl
  | i + 1, h => by
    obtain ⟨d, hd⟩ : ∃ d, ds[i]? = some d := ⟨ds[i]'(by omega), List.getElem?_eq_getElem _⟩
    have ih := sizeTo_eq ds i (by omega)
    have hle := sizeTo_le ds i
    have e1 : sizeTo ds (i + 1) = if nameTo ds d.name i = true then sizeTo ds i else sizeTo ds i + 1 := by rw [sizeTo, hd]
    have e2 : freshTo ds (i + 1) = (freshTo ds i && !nameTo ds d.name i) := by rw [freshTo, hd]
    rw [e2, ← ih]
    by_cases hn : nameTo ds d.name i = true
    · rw [if_pos hn] at e1
      have : ¬ sizeTo ds (i + 1) = i + 1 := by omega
      simp [hn, this]
    · rw [if_neg hn] at e1
      have hn' : nameTo ds d.name i = false := by simpa using hn
      by_cases e : sizeTo ds i = i
      · have : sizeTo ds (i + 1) = i + 1 := by omega
        simp [hn', e, this]
      · have : ¬ sizeTo ds (i + 1) = i + 1 := by omega
        simp [hn', e, this]
theorem layoutB_eq (u : Int) (ds : List It) : layoutB u ds = (inB u 1 20 && (decide (ds.length ≤ 12) && (partsTo ds u ds.length && decide (sizeTo ds ds.length = ds.length)))) := by
  rw [layoutB, okTo_eq, sizeTo_eq ds ds.length (Nat.le_refl _)]
  cases inB u 1 20 <;> cases decide (ds.length ≤ 12) <;> cases partsTo ds u ds.length <;> cases freshTo ds ds.length <;> rfl

theorem meetTo_take (ds : List It) (a b : Int) (i : Nat) : ∀ k, k ≤ i → meetTo (ds.take i) a b k = meetTo ds a b k
  | 0, _ => rfl
  | k + 1, h => by rw [meetTo, meetTo, meetTo_take ds a b i k (by omega), List.getElem?_take_of_lt (by omega)]
theorem Items.take {w : World} {B : Nat} {A : Option Addr} {ds : List It} (h : Items w B A ds) (k : Nat) : Items w B A (ds.take k) := by
  intro hn
  rw [List.length_take] at hn
  obtain ⟨b, off, e, hb, hc⟩ := h (by omega)
  refine ⟨b, off, e, hb, fun i d hd => hc i d ?_⟩
  rw [List.getElem?_take] at hd
  split at hd
  · exact hd
  · cases hd

open Go.Maps in
section
variable {H : Type}
/-- the key of a name -/
def keyOfName (s : ByteArray) : Lit := .string s.data.toList
/-- the places of the first k items by their names -/
def placesD (ds : List It) : Nat → DataW H
  | 0 => .map []
  | k + 1 => (match ds[k]? with | some d => (placesD ds k).put (keyOfName d.name) (.lit (.int .i64 k)) | none => placesD ds k)
theorem placesD_step {ds : List It} {d : It} {k : Nat} (h : ds[k]? = some d) : (placesD ds (k + 1) : DataW H) = (placesD ds k).put (keyOfName d.name) (.lit (.int .i64 k)) := by rw [placesD, h]
theorem key_eq {s t : ByteArray} (h : keyOfName s = keyOfName t) : s = t := by
  rw [keyOfName, keyOfName] at h
  injection h with h
  apply ByteArray.ext
  exact Array.ext' h
theorem placesD_tidy (ds : List It) : ∀ k, Tidy (placesD ds k : DataW H)
  | 0 => tidy_empty
  | k + 1 => by
    rw [placesD]
    split
    · exact (placesD_tidy ds k).put (by first | exact trivial | exact rfl | simp [keyOfName, WideAt.IsKeyLit]) _
    · exact placesD_tidy ds k
theorem placesD_has (ds : List It) (s : ByteArray) : ∀ k, has (placesD ds k : DataW H) (keyOfName s) = nameTo ds s k
  | 0 => rfl
  | k + 1 => by
    have ih := placesD_has ds s k
    rw [placesD, nameTo]
    cases ds[k]? with
    | none => simp [ih]
    | some d =>
      simp only []
      by_cases h : d.name = s
      · rw [h, has_put_same (placesD_tidy ds k).isMap (by first | exact trivial | exact rfl | simp [keyOfName, WideAt.IsKeyLit])]
        simp
      · rw [has_put_other (fun e => h (key_eq e).symm), ih]
        simp [h]
theorem placesD_size (ds : List It) : ∀ k, size (placesD ds k : DataW H) = sizeTo ds k
  | 0 => rfl
  | k + 1 => by
    have ih := placesD_size ds k
    rw [placesD, sizeTo]
    cases ds[k]? with
    | none => simp [ih]
    | some d =>
      simp only []
      rw [size_put (placesD_tidy ds k), placesD_has, ih]
end
end Go.Proofs.YtmdgpkiicjmfhaaDoor
