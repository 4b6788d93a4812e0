/- Plain facts of columns and their characters: a text that was read of columns, punched again, gives the columns; the columns without a character rise. No function of the program is spoken of. -/
import Derived.Test.YtamookdlbmbncabDoorPunchText
import Derived.Test.YtamookdlbmbncabDoorRead
import Derived.Test.YtamookdlbmbncabDoorIllegal
namespace Go.Proofs.YtamookdlbmbncabDoor
open Go.ChangeShapes Go.WideShapes Go.ChangeAt Go.RowKit

theorem code_char (m : Int) (h : charOk m = true) : codeS (charV m) = m := by
  unfold charOk at h
  unfold charV
  cases hr : rankM m with
  | none => rw [hr] at h; cases h
  | some j => exact (rankM_some hr).2.1
theorem textS_size (xs : List Int) : (textS xs).size = xs.length := by
  show (textL xs).toArray.size = xs.length
  simp [textL]
theorem textCodes_textS (xs : List Int) (h : textOk xs = true) : textCodes (textS xs) = xs := by
  have e : (textS xs).data.toList = xs.map byteV := by simp [textS, textL]
  rw [textCodes, e, List.map_map]
  rw [textOk, List.all_eq_true] at h
  conv => rhs; rw [← List.map_id xs]
  apply List.map_congr_left
  intro m hm
  show codeS ((byteV m).toNat : Int) = m
  rw [byteV_int, code_char m (h m hm)]
theorem punch_text (xs : List Int) (h : textOk xs = true) : punchTo (textS xs) xs.length (textS xs).size = xs := by
  rw [punchTo, textCodes_textS xs h, textS_size, List.take_length, Nat.sub_self]
  simp
theorem legal_text (xs : List Int) (h : textOk xs = true) (h0 : ∀ x ∈ xs, 0 ≤ x) : legalT (textS xs) = true := by
  rw [legalT, textCodes_textS xs h, List.all_eq_true]
  intro x hx
  simpa using h0 x hx

theorem ill_none (xs : List Int) (h : textOk xs = true) : illTo xs xs.length = [] := by
  rw [textOk, List.all_eq_true] at h
  have : ((List.range xs.length).filter fun i => !charOk (xs[i]?.getD 0)) = [] := by
    rw [List.filter_eq_nil_iff]
    intro i hi
    have hi' : i < xs.length := List.mem_range.1 hi
    rw [List.getElem?_eq_getElem hi']
    simpa using h _ (List.getElem_mem hi')
  rw [illTo, this]
  rfl
theorem ill_some (xs : List Int) (h : textOk xs = false) : 0 < (illTo xs xs.length).length := by
  rw [textOk, List.all_eq_false] at h
  obtain ⟨x, hx, hc⟩ := h
  obtain ⟨i, hi, rfl⟩ := List.getElem_of_mem hx
  have : i ∈ ((List.range xs.length).filter fun i => !charOk (xs[i]?.getD 0)) := by
    rw [List.mem_filter]
    refine ⟨List.mem_range.2 hi, ?_⟩
    rw [List.getElem?_eq_getElem hi]
    simpa using hc
  rw [illTo, List.length_map]
  exact List.length_pos_of_mem this
/-- what stands at place k of the columns without a character -/
theorem ill_get (xs : List Int) (k : Nat) (hk : k < (illTo xs xs.length).length) : ∃ i : Nat, (illTo xs xs.length)[k]?.getD 0 = (i : Int) ∧ i < xs.length ∧ charOk (xs[i]?.getD 0) = false := by
  rw [illTo, List.length_map] at hk
  obtain ⟨i, hi⟩ : ∃ i, ((List.range xs.length).filter fun i => !charOk (xs[i]?.getD 0))[k]'hk = i := ⟨_, rfl⟩
  have hm : i ∈ ((List.range xs.length).filter fun i => !charOk (xs[i]?.getD 0)) := by
    rw [← hi]
    exact List.getElem_mem hk
  rw [List.mem_filter] at hm
  refine ⟨i, ?_, List.mem_range.1 hm.1, by simpa using hm.2⟩
  rw [illTo, List.getElem?_map, List.getElem?_eq_getElem hk, hi]
  rfl
theorem ill_rises (xs : List Int) (k : Nat) (hk : k + 1 < (illTo xs xs.length).length) : (illTo xs xs.length)[k]?.getD 0 < (illTo xs xs.length)[k + 1]?.getD 0 := by
  have hp : (illTo xs xs.length).Pairwise (· < ·) := by
    rw [illTo, List.pairwise_map]
    exact ((List.pairwise_lt_range (n := xs.length)).filter _).imp (fun h => by omega)
  rw [List.getElem?_eq_getElem hk, List.getElem?_eq_getElem (by omega)]
  exact List.pairwise_iff_getElem.1 hp k (k + 1) (by omega) hk (by omega)
end Go.Proofs.YtamookdlbmbncabDoor
