/- Which holes stand for a character, as tables of numbers: no function of the program is spoken of. -/
import Derived.Test.YtamookdlbmbncabDoorCodes
import Derived.Test.YtamookdlbmbncabDoorOnes
import Derived.Test.YtamookdlbmbncabDoorOrder
namespace Go.Proofs.YtamookdlbmbncabDoor
open Go.ChangeShapes Go.WideShapes Go.ChangeAt Go.RowKit

/-- the character with which the sheet answers at a place -/
def sheetC (k : Nat) : Int := ((sheetL[k]?.getD 0).toNat : Int)
def sheetS : ByteArray := ⟨sheetL.toArray⟩
theorem sheet_get (k : Nat) (h : k < sheetS.size) : (sheetS[k].toNat : Int) = sheetC k := by
  have h' : k < sheetL.length := h
  unfold sheetC
  rw [List.getElem?_eq_getElem h']
  rfl
/-- the holes at a place of the sheet -/
def maskK (k : Nat) : Int := bits .or .i64 (bitV (k / 10)) (bitV (k % 10) * 8)

def codesL : List Nat := [0, 1, 9, 17, 33, 65, 129, 257, 513, 1025, 2049, 2, 10, 18, 34, 66, 130, 258, 514, 1026, 2050, 12, 20, 36, 68, 132, 260, 516, 1028, 2052, 4, 8, 16, 32, 64, 128, 256, 512, 1024, 2048]
def masksL : List Nat := [0, 8, 16, 32, 64, 128, 256, 512, 1024, 2048, 1, 9, 17, 33, 65, 129, 257, 513, 1025, 2049, 2, 10, 18, 34, 66, 130, 258, 514, 1026, 2050, 4, 12, 20, 36, 68, 132, 260, 516, 1028, 2052]
theorem codesL_eq : ∀ k : Fin 40, codeS (charR k.val) = ((codesL[k.val]?.getD 0 : Nat) : Int) := by decide +kernel
theorem codes_at (k : Nat) (h : k < 40) : codeS (charR k) = ((codesL[k]?.getD 0 : Nat) : Int) := codesL_eq ⟨k, h⟩
def charB (m : Nat) : Bool :=
  match masksL.findIdx? (· == m) with
  | none => codesL.all (· != m) && (decide (1 < popc 12 (m % 8)) || decide (1 < popc 12 (m / 8)))
  | some k => decide (((m % 8 : Nat) : Int) = bitV (k / 10)) && decide (((m / 8 : Nat) : Int) = bitV (k % 10)) && decide (k < 40) &&
      (match (List.range 40).find? (fun j => codesL[j]?.getD 0 == m) with
       | none => false
       | some j => decide (j < 40) && decide (charR j = sheetC k))
theorem char_all : ∀ a b : Fin 64, charB (64 * a.val + b.val) = true := by decide +kernel

/-- what the holes m are: none's, or the one character's -/
theorem char_cases (m : Nat) (hm : m < 4096) : ((∀ k, k < 40 → codeS (charR k) ≠ m) ∧ (1 < popc 12 (m % 8) ∨ popc 12 (m % 8) ≤ 1 ∧ 1 < popc 12 (m / 8))) ∨
    (∃ j d r : Nat, j < 40 ∧ codeS (charR j) = m ∧ (∀ k, k < j → codeS (charR k) ≠ m) ∧ d ≤ 3 ∧ r ≤ 9 ∧ ((m % 8 : Nat) : Int) = bitV d ∧ ((m / 8 : Nat) : Int) = bitV r ∧ charR j = sheetC (10 * d + r)) := by
  have h := char_all ⟨m / 64, by omega⟩ ⟨m % 64, by omega⟩
  have e : 64 * (m / 64) + m % 64 = m := by omega
  simp only [e] at h
  unfold charB at h
  split at h
  · simp only [Bool.and_eq_true, List.all_eq_true, bne_iff_ne, Bool.or_eq_true, decide_eq_true_eq] at h
    refine Or.inl ⟨fun k hk => ?_, ?_⟩
    · rw [codes_at k hk]
      have hk' : k < codesL.length := hk
      rw [List.getElem?_eq_getElem hk', Option.getD_some]
      have := h.1 codesL[k] (List.getElem_mem hk')
      intro hc
      exact this (by omega)
    by_cases hz : 1 < popc 12 (m % 8)
    · exact Or.inl hz
    · exact Or.inr ⟨by omega, h.2.resolve_left hz⟩
  · rename_i k _
    split at h
    · simp at h
    · rename_i j hj
      simp only [Bool.and_eq_true, decide_eq_true_eq] at h
      obtain ⟨⟨⟨h1, h2⟩, h3⟩, h4, h5⟩ := h
      obtain ⟨hp, i, hi, hij, hbef⟩ := List.find?_eq_some_iff_getElem.1 hj
      have hi' : i = j := by simpa using hij
      subst hi'
      refine Or.inr ⟨i, k / 10, k % 10, h4, ?_, fun q hq => ?_, by omega, by omega, h1, h2, ?_⟩
      · rw [codes_at i h4]
        have : codesL[i]?.getD 0 = m := by simpa using hp
        rw [this]
      · rw [codes_at q (by omega)]
        have := hbef q hq
        intro hc
        have hc' : codesL[q]?.getD 0 = m := by omega
        simp [hc'] at this
      · rw [h5]
        congr 1
        omega
end Go.Proofs.YtamookdlbmbncabDoor
