/- The rank of a character: spec.l03Rank, spec.RankOf and impl.RankOf, for every byte: contracts; impl's in worlds whose table of places holds what the program's text lays in it. -/
import Derived.Test.YtamookdlbmbncaaOrder
import Derived.Lib.Bytealg
import Derived.Lib.LaidTab
import Derived.Outline
namespace Go.Proofs.Ytamookdlbmbncaa
open Go.ChangeShapes Go.WideShapes Go.ChangeAt Go.RowKit

/-- the rank of a byte, -1 if there is none -/
def rankS (c : Int) : Int := Lib.indexByte orderL c.toNat.toUInt8
def placesL : List Int := [0, 0, 0, 0, 0, 0, 0, 0, 0, 0, 0, 0, 0, 0, 0, 0, 0, 0, 0, 0, 0, 0, 0, 0, 0, 0, 0, 0, 0, 0, 0, 0, 1, 0, 0, 0, 0, 0, 2, 0, 0, 0, 0, 0, 0, 12, 0, 22, 31, 32, 33, 34, 35, 36, 37, 38, 39, 40, 0, 0, 0, 0, 0, 0, 0, 3, 4, 5, 6, 7, 8, 9, 10, 11, 13, 14, 15, 16, 17, 18, 19, 20, 21, 23, 24, 25, 26, 27, 28, 29, 30]

def rankB (n : Nat) : Bool := let c : Int := n
  (decide (rankS c = -1) && (List.range 40).all (fun k => charR k != c) && (decide (91 ≤ n) || decide (placesL.getD n 0 = 0))) ||
    (decide (0 ≤ rankS c) && decide (rankS c < 40) && decide (charR (rankS c).toNat = c) && (List.range (rankS c).toNat).all (fun k => charR k != c) && decide (n < 91) && decide (placesL.getD n 0 = rankS c + 1))
theorem rank_all : ∀ n : Fin 256, rankB n.val = true := by decide +kernel
theorem rank_cases (n : Nat) (h : n ≤ 255) : (rankS n = -1 ∧ (∀ k, k < 40 → charR k ≠ n) ∧ (91 ≤ n ∨ placesL.getD n 0 = 0)) ∨
    (∃ j : Nat, j < 40 ∧ rankS n = j ∧ charR j = n ∧ (∀ k, k < j → charR k ≠ n) ∧ n < 91 ∧ placesL.getD n 0 = (j : Int) + 1) := by
  have hb := rank_all ⟨n, by omega⟩
  simp only [rankB, Bool.or_eq_true, Bool.and_eq_true, decide_eq_true_eq, List.all_eq_true, List.mem_range, bne_iff_ne] at hb
  rcases hb with ⟨⟨h1, h2⟩, h3⟩ | ⟨⟨⟨⟨⟨h1, h2⟩, h3⟩, h4⟩, h5⟩, h6⟩
  · exact Or.inl ⟨h1, h2, h3⟩
  · have e : ((rankS n).toNat : Int) = rankS n := by omega
    exact Or.inr ⟨(rankS n).toNat, by omega, e.symm, h3, h4, h5, by rw [h6, e]⟩

theorem neq_r {a b : Int} (h : a ≠ b) : (a == b) = false := by simpa using h

end Go.Proofs.Ytamookdlbmbncaa