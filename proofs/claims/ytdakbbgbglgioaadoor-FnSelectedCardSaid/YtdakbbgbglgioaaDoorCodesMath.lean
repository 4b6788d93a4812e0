/- Plain facts of characters: holes, characters and ranks belong together; a text of characters with one blank more, punched, reads as it was; and impl.RankOf for every byte. -/
import Derived.Test.YtdakbbgbglgioaaDoorLegal
import Derived.Test.YtdakbbgbglgioaaDoorRank
import Derived.Test.YtdakbbgbglgioaaDoorDrawText
namespace Go.Proofs.YtdakbbgbglgioaaDoor
open Go.ChangeShapes Go.WideShapes Go.ChangeAt Go.RowKit

def rkV (n : Nat) : Int := if rankS n < 0 then 0 else rankS n
def rkB (n : Nat) : Bool := !decide (rankS n < 0)
theorem implRank_any (n : Nat) (h : n ≤ 255) (w : World) (hp : Places w) :
    Calls Tryd.prog 79 #[.int .u8 n] w fun e w' => e = .returned (.tuple #[.int .i64 (rkV n), .bool (rkB n)]) ∧ w = w' := by
  rcases rank_cases n h with ⟨h1, _, h3⟩ | ⟨j, hj, h1, _, _, h4, h5⟩
  · have e1 : rkV n = 0 := by rw [rkV, h1]; rfl
    have e2 : rkB n = false := by rw [rkB, h1]; rfl
    rw [e1, e2]
    exact implRank_no n h h3 w hp
  · have e1 : rkV n = j := by rw [rkV, h1, if_neg (by omega)]
    have e2 : rkB n = true := by rw [rkB, h1]; simp
    rw [e1, e2]
    exact implRank_yes n j h4 hj h5 w hp
theorem rank_yes (n : Nat) (h : n ≤ 255) (hb : rkB n = true) : ∃ j : Nat, j < 40 ∧ rkV n = j ∧ charR j = n := by
  rcases rank_cases n h with ⟨h1, _, _⟩ | ⟨j, hj, h1, h2, _, _, _⟩
  · rw [rkB, h1] at hb
    cases hb
  · exact ⟨j, hj, by rw [rkV, h1, if_neg (by omega)], h2⟩
theorem rank_one (n k : Nat) (hn : n ≤ 255) (hk : k ≤ 255) (bn : rkB n = true) (bk : rkB k = true) (h : rkV k = rkV n) : k = n := by
  obtain ⟨i, _, e1, e2⟩ := rank_yes n hn bn
  obtain ⟨j, _, e3, e4⟩ := rank_yes k hk bk
  have : i = j := by omega
  subst this
  omega

def codeB (n : Nat) : Bool := let c : Int := n
  (decide (codeS c < 0) == decide (rankS c < 0)) && (decide (codeS c < 0) || (charOk (codeS c) && decide (charV (codeS c) = c) && decide (codeS c ≤ 4095)))
theorem code_all : ∀ n : Fin 256, codeB n.val = true := by decide +kernel
theorem code_rank (n : Nat) (h : n ≤ 255) : decide (codeS n < 0) = decide (rankS n < 0) := by
  have := code_all ⟨n, by omega⟩
  simp only [codeB, Bool.and_eq_true] at this
  exact eq_of_beq this.1
theorem code_back (n : Nat) (h : n ≤ 255) (h0 : ¬ codeS n < 0) : charOk (codeS n) = true ∧ charV (codeS n) = n ∧ codeS n ≤ 4095 := by
  have := code_all ⟨n, by omega⟩
  simp only [codeB, Bool.and_eq_true, Bool.or_eq_true, decide_eq_true_eq] at this
  rcases this.2 with h' | ⟨⟨h1, h2⟩, h3⟩
  · exact absurd h' h0
  · exact ⟨h1, h2, h3⟩

/-- the text of some bytes -/
def textN (l : List Nat) : ByteArray := ⟨(l.map UInt8.ofNat).toArray⟩
theorem textN_size (l : List Nat) : (textN l).size = l.length := by
  show (l.map UInt8.ofNat).toArray.size = _
  simp
theorem order_code : ∀ k : Fin 40, ¬ codeS ((((orderL[k.val]?.getD 0).toNat : Nat)) : Int) < 0 := by decide +kernel
theorem legalL_code {l : List Nat} (h : legalL l) {x : Nat} (hx : x ∈ l) : x ≤ 255 ∧ ¬ codeS (x : Int) < 0 := by
  obtain ⟨k, hk, rfl⟩ := h x hx
  have := (orderL[k]?.getD 0).toNat_lt
  exact ⟨by omega, order_code ⟨k, hk⟩⟩
theorem textCodes_textN {l : List Nat} (h : legalL l) : textCodes (textN l) = l.map fun (x : Nat) => codeS (x : Int) := by
  have e : (textN l).data.toList = l.map UInt8.ofNat := by simp [textN]
  rw [textCodes, e, List.map_map]
  apply List.map_congr_left
  intro x hx
  have := (legalL_code h hx).1
  show codeS ((UInt8.ofNat x).toNat : Int) = _
  rw [UInt8.toNat_ofNat']
  congr 2
  omega
theorem legal_textN {l : List Nat} (h : legalL l) : legalT (textN l) = true := by
  rw [legalT, textCodes_textN h, List.all_eq_true]
  intro y hy
  obtain ⟨x, hx, rfl⟩ := List.mem_map.1 hy
  have := (legalL_code h hx).2
  simpa using this
/-- the columns of a text with one blank more -/
def colsN (l : List Nat) : List Int := (l.map fun (x : Nat) => codeS (x : Int)) ++ [0]
theorem punch_textN {l : List Nat} (h : legalL l) : punchTo (textN l) (l.length + 1) (textN l).size = colsN l := by
  rw [punchTo, textCodes_textN h, textN_size, List.take_of_length_le (by simp), Nat.add_sub_cancel_left]
  rfl
theorem colsN_length (l : List Nat) : (colsN l).length = l.length + 1 := by simp [colsN]
theorem char_blank : charOk 0 = true ∧ byteV 0 = 32 := by decide +kernel
theorem colsN_ok {l : List Nat} (h : legalL l) : textOk (colsN l) = true := by
  rw [textOk, List.all_eq_true]
  intro y hy
  rcases List.mem_append.1 hy with hy | hy
  · obtain ⟨x, hx, rfl⟩ := List.mem_map.1 hy
    have := legalL_code h hx
    exact (code_back x this.1 this.2).1
  · rw [List.mem_singleton.1 hy]
    exact char_blank.1
theorem colsN_legal {l : List Nat} (h : legalL l) (h8 : l.length ≤ 8) : okB (colsN l) = true := by
  simp only [okB, legalB, inB, maskB, Bool.and_eq_true, decide_eq_true_eq, List.all_eq_true, colsN_length]
  refine ⟨fun y hy => ?_, by omega, by omega⟩
  rcases List.mem_append.1 hy with hy | hy
  · obtain ⟨x, hx, rfl⟩ := List.mem_map.1 hy
    have := legalL_code h hx
    have h3 := code_back x this.1 this.2
    exact ⟨by omega, by omega⟩
  · rw [List.mem_singleton.1 hy]
    exact ⟨by omega, by omega⟩
theorem colsN_text {l : List Nat} (h : legalL l) : textS (colsN l) = textN l ++ ⟨#[32]⟩ := by
  apply ByteArray.ext
  apply Array.ext'
  have e : (textS (colsN l)).data.toList = (colsN l).map byteV := by simp [textS, textL]
  have e2 : (textN l ++ ⟨#[32]⟩).data.toList = l.map UInt8.ofNat ++ [32] := by simp [textN]
  rw [e, e2, colsN, List.map_append, List.map_map]
  congr 1
  · apply List.map_congr_left
    intro x hx
    have hc := legalL_code h hx
    have h3 := code_back x hc.1 hc.2
    show byteV (codeS (x : Int)) = UInt8.ofNat x
    rw [byteV, h3.2.1]
    rfl
end Go.Proofs.YtdakbbgbglgioaaDoor
