/- spec.CorrectColumn and impl.CorrectColumn give the card with another character in a column, or the code, for every card of at most 1048576 columns, every column and byte: contracts. -/
import Derived.Test.YtjlgfgekiekenaaDoorPunch
import Derived.Test.YtjlgfgekiekenaaDoorCodes
namespace Go.Proofs.YtjlgfgekiekenaaDoor
open Go.ChangeShapes Go.WideShapes Go.ChangeAt Go.RowKit

theorem codeOf_all (c : Int) (h0 : 0 ≤ c) (h1 : c ≤ 255) (w : World) :
    Calls Tryd.prog 129 #[.int .u8 c] w fun e w' => e = .returned (.tuple #[.int .i64 (if codeS c < 0 then 0 else codeS c), .bool (!decide (codeS c < 0))]) ∧ w = w' := by
  rcases same_code c h0 h1 with ⟨e1, e2⟩ | ⟨e1, k, e2, e3, e4⟩
  · rw [if_pos e1, decide_eq_true e1]
    exact implCodeOf_no c e2 w
  · rw [if_neg (by omega), decide_eq_false (by omega), ← e4]
    exact implCodeOf_yes c k e2 e3 w

/-- the code of a card, a column and a byte -/
def corrCode (xs : List Int) (col ch : Int) : Int := if okB xs = true then (if inB col 0 ((xs.length : Int) - 1) = true then (if codeS ch < 0 then 7 else 0) else 2) else 1

theorem corr_parts {xs : List Int} {k : Nat} {ch : Int} (e : corrCode xs k ch = 0) : okB xs = true ∧ inB (k : Int) 0 ((xs.length : Int) - 1) = true ∧ ¬ codeS ch < 0 := by
  unfold corrCode at e
  by_cases a : okB xs = true
  · rw [if_pos a] at e
    by_cases b : inB (k : Int) 0 ((xs.length : Int) - 1) = true
    · rw [if_pos b] at e
      by_cases d : codeS ch < 0
      · rw [if_pos d] at e; cases e
      · exact ⟨a, b, d⟩
    · rw [if_neg b] at e; cases e
  · rw [if_neg a] at e; cases e

end Go.Proofs.YtjlgfgekiekenaaDoor