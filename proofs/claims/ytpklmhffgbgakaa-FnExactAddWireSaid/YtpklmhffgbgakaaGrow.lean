/- Words and lemmas for a list of numbers that a function makes by append. -/
import Derived.Test.YtpklmhffgbgakaaOwn
import Derived.Test.YtpklmhffgbgakaaGives
namespace Go.Proofs.Ytpklmhffgbgakaa
open Go.ChangeShapes Go.WideShapes Go.ChangeAt Go.RowKit

/-- A list of numbers of the call's own, and OK. -/
def GivesList (ys : List Int) (w : World) (e : Ending) (w' : World) : Prop :=
  ∃ A cap, e = .returned (.tuple #[.slice A ys.length cap, .int .i64 0]) ∧ Below w.heap.size w w' ∧ (0 < ys.length → ∃ g ex, A = some ⟨g, 0, none⟩ ∧ w.heap.size ≤ g ∧ Row w' g ys ex)
/-- No list, and a code. -/
def GivesNoList (a : Int) (w : World) (e : Ending) (w' : World) : Prop :=
  e = .returned (.tuple #[.slice none 0 0, .int .i64 a]) ∧ Below w.heap.size w w'

theorem owned_list {w : World} {base n : Nat} {v : Value} {xs : List Int} (h : w.ownsRow base 2 1 v n (xs.map (Value.int .i64))) (hl : xs.length = n) :
    ∃ A cap, v = .slice A xs.length cap ∧ (0 < xs.length → ∃ g ex, A = some ⟨g, 0, none⟩ ∧ base ≤ g ∧ Row w g xs ex) := by
  by_cases h0 : 0 < n
  · obtain ⟨g, cap, ex, hv, hg, hr⟩ := owned_row h h0 hl
    exact ⟨_, cap, hv, fun _ => ⟨g, ex, rfl, hg, hr⟩⟩
  · have hn : n = 0 := by omega
    subst hn
    rcases h.2 with ⟨hv, _⟩ | ⟨g, cap, cur, hv, _⟩
    · exact ⟨none, 0, by rw [hl]; exact hv, fun hh => absurd hh (by omega)⟩
    · exact ⟨_, cap, by rw [hl]; exact hv, fun hh => absurd hh (by omega)⟩

/-- What an append of one number leaves. -/
theorem own_more {w w' : World} {base : Nat} {v v' : Value} {xs : List Int} {x : Int} {W : World} {B : Nat}
    (hown : w'.ownsRow base 2 1 v' (xs.length + 1) (xs.map (Value.int .i64) ++ [.int .i64 x])) (hgrow : (w.alloc (.cells #[.int .i64 x] 2)).grownBy w' v.ownBlock)
    (hold : w.ownsRow base 2 1 v xs.length (xs.map (Value.int .i64))) (hb : Below B W w) (hB : B ≤ base) (hs : B ≤ w.heap.size) :
    w'.ownsRow base 2 1 v' (xs ++ [x]).length ((xs ++ [x]).map (Value.int .i64)) ∧ Below B W w' := by
  refine ⟨by simpa using hown, ?_⟩
  exact (hb.alloc hs _).grown hgrow (by simp; omega) (fun k hk => Nat.le_trans hB (hold.lt k hk).1)

/-- the columns among the first k of which q holds -/
def selTo (q : Nat → Bool) (k : Nat) : List Int := ((List.range k).filter q).map fun i : Nat => (i : Int)
theorem selTo_zero (q : Nat → Bool) : selTo q 0 = [] := rfl
theorem selTo_no (q : Nat → Bool) (k : Nat) (h : q k = false) : selTo q (k + 1) = selTo q k := by
  simp [selTo, List.range_succ, h]
theorem selTo_yes (q : Nat → Bool) (k : Nat) (h : q k = true) : selTo q (k + 1) = selTo q k ++ [(k : Int)] := by
  simp [selTo, List.range_succ, h]
theorem selTo_length (q : Nat → Bool) (k : Nat) : (selTo q k).length ≤ k := by
  have := List.length_filter_le q (List.range k)
  simpa [selTo] using this
end Go.Proofs.Ytpklmhffgbgakaa
