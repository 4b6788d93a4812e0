/- The full plan of a field and its passes with digits, as lists. No function of the program is spoken of. -/
import Derived.Test.YtfffdlmpiglojaaDoorRows
namespace Go.Proofs.YtfffdlmpiglojaaDoor

/-- the full plan of the last k columns before b -/
def planTo (b : Int) (k : Nat) : List (Int × Int) := (List.range k).flatMap fun (t : Nat) => [(b - 1 - (t : Int), 1), (b - 1 - (t : Int), 2)]
def digTo (b : Int) (k : Nat) : List (Int × Int) := (List.range k).flatMap fun (t : Nat) => [(b - 1 - (t : Int), 1)]
theorem planTo_succ (b : Int) (k : Nat) : planTo b (k + 1) = planTo b k ++ [(b - 1 - k, 1), (b - 1 - k, 2)] := by
  simp [planTo, List.range_succ]
theorem digTo_succ (b : Int) (k : Nat) : digTo b (k + 1) = digTo b k ++ [(b - 1 - k, 1)] := by
  simp [digTo, List.range_succ]
theorem planTo_length (b : Int) : ∀ k, (planTo b k).length = 2 * k
  | 0 => rfl
  | k + 1 => by rw [planTo_succ, List.length_append, planTo_length b k]; simp; omega
theorem digTo_length (b : Int) : ∀ k, (digTo b k).length = k
  | 0 => rfl
  | k + 1 => by rw [digTo_succ, List.length_append, digTo_length b k]; simp
theorem planTo_digits (b : Int) : ∀ k, (planTo b k).filter (fun p => p.2 == 1) = digTo b k
  | 0 => rfl
  | k + 1 => by rw [planTo_succ, digTo_succ, List.filter_append, planTo_digits b k]; rfl
end Go.Proofs.YtfffdlmpiglojaaDoor
