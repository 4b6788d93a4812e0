/- spec.l07Places sorts the places of the cards by their texts, and spec.OrderBy answers them: contracts. -/
import Derived.Test.YtmdamciheekeoaaDoorOrderS
import Derived.Test.YtmdamciheekeoaaDoorIntsAt
import Derived.Deep.QuietTactic
import Derived.BigQuiet
namespace Go.Proofs.YtmdamciheekeoaaDoor
open Go.ChangeShapes Go.WideShapes Go.ChangeAt Go.RowKit

/-- A slice of numbers of new memory. -/
def GivesI (L : List Int) (w : World) (e : Ending) (w' : World) : Prop :=
  ∃ A cap, e = .returned (.slice A L.length cap) ∧ Below w.heap.size w w' ∧ IAt w' w.heap.size w'.heap.size A L
/-- what is left when the place is found -/
theorem place_found {cf : Int → Int → Int} {n t k : Nat} {M : List Int} (hO : Ord cf (okK n)) (ht : t < n) (hp : M.Perm (identL t)) (hs : Srt cf M) (_ : k ≤ t) (hr : ∀ s ∈ M.drop k, Bef cf t s) (hl : ∀ s, (M.take k).getLast? = some s → ¬ cf t s < 0) :
    (M.take k ++ (t : Int) :: M.drop k).Perm (identL (t + 1)) ∧ Srt cf (M.take k ++ (t : Int) :: M.drop k) := by
  have ho : ∀ x ∈ M, okK n x := fun x hx => by
    have := identL_mem.1 (hp.subset hx)
    exact ⟨this.1, by have := this.2; omega⟩
  refine ⟨?_, ins_done hO (fun x hx => ho x (List.mem_of_mem_take hx)) ⟨Int.natCast_nonneg _, by omega⟩ (by rw [List.take_append_drop]; exact hs) (fun s h => ?_) hr⟩
  · rw [identL_succ]
    refine List.perm_middle.trans ?_
    rw [List.take_append_drop]
    exact (List.Perm.cons _ hp).trans (List.perm_append_comm (l₁ := [(t : Int)]) (l₂ := identL t))
  · have hm : s ∈ M := List.mem_of_mem_take (List.mem_of_getLast? h)
    have := identL_mem.1 (hp.subset hm)
    exact (bef_iff' hO ⟨Int.natCast_nonneg _, by omega⟩ (ho s hm) this.2).1 (hl s h)

section
variable (A : Option Addr) (c : Nat) (D : List CardV) (B : Nat) (a b : Int) (w : World) (h : Deck w B A D) (hB : B ≤ w.heap.size) (hn : D.length ≤ 1048576) (hl : ∀ d ∈ D, d.xs.length ≤ 1048576)
end
end Go.Proofs.YtmdamciheekeoaaDoor