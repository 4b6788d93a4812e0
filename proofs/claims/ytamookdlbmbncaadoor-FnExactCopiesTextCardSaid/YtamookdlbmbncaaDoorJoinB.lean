/- Texts joined by blanks, as a plain function. -/
import Derived.Test.YtamookdlbmbncaaDoorRows
import Derived.WalkKit
import Derived.ProofKit
import Derived.OpenShut
import Derived.Carry
import Derived.Lib.Strings
import Derived.Lib.Join
namespace Go.Proofs.YtamookdlbmbncaaDoor
open Go.ChangeShapes Go.WideShapes Go.ChangeAt Go.RowKit

def joinB (ws : List ByteArray) : ByteArray := ⟨(Lib.join (ws.map (·.data.toList)) (ByteArray.mk #[32]).data.toList).toArray⟩
theorem joinB_nil : joinB [] = ⟨#[]⟩ := rfl
theorem join_snoc (sep w : List UInt8) : ∀ (xs : List (List UInt8)), xs ≠ [] → Lib.join (xs ++ [w]) sep = Lib.join xs sep ++ sep ++ w
  | [], h => absurd rfl h
  | [x], _ => by simp [Lib.join, List.intercalate]
  | x :: y :: r, _ => by
    have ih := join_snoc sep w (y :: r) (by simp)
    rw [List.cons_append, Lib.join_cons]
    rw [Lib.join_cons x (y :: r)]
    have e1 : ∀ t : List (List UInt8), t ≠ [] → Lib.joinTail sep t = sep ++ Lib.join t sep := by
      intro t ht
      cases t with
      | nil => exact absurd rfl ht
      | cons a b => rw [Lib.join_cons]; simp [Lib.joinTail]
    rw [e1 _ (by simp), e1 _ (by simp), ih]
    simp [List.append_assoc]
theorem joinB_snoc (ws : List ByteArray) (w : ByteArray) (h : ws ≠ []) : joinB (ws ++ [w]) = joinB ws ++ ⟨#[32]⟩ ++ w := by
  apply ByteArray.ext
  apply Array.toList_inj.1
  unfold joinB
  rw [List.map_append]
  have := join_snoc (ByteArray.mk #[32]).data.toList w.data.toList (ws.map (·.data.toList)) (by simpa using h)
  simpa using this
theorem joinB_one (w : ByteArray) : joinB [w] = w := by
  apply ByteArray.ext
  apply Array.toList_inj.1
  unfold joinB
  simp [Lib.join_one]
end Go.Proofs.YtamookdlbmbncaaDoor
