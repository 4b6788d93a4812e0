/- spec.l07Keys gives the texts of a field of all cards of a deck, or the code; spec.l07Step finds the first text that is less than the one before it: contracts. -/
import Derived.Test.YtamookdlbmbncaaSortMath
import Derived.Test.YtamookdlbmbncaaOwnMem
import Derived.Maps.AppendAt
import Derived.Deep.AppendLies
import Derived.OwnWalk
namespace Go.Proofs.Ytamookdlbmbncaa
open Go.ChangeShapes Go.WideShapes Go.ChangeAt Go.RowKit

theorem info_key : (Try.prog.info? 9).map (fun i => (i.zero, i.size, i.bytes)) = some (some (.string ⟨#[]⟩), 1, 16) := by kernel_rfl

/-- the text of a card's field -/
def keyS (i j : Nat) (d : CardV) : ByteArray := textS (partOf d.xs i j)
def keyL (D : List CardV) (i j k : Nat) : List ByteArray := (D.take k).map (keyS i j)
theorem keyL_succ {D : List CardV} {i j k : Nat} {d : CardV} (h : D[k]? = some d) : keyL D i j (k + 1) = keyL D i j k ++ [keyS i j d] := by
  unfold keyL
  rw [List.take_add_one, h, List.map_append]
  rfl
theorem keyL_length {D : List CardV} {i j k : Nat} (h : k ≤ D.length) : (keyL D i j k).length = k := by simp [keyL]; omega
/-- the texts lie in block g -/
def KeyRow (w : World) (g : Nat) (D : List CardV) (i j : Nat) : Prop := ∀ k d, D[k]? = some d → w.cell? ⟨g, k, none⟩ = some (.string (keyS i j d))
/-- a slice of the texts -/
def GivesKeys (D : List CardV) (i j : Nat) (w : World) (e : Ending) (w' : World) : Prop :=
  ∃ A cap, e = .returned (.tuple #[.slice A D.length cap, .int .i64 0]) ∧ Below w.heap.size w w' ∧ (0 < D.length → ∃ g, A = some ⟨g, 0, none⟩ ∧ g < w'.heap.size ∧ KeyRow w' g D i j)
def GivesNoKeys (a : Int) (w : World) (e : Ending) (w' : World) : Prop :=
  e = .returned (.tuple #[.slice none 0 0, .int .i64 a]) ∧ Below w.heap.size w w'

/-- a deck whose cards' capacities are right -/
def CapsOk (D : List CardV) : Prop := ∀ d ∈ D, d.xs.length ≤ d.cap ∧ d.cap ≤ 9223372036854775807

theorem own_key {w w' : World} {base : Nat} {v v' : Value} {ws : List ByteArray} {x : ByteArray} {W : World} {B : Nat}
    (hown : w'.ownsRow base 9 1 v' (ws.length + 1) (ws.map Value.string ++ [.string x])) (hgrow : (w.alloc (.cells #[.string x] 9)).grownBy w' v.ownBlock)
    (hold : w.ownsRow base 9 1 v ws.length (ws.map Value.string)) (hb : Below B W w) (hB : B ≤ base) (hs : B ≤ w.heap.size) :
    w'.ownsRow base 9 1 v' (ws ++ [x]).length ((ws ++ [x]).map Value.string) ∧ Below B W w' := by
  refine ⟨by simpa using hown, ?_⟩
  exact (hb.alloc hs _).grown hgrow (by simp; omega) (fun k hk => Nat.le_trans hB (hold.lt k hk).1)

section
variable (A : Option Addr) (c : Nat) (D : List CardV) (B : Nat) (a b : Int) (w : World) (h : Deck w B A D) (hB : B ≤ w.heap.size) (hn : D.length ≤ 1048576) (hl : ∀ d ∈ D, d.xs.length ≤ 1048576)
end
end Go.Proofs.Ytamookdlbmbncaa