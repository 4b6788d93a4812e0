/- Words for what a function gives that answers a card and a code; spec.BlankCard and impl.BlankCard give a card without holes, or the code of a wrong width, for every width: contracts. -/
import Derived.Test.YtjfogadcedgndaaMarks
import Derived.Test.YtjfogadcedgndaaValid
namespace Go.Proofs.Ytjfogadcedgndaa
open Go.ChangeShapes Go.WideShapes Go.ChangeAt Go.RowKit

/-- A card of new memory with the numbers ys, and OK. -/
def GivesCard (ys : List Int) (w : World) (e : Ending) (w' : World) : Prop :=
  ∃ g cap ex, e = .returned (.tuple #[.agg #[.slice (some ⟨g, 0, none⟩) ys.length cap], .int .i64 0]) ∧ w.heap.size ≤ g ∧ Below w.heap.size w w' ∧ Row w' g ys ex
/-- No card, and a code. -/
def GivesCode (a : Int) (w : World) (e : Ending) (w' : World) : Prop :=
  e = .returned (.tuple #[.agg #[.slice none 0 0], .int .i64 a]) ∧ Below w.heap.size w w'

theorem Row.sub {w : World} {g : Nat} {xs ys : List Int} {ex ex' : List Value} (h : Row w g xs ex) (e : (xs.map (Value.int .i64)) ++ ex = (ys.map (Value.int .i64)) ++ ex') : Row w g ys ex' := by
  unfold Row at h ⊢
  rw [h, e]

theorem Row.new_at {w : World} {g : Nat} (xs : List Int) (ex : List Value) (hg : g = w.heap.size) : Row (w.alloc (.cells ((xs.map (Value.int .i64)) ++ ex).toArray 2)) g xs ex := by
  subst hg
  exact heap_alloc_new w _

theorem implBlank_no (n : Int) (h : inB n 1 20 = false) (w : World) : Calls Try.prog 15 #[.int .i64 n] w (GivesCode 2 w) := by
  have hi := isWidth_any n
  rw [h] at hi
  have HI := Lib.hid hi
  clear hi h
  go_enter Try.func15, Try.ntmps15
  go_wp2_with (go_at_call 58; refine (HI.out _).mono ?_; rintro e w' ⟨rfl, rfl⟩)
  exact bodyPost_ret (v := .tuple #[.agg #[.slice none 0 0], .int .i64 2]) (by simp [results, Try.results15, go_sem]) rfl ⟨rfl, (below_box w _)⟩

theorem implBlank_yes (n : Nat) (h : inB n 1 20 = true) (w : World) : Calls Try.prog 15 #[.int .i64 n] w (GivesCard (List.replicate n 0) w) := by
  have hi := isWidth_any n
  rw [h] at hi
  have hn : n ≤ 20 := by simp [inB] at h; omega
  have hmk := run_make_row' (P := Try.prog) 24 2 (.int .i64 0) 8 Try.underlying24 info_int64 rfl .i64 .i64 n (by omega) (by omega)
  have HI := Lib.hid hi
  clear hi h
  go_enter Try.func15, Try.ntmps15
  go_wp2_with (go_at_call 58; refine (HI.out _).mono ?_; rintro e w' ⟨rfl, rfl⟩)
  refine bodyPost_ret (v := .tuple #[.agg #[.slice (some ⟨w.heap.size + 1, 0, none⟩) n n], .int .i64 0]) (by simp [results, Try.results15, go_sem]) rfl ⟨w.heap.size + 1, n, [], by simp, by omega, ?_, ?_⟩
  · exact ((below_box w _).alloc (by simp) _)
  · rw [madeCells_int]
    exact Row.new_at _ _ (by simp)
end Go.Proofs.Ytjfogadcedgndaa
