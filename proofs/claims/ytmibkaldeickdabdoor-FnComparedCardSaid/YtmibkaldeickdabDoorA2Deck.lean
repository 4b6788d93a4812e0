/- laws.a2Width and laws.a2Field of a list of one card or more: contracts. -/
import Derived.Test.YtmibkaldeickdabDoorA2
namespace Go.Proofs.YtmibkaldeickdabDoor
open Go.ChangeShapes Go.WideShapes Go.ChangeAt Go.RowKit

theorem a2Width_deck (b N C : Nat) (hN : 1 ≤ N) (A : Option Addr) (n c : Nat) (w : World) (hc : w.cell? ⟨b, 0, none⟩ = some (.slice A n c)) :
    Calls Tryd.prog 60 #[.slice (some ⟨b, 0, none⟩) N C] w fun e w' => e = .returned (.int .i64 n) ∧ w = w' := by
  have hn1 : ¬ (N : Int) = 0 := by omega
  have hn2 : ((N : Int) == 0) = false := by simpa using hn1
  have hn3 : 0 < N := hN
  have hn4 : (0 : Int) < (N : Int) := by omega
  go_enter Tryd.func60, Tryd.ntmps60
  go_wp2
  go_ret
  exact ⟨rfl, rfl⟩

theorem a2Field_deck (b N C : Nat) (hN : 1 ≤ N) (A A' : Option Addr) (n c n' c' B : Nat) (w : World) (hc : w.cell? ⟨b, 0, none⟩ = some (.slice A n c)) (h1 : 1 ≤ n) (hn : n ≤ 1048576) (h : BytesAt w B A' n') (hB : B ≤ w.heap.size) (hn' : n' ≤ 3000) :
    Calls Tryd.prog 23 #[.slice (some ⟨b, 0, none⟩) N C, .slice A' n' c'] w fun e w' => ∃ i j : Nat, e = .returned (.agg #[.int .i64 i, .int .i64 j]) ∧ i < j ∧ j ≤ n ∧ Below w.heap.size w w' := by
  have hb := World.block_lt_of_cell? _ _ hc
  have c1 := cell_kept hc (below_box w (.cells #[.int .i64 0, .int .i64 0] 43))
  have f0 : (w.alloc (.cells #[.int .i64 0, .int .i64 0] 43)).frozen? ⟨w.heap.size, 0, none⟩ = false := by simp [go_sem]
  have f1 : (w.alloc (.cells #[.int .i64 0, .int .i64 0] 43)).frozen? ⟨w.heap.size, 1, none⟩ = false := by simp [go_sem]
  have H := Lib.hid (h.below ((below_box w (.cells #[.int .i64 0, .int .i64 0] 43)).mono hB))
  have HW := Lib.hid (a2Width_deck b N C hN A n c _ c1)
  have HX := Lib.hid (a2At_any A' n' c' B 0 n _ H.out hn' (by omega) (by omega) (by omega))
  clear h hc
  go_enter Tryd.func23, Tryd.ntmps23
  go_wp2_with fail
  refine HW.out.mono ?_
  rintro e w1 ⟨rfl, rfl⟩
  go_wp2_with fail
  refine HX.out.mono ?_
  rintro e w1 ⟨i, rfl, hi, rfl⟩
  have HY := Lib.hid (a2At_any A' n' c' B 1 ((n : Int) - i) _ H.out hn' (by omega) (by omega) (by omega))
  go_wp2_with fail
  refine HY.out.mono ?_
  rintro e w1 ⟨r, rfl, hr, rfl⟩
  go_wp2
  exact bodyPost_ret (v := .agg #[.int .i64 i, .int .i64 ((i : Int) + 1 + r)]) (by simp [results, Tryd.results23, go_sem]) rfl ⟨i, i + 1 + r, by simp, by omega, by omega, below_box w _⟩
end Go.Proofs.YtmibkaldeickdabDoor
