/- spec.l02Own gives a card of its own: a contract; with the clone that keeps its room. -/
import Derived.Test.YtdakbbgbglgioaaDoorCloneC
namespace Go.Proofs.YtdakbbgbglgioaaDoor
open Go.ChangeShapes Go.WideShapes Go.ChangeAt Go.RowKit

theorem l02OwnC_any (A : Option Addr) (c : Nat) (xs : List Int) (B p o : Nat) (w : World) (hp : w.cell? ⟨p, o, none⟩ = some (.slice A xs.length c)) (h : Ints w B A xs) (hB : B ≤ w.heap.size) (h0 : 0 < xs.length) (hn : xs.length ≤ 1048576) :
    Calls Tryd.prog 34 #[.pointer (some ⟨p, o, none⟩)] w fun e w' => ∃ g cap ex, e = .returned (.agg #[.slice (some ⟨g, 0, none⟩) xs.length cap]) ∧ w.heap.size ≤ g ∧ Below w.heap.size w w' ∧ Row w' g xs ex := by
  have hc := l00Own_any A c xs B (w.alloc (.cells #[.slice none 0 0] 36)) (h.alloc hB _) (by simp; omega) h0 hn
  have HC := Lib.hid hc
  have hlt := World.block_lt_of_cell? _ _ hp
  have hp2 := cell_kept hp (below_box w (.cells #[.slice none 0 0] 36))
  clear hc h
  go_enter Tryd.func34, Tryd.ntmps34
  go_wp2_with fail
  refine HC.out.mono ?_
  rintro e w1 ⟨g, cap, ex, rfl, hg, hb, hr⟩
  have B1 := Lib.hid (below_step (below_box w _) hb)
  have c1 := cell_kept (p := ⟨w.heap.size, 0, none⟩) (v := .slice none 0 0) (by simp) hb
  have f1 : w1.frozen? ⟨w.heap.size, 0, none⟩ = false := by rw [hb.frozen (by simp)]; simp
  have HR := Lib.hid hr
  have hg' : w.heap.size + 1 ≤ g := by simpa using hg
  clear hb hr hg
  go_wp2
  refine bodyPost_ret (v := .agg #[.slice (some ⟨g, 0, none⟩) xs.length cap]) (by simp [results, Tryd.results34, go_sem, c1]) rfl ⟨g, cap, ex, rfl, by omega, ?_, ?_⟩
  · exact B1.out.setCell (by simp) _
  · exact HR.out.far (by simp; omega) _
end Go.Proofs.YtdakbbgbglgioaaDoor
