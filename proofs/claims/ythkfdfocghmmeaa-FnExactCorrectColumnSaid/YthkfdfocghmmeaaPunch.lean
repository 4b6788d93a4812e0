/- spec.PunchHole and impl.PunchHole give the card with one more hole, or the code, for every card of at most 1048576 columns, every column and row: contracts. -/
import Derived.Test.YthkfdfocghmmeaaOwn
import Derived.Test.YthkfdfocghmmeaaHoles
import Derived.Deep.RegionLaw
namespace Go.Proofs.Ythkfdfocghmmeaa
open Go.ChangeShapes Go.WideShapes Go.ChangeAt Go.RowKit

theorem cell_stored {w : World} {p : Addr} {v : Value} (h : w.cell? p = some v) (u : Value) : (w.setCell p u).cell? p = some u :=
  World.cell?_setCell_same w p u h

theorem l02Own_any (A : Option Addr) (c : Nat) (xs : List Int) (B p o : Nat) (w : World) (hp : w.cell? ⟨p, o, none⟩ = some (.slice A xs.length c)) (h : Ints w B A xs) (hB : B ≤ w.heap.size) (h0 : 0 < xs.length) (hn : xs.length ≤ 1048576) :
    Calls Try.prog 53 #[.pointer (some ⟨p, o, none⟩)] w fun e w' => ∃ g cap ex, e = .returned (.agg #[.slice (some ⟨g, 0, none⟩) xs.length cap]) ∧ w.heap.size ≤ g ∧ Below w.heap.size w w' ∧ Row w' g xs ex := by
  have hc := l00Own_any A c xs B (w.alloc (.cells #[.slice none 0 0] 28)) (h.alloc hB _) (by simp; omega) h0 hn
  have HC := Lib.hid hc
  have hlt := World.block_lt_of_cell? _ _ hp
  have hp2 := cell_kept hp (below_box w (.cells #[.slice none 0 0] 28))
  clear hc h
  go_enter Try.func53, Try.ntmps53
  go_wp2_with fail
  refine HC.out.mono ?_
  rintro e w1 ⟨g, cap, ex, rfl, hg, hb, hr⟩
  have B1 := Lib.hid (below_step (below_box w _) hb)
  have c1 := cell_kept (p := ⟨w.heap.size, 0, none⟩) (v := .slice none 0 0) (by simp) hb
  have f1 : w1.frozen? ⟨w.heap.size, 0, none⟩ = false := by rw [hb.frozen (by simp)]; simp
  have HR := Lib.hid hr
  have hg' : w.heap.size + 1 ≤ g := by simpa using hg
  clear hb hr hg
  go_wp2
  refine bodyPost_ret (v := .agg #[.slice (some ⟨g, 0, none⟩) xs.length cap]) (by simp [results, Try.results53, go_sem, c1]) rfl ⟨g, cap, ex, rfl, by omega, ?_, ?_⟩
  · exact B1.out.setCell (by simp) _
  · exact HR.out.far (by simp; omega) _

theorem with_any (A : Option Addr) (c : Nat) (xs : List Int) (B k : Nat) (m : Int) (w : World) (h : Ints w B A xs) (hB : B ≤ w.heap.size) (hk : k < xs.length) (hn : xs.length ≤ 1048576) :
    Calls Try.prog 55 #[.slice A xs.length c, .int .i64 k, .int .i64 m] w (GivesInts (xs.set k (bits .or .i64 (xs[k]?.getD 0) m)) w) := by
  have hc := cloneCols_any A c xs B w h hB (by omega) hn
  have HC := Lib.hid hc
  have hls : (xs.set k (bits .or .i64 (xs[k]?.getD 0) m)).length = xs.length := by simp
  have HLS := Lib.hid hls
  have hk0 : (0 : Int) ≤ (k : Int) := Int.natCast_nonneg _
  have hk1 : (k : Int) < (xs.length : Int) := by omega
  clear hc h hls
  go_enter Try.func55, Try.ntmps55
  go_wp2_with fail
  refine HC.out.mono ?_
  rintro e w1 ⟨g, cap, ex, rfl, hg, hb, hr⟩
  have B1 := Lib.hid hb
  have c1 := hr.cell hk
  have f1 := hr.frozen k
  have HR := Lib.hid hr
  obtain ⟨x, hx⟩ : ∃ x, xs[k]?.getD 0 = x := ⟨_, rfl⟩
  rw [hx] at c1
  have HX := Lib.hid hx
  clear hb hr hx
  go_wp2
  go_ret
  refine ⟨g, cap, ex, by rw [HLS.out]; rfl, hg, B1.out.setCell hg _, ?_⟩
  rw [HX.out]
  exact HR.out.set hk _

end Go.Proofs.Ythkfdfocghmmeaa