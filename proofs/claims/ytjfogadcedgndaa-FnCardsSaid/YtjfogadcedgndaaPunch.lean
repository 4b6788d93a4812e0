/- spec.PunchHole and impl.PunchHole give the card with one more hole, or the code, for every card of at most 1048576 columns, every column and row: contracts. -/
import Derived.Test.YtjfogadcedgndaaOwn
import Derived.Test.YtjfogadcedgndaaHoles
import Derived.Deep.RegionLaw
namespace Go.Proofs.Ytjfogadcedgndaa
open Go.ChangeShapes Go.WideShapes Go.ChangeAt Go.RowKit

theorem cell_stored {w : World} {p : Addr} {v : Value} (h : w.cell? p = some v) (u : Value) : (w.setCell p u).cell? p = some u :=
  World.cell?_setCell_same w p u h

theorem l02Own_any (A : Option Addr) (c : Nat) (xs : List Int) (B p o : Nat) (w : World) (hp : w.cell? ⟨p, o, none⟩ = some (.slice A xs.length c)) (h : Ints w B A xs) (hB : B ≤ w.heap.size) (h0 : 0 < xs.length) (hn : xs.length ≤ 1048576) :
    Calls Try.prog 87 #[.pointer (some ⟨p, o, none⟩)] w fun e w' => ∃ g cap ex, e = .returned (.agg #[.slice (some ⟨g, 0, none⟩) xs.length cap]) ∧ w.heap.size ≤ g ∧ Below w.heap.size w w' ∧ Row w' g xs ex := by
  have hc := l00Own_any A c xs B (w.alloc (.cells #[.slice none 0 0] 26)) (h.alloc hB _) (by simp; omega) h0 hn
  have HC := Lib.hid hc
  have hlt := World.block_lt_of_cell? _ _ hp
  have hp2 := cell_kept hp (below_box w (.cells #[.slice none 0 0] 26))
  clear hc h
  go_enter Try.func87, Try.ntmps87
  go_wp2_with fail
  refine HC.out.mono ?_
  rintro e w1 ⟨g, cap, ex, rfl, hg, hb, hr⟩
  have B1 := Lib.hid (below_step (below_box w _) hb)
  have c1 := cell_kept (p := ⟨w.heap.size, 0, none⟩) (v := .slice none 0 0) (by simp) hb
  have f1 : w1.frozen? ⟨w.heap.size, 0, none⟩ = false := by rw [hb.frozen (by simp)]; simp
  have HR := Lib.hid hr
  have hg' : w.heap.size + 1 ≤ g := by simpa using hg
  clear hb hr hg
  go_wp2
  refine bodyPost_ret (v := .agg #[.slice (some ⟨g, 0, none⟩) xs.length cap]) (by simp [results, Try.results87, go_sem, c1]) rfl ⟨g, cap, ex, rfl, by omega, ?_, ?_⟩
  · exact B1.out.setCell (by simp) _
  · exact HR.out.far (by simp; omega) _

theorem with_any (A : Option Addr) (c : Nat) (xs : List Int) (B k : Nat) (m : Int) (w : World) (h : Ints w B A xs) (hB : B ≤ w.heap.size) (hk : k < xs.length) (hn : xs.length ≤ 1048576) :
    Calls Try.prog 54 #[.slice A xs.length c, .int .i64 k, .int .i64 m] w (GivesInts (xs.set k (bits .or .i64 (xs[k]?.getD 0) m)) w) := by
  have hc := cloneCols_any A c xs B w h hB (by omega) hn
  have HC := Lib.hid hc
  have hls : (xs.set k (bits .or .i64 (xs[k]?.getD 0) m)).length = xs.length := by simp
  have HLS := Lib.hid hls
  have hk0 : (0 : Int) ≤ (k : Int) := Int.natCast_nonneg _
  have hk1 : (k : Int) < (xs.length : Int) := by omega
  clear hc h hls
  go_enter Try.func54, Try.ntmps54
  go_wp2_with fail
  refine HC.out.mono ?_
  rintro e w1 ⟨g, cap, ex, rfl, hg, hb, hr⟩
  have B1 := Lib.hid hb
  have c1 := hr.cell hk
  have f1 := hr.frozen k
  have HR := Lib.hid hr
  obtain ⟨x, hx⟩ : ∃ x, xs[k]?.getD 0 = x := ⟨_, rfl⟩
  rw [hx] at c1
  have HX := Lib.hid hx
  clear hb hr hx
  go_wp2
  go_ret
  refine ⟨g, cap, ex, by rw [HLS.out]; rfl, hg, B1.out.setCell hg _, ?_⟩
  rw [HX.out]
  exact HR.out.set hk _

theorem implPunch_bad (A : Option Addr) (c : Nat) (xs : List Int) (B : Nat) (col row : Int) (w : World) (h : Ints w B A xs) (hB : B ≤ w.heap.size) (hn : xs.length ≤ 1048576) (e : atCode xs col row ≠ 0) :
    Calls Try.prog 11 #[.agg #[.slice A xs.length c], .int .i64 col, .int .i64 row] w (GivesCode (atCode xs col row) w) := by
  have hat := bitOn_any A c xs B col row ((w.alloc (.cells #[.slice A xs.length c] 26)).alloc (.cells #[.slice none 0 0] 26)) ((h.alloc hB _).alloc (by simp; omega) _) (by simp; omega) hn
  rw [if_neg e] at hat
  obtain ⟨a, ha⟩ : ∃ a, atCode xs col row = a := ⟨_, rfl⟩
  rw [ha] at hat e ⊢
  have hne : (a != 0) = true := by simpa using e
  have HA := Lib.hid hat
  clear hat h ha e
  go_enter Try.func11, Try.ntmps11
  go_wp2_with fail
  refine HA.out.mono ?_
  rintro e w1 ⟨rfl, hb1⟩
  have B1 := Lib.hid (below_step ((below_box w _).alloc (by simp) _) hb1)
  have c1 := cell_kept (p := ⟨w.heap.size + 1, 0, none⟩) (v := .slice none 0 0) (by simp) hb1
  have f1 : w1.frozen? ⟨w.heap.size + 1, 0, none⟩ = false := by rw [hb1.frozen (by simp)]; simp
  clear hb1
  go_wp2
  exact bodyPost_ret (v := .tuple #[.agg #[.slice none 0 0], .int .i64 a]) (by simp [results, Try.results11, go_sem, c1]) rfl ⟨rfl, B1.out.setCell (by simp) _⟩

theorem implPunch_there (A : Option Addr) (c : Nat) (xs : List Int) (B k : Nat) (row : Int) (w : World) (h : Ints w B A xs) (hB : B ≤ w.heap.size) (hn : xs.length ≤ 1048576) (hk : k < xs.length) (e : atCode xs k row = 0) (hh : holeB xs k row = true) :
    Calls Try.prog 11 #[.agg #[.slice A xs.length c], .int .i64 k, .int .i64 row] w (GivesCode 4 w) := by
  have hat := bitOn_any A c xs B k row ((w.alloc (.cells #[.slice A xs.length c] 26)).alloc (.cells #[.slice none 0 0] 26)) ((h.alloc hB _).alloc (by simp; omega) _) (by simp; omega) hn
  rw [if_pos e, e] at hat
  obtain ⟨b, off, rfl, hb, hcell⟩ := h (by omega)
  have h1 := hcell k hk
  unfold holeB at hh
  rw [Int.toNat_natCast] at hh
  obtain ⟨x, hx⟩ : ∃ x, xs[k]?.getD 0 = x := ⟨_, rfl⟩
  obtain ⟨y, hy⟩ : ∃ y, rowBit row = y := ⟨_, rfl⟩
  obtain ⟨n, hN⟩ : ∃ n, xs.length = n := ⟨_, rfl⟩
  rw [hx] at h1 hh
  rw [hy] at hat hh
  rw [hN] at hat hk hn ⊢
  have HA := Lib.hid hat
  have hk0 : (0 : Int) ≤ (k : Int) := Int.natCast_nonneg _
  have hk1 : (k : Int) < (n : Int) := by omega
  clear hat e hcell hx hy hN h
  go_enter Try.func11, Try.ntmps11
  go_wp2_with fail
  refine HA.out.mono ?_
  rintro e w1 ⟨rfl, hb1⟩
  have B1 := Lib.hid (below_step ((below_box w _).alloc (by simp) _) hb1)
  have c0 := cell_kept (p := ⟨w.heap.size, 0, none⟩) (v := .slice (some ⟨b, off, none⟩) n c) (by simp) hb1
  have c1 := cell_kept (p := ⟨w.heap.size + 1, 0, none⟩) (v := .slice none 0 0) (by simp) hb1
  have f1 : w1.frozen? ⟨w.heap.size + 1, 0, none⟩ = false := by rw [hb1.frozen (by simp)]; simp
  have x1 := cell_kept h1 B1.out
  clear hb1 h1 HA
  go_wp2
  exact bodyPost_ret (v := .tuple #[.agg #[.slice none 0 0], .int .i64 4]) (by simp [results, Try.results11, go_sem, c1]) rfl ⟨rfl, B1.out.setCell (by simp) _⟩

theorem implPunch_good (A : Option Addr) (c : Nat) (xs : List Int) (B k : Nat) (row : Int) (w : World) (h : Ints w B A xs) (hB : B ≤ w.heap.size) (hn : xs.length ≤ 1048576) (hk : k < xs.length) (e : atCode xs k row = 0) (hh : holeB xs k row = false) :
    Calls Try.prog 11 #[.agg #[.slice A xs.length c], .int .i64 k, .int .i64 row] w (GivesCard (xs.set k (bits .or .i64 (xs[k]?.getD 0) (rowBit row))) w) := by
  have hat := bitOn_any A c xs B k row ((w.alloc (.cells #[.slice A xs.length c] 26)).alloc (.cells #[.slice none 0 0] 26)) ((h.alloc hB _).alloc (by simp; omega) _) (by simp; omega) hn
  rw [if_pos e, e] at hat
  have HH := Lib.hid h
  obtain ⟨b, off, rfl, hb, hcell⟩ := h (by omega)
  have h1 := hcell k hk
  unfold holeB at hh
  rw [Int.toNat_natCast] at hh
  obtain ⟨y, hy⟩ : ∃ y, rowBit row = y := ⟨_, rfl⟩
  rw [hy] at hat hh ⊢
  have HW := Lib.hid (fun W hI hB' => with_any (some ⟨b, off, none⟩) c xs B k y W hI hB' hk hn)
  obtain ⟨zs, hz⟩ : ∃ zs, xs.set k (bits .or .i64 (xs[k]?.getD 0) y) = zs := ⟨_, rfl⟩
  have hls : zs.length = xs.length := by rw [← hz]; simp
  rw [hz] at HW ⊢
  obtain ⟨x, hx⟩ : ∃ x, xs[k]?.getD 0 = x := ⟨_, rfl⟩
  rw [hx] at h1 hh
  have HA := Lib.hid hat
  have hk0 : (0 : Int) ≤ (k : Int) := Int.natCast_nonneg _
  have hk1 : (k : Int) < (xs.length : Int) := by omega
  clear hat e hcell hx hy hls hz
  go_enter Try.func11, Try.ntmps11
  go_wp2_with fail
  refine HA.out.mono ?_
  rintro e w1 ⟨rfl, hb1⟩
  have B1 := Lib.hid (below_step ((below_box w _).alloc (by simp) _) hb1)
  have c0 := cell_kept (p := ⟨w.heap.size, 0, none⟩) (v := .slice (some ⟨b, off, none⟩) xs.length c) (by simp) hb1
  have c1 := cell_kept (p := ⟨w.heap.size + 1, 0, none⟩) (v := .slice none 0 0) (by simp) hb1
  have f1 : w1.frozen? ⟨w.heap.size + 1, 0, none⟩ = false := by rw [hb1.frozen (by simp)]; simp
  have x1 := cell_kept h1 B1.out
  clear hb1 h1 HA
  go_wp2_with fail
  refine (HW.out _ (HH.out.below (B1.out.mono hB)) (Nat.le_trans hB B1.out.size)).mono ?_
  rintro e w2 ⟨g, cap, ex, rfl, hg, hb2, hr⟩
  have B2 := Lib.hid (below_step B1.out hb2)
  have c2 := cell_kept c1 hb2
  have f2 : w2.frozen? ⟨w.heap.size + 1, 0, none⟩ = false := by rw [hb2.frozen (World.block_lt_of_cell? _ _ c1)]; exact f1
  have hg' : w.heap.size + 1 < g := Nat.lt_of_lt_of_le (World.block_lt_of_cell? _ _ c1) hg
  have HR := Lib.hid hr
  clear hb2 hr c0 c1 f1 x1
  go_wp2
  refine bodyPost_ret (v := .tuple #[.agg #[.slice (some ⟨g, 0, none⟩) zs.length cap], .int .i64 0]) (by simp [results, Try.results11, go_sem, c2]) rfl ⟨g, cap, ex, rfl, by omega, ?_, ?_⟩
  · exact B2.out.setCell (by simp) _
  · exact HR.out.far (by simp; omega) _
end Go.Proofs.Ytjfogadcedgndaa
