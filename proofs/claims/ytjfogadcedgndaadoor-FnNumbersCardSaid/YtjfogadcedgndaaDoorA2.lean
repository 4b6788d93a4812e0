/- What the helpers of the named laws do (laws.a2Long, a2At, a2Width, a2Field): contracts. -/
import Derived.Test.YtjfogadcedgndaaDoorDraw
namespace Go.Proofs.YtjfogadcedgndaaDoor
open Go.ChangeShapes Go.WideShapes Go.ChangeAt Go.RowKit

theorem a2Long_any (A A' : Option Addr) (n n' c c' : Nat) (w : World) (hn : n ≤ 9223372036854775807) (hn' : n' ≤ 9223372036854775807) :
    Calls Tryd.prog 5 #[.slice A n c, .slice A' n' c'] w fun e w' => e = .returned (.bool (decide (3000 < n) || decide (3000 < n'))) ∧ w = w' := by
  by_cases h : 3000 < n
  · have h1 : (3000 : Int) < (n : Int) := by omega
    go_enter Tryd.func5, Tryd.ntmps5
    go_wp2
    go_ret
    exact ⟨by simp [h], rfl⟩
  · have h1 : ¬ (3000 : Int) < (n : Int) := by omega
    by_cases h' : 3000 < n'
    · have h2 : (3000 : Int) < (n' : Int) := by omega
      go_enter Tryd.func5, Tryd.ntmps5
      go_wp2
      go_ret
      exact ⟨by first | (simp; done) | (simp; omega), rfl⟩
    · have h2 : ¬ (3000 : Int) < (n' : Int) := by omega
      go_enter Tryd.func5, Tryd.ntmps5
      go_wp2
      go_ret
      exact ⟨by first | (simp; done) | (simp; omega), rfl⟩

theorem a2At_any (A : Option Addr) (n c B k : Nat) (m : Int) (w : World) (h : BytesAt w B A n) (hn : n ≤ 3000) (hk : k ≤ 1000) (h1 : 1 ≤ m) (h2 : m ≤ 1048576) :
    Calls Tryd.prog 8 #[.slice A n c, .int .i64 k, .int .i64 m] w fun e w' => ∃ r : Nat, e = .returned (.int .i64 r) ∧ (r : Int) < m ∧ w = w' := by
  by_cases hkn : n ≤ k
  · have hk1 : (n : Int) ≤ (k : Int) := by omega
    clear h
    go_enter Tryd.func8, Tryd.ntmps8
    go_wp2
    go_ret
    exact ⟨0, rfl, by omega, rfl⟩
  · have hk1 : ¬ (n : Int) ≤ (k : Int) := by omega
    have hk2 : (k : Int) < (n : Int) := by omega
    have hk0 : (0 : Int) ≤ (k : Int) := Int.natCast_nonneg _
    have hm1 : ¬ m < 1 := by omega
    have hm0 : m ≠ 0 := by omega
    obtain ⟨b, off, rfl, hb, hc⟩ := h (by omega)
    obtain ⟨u, hu, cu⟩ := hc k (by omega)
    clear h hc
    go_enter Tryd.func8, Tryd.ntmps8
    go_wp2
    go_ret
    have e0 := Int.emod_nonneg (u : Int) hm0
    have e1 := Int.emod_lt_of_pos (u : Int) (show 0 < m by omega)
    exact ⟨((u : Int) % m).toNat, by rw [Int.toNat_of_nonneg e0]; rfl, by rw [Int.toNat_of_nonneg e0]; exact e1, rfl⟩

theorem a2Width_one (b : Nat) (A : Option Addr) (n c : Nat) (w : World) (hc : w.cell? ⟨b, 0, none⟩ = some (.slice A n c)) :
    Calls Tryd.prog 22 #[.slice (some ⟨b, 0, none⟩) 1 1] w fun e w' => e = .returned (.int .i64 n) ∧ w = w' := by
  go_enter Tryd.func22, Tryd.ntmps22
  go_wp2
  go_ret
  exact ⟨rfl, rfl⟩

theorem a2Field_one (b : Nat) (A A' : Option Addr) (n c n' c' B : Nat) (w : World) (hc : w.cell? ⟨b, 0, none⟩ = some (.slice A n c)) (h1 : 1 ≤ n) (hn : n ≤ 1048576) (h : BytesAt w B A' n') (hB : B ≤ w.heap.size) (hn' : n' ≤ 3000) :
    Calls Tryd.prog 7 #[.slice (some ⟨b, 0, none⟩) 1 1, .slice A' n' c'] w fun e w' => ∃ i j : Nat, e = .returned (.agg #[.int .i64 i, .int .i64 j]) ∧ i < j ∧ j ≤ n ∧ Below w.heap.size w w' := by
  have hb := World.block_lt_of_cell? _ _ hc
  have c1 := cell_kept hc (below_box w (.cells #[.int .i64 0, .int .i64 0] 29))
  have f0 : (w.alloc (.cells #[.int .i64 0, .int .i64 0] 29)).frozen? ⟨w.heap.size, 0, none⟩ = false := by simp [go_sem]
  have f1 : (w.alloc (.cells #[.int .i64 0, .int .i64 0] 29)).frozen? ⟨w.heap.size, 1, none⟩ = false := by simp [go_sem]
  have H := Lib.hid (h.below ((below_box w (.cells #[.int .i64 0, .int .i64 0] 29)).mono hB))
  have HW := Lib.hid (a2Width_one b A n c _ c1)
  have HX := Lib.hid (a2At_any A' n' c' B 0 n _ H.out hn' (by omega) (by omega) (by omega))
  clear h hc
  go_enter Tryd.func7, Tryd.ntmps7
  go_wp2_with fail
  refine HW.out.mono ?_
  rintro e w1 ⟨rfl, rfl⟩
  go_wp2_with fail
  refine HX.out.mono ?_
  rintro e w1 ⟨i, rfl, hi, rfl⟩
  have HY := Lib.hid (a2At_any A' n' c' B 1 ((n : Int) - i) _ H.out hn' (by omega) (by omega) (by omega))
  go_wp2_with fail
  refine HY.out.mono ?_
  rintro e w1 ⟨r, rfl, hr, rfl⟩
  go_wp2
  exact bodyPost_ret (v := .agg #[.int .i64 i, .int .i64 ((i : Int) + 1 + r)]) (by simp [results, Tryd.results7, go_sem]) rfl ⟨i, i + 1 + r, by simp, by omega, by omega, below_box w _⟩
end Go.Proofs.YtjfogadcedgndaaDoor
