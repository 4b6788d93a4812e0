/- What the helpers of the named laws do (laws.a2Long, a2At, a2Width, a2Field): contracts. -/
import Derived.Test.YtjfogadcedgndaaDraw
namespace Go.Proofs.Ytjfogadcedgndaa
open Go.ChangeShapes Go.WideShapes Go.ChangeAt Go.RowKit

theorem a2Long_any (A A' : Option Addr) (n n' c c' : Nat) (w : World) (hn : n ≤ 9223372036854775807) (hn' : n' ≤ 9223372036854775807) :
    Calls Try.prog 7 #[.slice A n c, .slice A' n' c'] w fun e w' => e = .returned (.bool (decide (3000 < n) || decide (3000 < n'))) ∧ w = w' := by
  by_cases h : 3000 < n
  · have h1 : (3000 : Int) < (n : Int) := by omega
    go_enter Try.func7, Try.ntmps7
    go_wp2
    go_ret
    exact ⟨by simp [h], rfl⟩
  · have h1 : ¬ (3000 : Int) < (n : Int) := by omega
    by_cases h' : 3000 < n'
    · have h2 : (3000 : Int) < (n' : Int) := by omega
      go_enter Try.func7, Try.ntmps7
      go_wp2
      go_ret
      exact ⟨by first | (simp; done) | (simp; omega), rfl⟩
    · have h2 : ¬ (3000 : Int) < (n' : Int) := by omega
      go_enter Try.func7, Try.ntmps7
      go_wp2
      go_ret
      exact ⟨by first | (simp; done) | (simp; omega), rfl⟩

theorem a2At_any (A : Option Addr) (n c B k : Nat) (m : Int) (w : World) (h : BytesAt w B A n) (hn : n ≤ 3000) (hk : k ≤ 1000) (h1 : 1 ≤ m) (h2 : m ≤ 1048576) :
    Calls Try.prog 9 #[.slice A n c, .int .i64 k, .int .i64 m] w fun e w' => ∃ r : Nat, e = .returned (.int .i64 r) ∧ (r : Int) < m ∧ w = w' := by
  by_cases hkn : n ≤ k
  · have hk1 : (n : Int) ≤ (k : Int) := by omega
    clear h
    go_enter Try.func9, Try.ntmps9
    go_wp2
    go_ret
    exact ⟨0, rfl, by omega, rfl⟩
  · have hk1 : ¬ (n : Int) ≤ (k : Int) := by omega
    have hk2 : (k : Int) < (n : Int) := by omega
    have hk0 : (0 : Int) ≤ (k : Int) := Int.natCast_nonneg _
    have hm1 : ¬ m < 1 := by omega
    have hm0 : m ≠ 0 := by omega
    obtain ⟨b, off, rfl, hb, hc⟩ := h (by omega)
    obtain ⟨u, hu, cu⟩ := hc k (by omega)
    clear h hc
    go_enter Try.func9, Try.ntmps9
    go_wp2
    go_ret
    have e0 := Int.emod_nonneg (u : Int) hm0
    have e1 := Int.emod_lt_of_pos (u : Int) (show 0 < m by omega)
    exact ⟨((u : Int) % m).toNat, by rw [Int.toNat_of_nonneg e0]; rfl, by rw [Int.toNat_of_nonneg e0]; exact e1, rfl⟩

theorem a2Width_one (b : Nat) (A : Option Addr) (n c : Nat) (w : World) (hc : w.cell? ⟨b, 0, none⟩ = some (.slice A n c)) :
    Calls Try.prog 21 #[.slice (some ⟨b, 0, none⟩) 1 1] w fun e w' => e = .returned (.int .i64 n) ∧ w = w' := by
  go_enter Try.func21, Try.ntmps21
  go_wp2
  go_ret
  exact ⟨rfl, rfl⟩

end Go.Proofs.Ytjfogadcedgndaa