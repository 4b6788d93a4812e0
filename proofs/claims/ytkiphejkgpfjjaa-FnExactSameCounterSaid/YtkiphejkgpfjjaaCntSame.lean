/- spec.SameCounter and impl.SameCounter answer whether two counters have the same digits, for counters of at most 1048576 digits: contracts. -/
import Derived.Test.YtkiphejkgpfjjaaSame
import Derived.Test.YtkiphejkgpfjjaaCounter
namespace Go.Proofs.Ytkiphejkgpfjjaa
open Go.ChangeShapes Go.WideShapes Go.ChangeAt Go.RowKit

theorem specSameCounter_any (A A' : Option Addr) (c c' : Nat) (xs ys : List Int) (B B' : Nat) (w : World) (h : Ints w B A xs) (h' : Ints w B' A' ys) (hB : B ≤ w.heap.size) (hB' : B' ≤ w.heap.size) (hn : xs.length ≤ 1048576) (hn' : ys.length ≤ 140737488355328) :
    Calls Try.prog 14 #[.agg #[.slice A xs.length c], .agg #[.slice A' ys.length c']] w fun e w' => e = .returned (.bool (decide (xs = ys))) ∧ Below w.heap.size w w' := by
  have hc := l00Same_any A A' c c' xs ys B B' _ ((h.alloc hB (.cells #[.slice A xs.length c] 27)).alloc (by simp; omega) (.cells #[.slice A' ys.length c'] 27)) ((h'.alloc hB' _).alloc (by simp; omega) _) hn hn'
  obtain ⟨r, hr⟩ : ∃ r, decide (xs = ys) = r := ⟨_, rfl⟩
  rw [hr] at hc ⊢
  have HC := Lib.hid hc
  clear hc hr h h'
  go_enter Try.func14, Try.ntmps14
  go_wp2_with fail
  refine HC.out.mono ?_
  rintro e w' ⟨rfl, n, rfl⟩
  go_wp2
  go_ret
  exact ⟨rfl, below_drewN (((Below.refl _ _).alloc (Nat.le_refl _) _).alloc (by simp) _) _⟩

theorem implSameCounter_any (A A' : Option Addr) (c c' : Nat) (xs ys : List Int) (B B' : Nat) (w : World) (h : Ints w B A xs) (h' : Ints w B' A' ys) (hB : B ≤ w.heap.size) (hB' : B' ≤ w.heap.size) (hn : xs.length ≤ 1048576) (hn' : ys.length ≤ 140737488355328) :
    Calls Try.prog 15 #[.agg #[.slice A xs.length c], .agg #[.slice A' ys.length c']] w fun e w' => e = .returned (.bool (decide (xs = ys))) ∧ Below w.heap.size w w' := by
  have hc := slicesEqual_any A A' c c' xs ys B B' _ ((h.alloc hB (.cells #[.slice A xs.length c] 27)).alloc (by simp; omega) (.cells #[.slice A' ys.length c'] 27)) ((h'.alloc hB' _).alloc (by simp; omega) _) hn hn'
  obtain ⟨r, hr⟩ : ∃ r, decide (xs = ys) = r := ⟨_, rfl⟩
  rw [hr] at hc ⊢
  have HC := Lib.hid hc
  clear hc hr h h'
  go_enter Try.func15, Try.ntmps15
  go_wp2_with fail
  refine HC.out.mono ?_
  rintro e w' ⟨rfl, n, rfl⟩
  go_wp2
  go_ret
  exact ⟨rfl, below_drewN (((Below.refl _ _).alloc (Nat.le_refl _) _).alloc (by simp) _) _⟩

end Go.Proofs.Ytkiphejkgpfjjaa
