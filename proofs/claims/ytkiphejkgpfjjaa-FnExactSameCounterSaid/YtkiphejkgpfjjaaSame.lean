/- spec.SameCard and impl.SameCard answer whether two cards have the same numbers, for cards of at most 1048576 columns: contracts, of spec.l00Same and slices.Equal too. -/
import Derived.Test.YtkiphejkgpfjjaaValid
namespace Go.Proofs.Ytkiphejkgpfjjaa
open Go.ChangeShapes Go.WideShapes Go.ChangeAt Go.RowKit

theorem l00Same_any (A A' : Option Addr) (c c' : Nat) (xs ys : List Int) (B B' : Nat) (w : World) (h : Ints w B A xs) (h' : Ints w B' A' ys) (hn : xs.length ≤ 1048576) (hn' : ys.length ≤ 140737488355328) :
    Calls Try.prog 33 #[.slice A xs.length c, .slice A' ys.length c'] w fun e w' => e = .returned (.bool (decide (xs = ys))) ∧ ∃ n, w' = w.drewN n := by
  by_cases hl : xs.length = ys.length
  · obtain ⟨n, hN⟩ : ∃ n, xs.length = n := ⟨_, rfl⟩
    obtain ⟨r, hr⟩ : ∃ r, decide (xs = ys) = r := ⟨_, rfl⟩
    rw [hr]
    rw [hN] at hn ⊢
    rw [← hl, hN]
    have H := Lib.hid h
    have H' := Lib.hid h'
    have HN := Lib.hid hN
    have HL := Lib.hid hl
    have HR := Lib.hid hr
    clear h h' hN hl hr
    go_enter Try.func33, Try.ntmps33
    go_wp2
    go_loopw [5] (fun i wr => ∃ k m : Nat, k ≤ n ∧ i = .int .i64 k ∧ wr = w.drewN m ∧ Hid (xs.take k = ys.take k)) (fun i _ => n - (intOf i).toNat)
    case atStart => exact ⟨0, 0, Nat.zero_le _, rfl, rfl, by simp [Hid]⟩
    case round =>
      obtain ⟨k, m, hk, rfl, rfl, HK⟩ := hrel
      by_cases hlt : k < n
      · have hx : k < xs.length := by rw [HN.out]; exact hlt
        have hy : k < ys.length := by rw [← HL.out, HN.out]; exact hlt
        obtain ⟨b, off, rfl, hb, hcell⟩ := H.out (by omega)
        obtain ⟨b', off', rfl, hb', hcell'⟩ := H'.out (by omega)
        have h1 := hcell k hx
        have h2 := hcell' k hy
        obtain ⟨x, hxx⟩ : ∃ x, xs[k]?.getD 0 = x := ⟨_, rfl⟩
        obtain ⟨y, hyy⟩ : ∃ y, ys[k]?.getD 0 = y := ⟨_, rfl⟩
        rw [hxx] at h1
        rw [hyy] at h2
        have Hx := Lib.hid hxx
        have Hy := Lib.hid hyy
        have hx' := Lib.hid hx
        have hy' := Lib.hid hy
        have hk0 : (0 : Int) ≤ (k : Int) := Int.natCast_nonneg _
        have hk1 : (k : Int) < (n : Int) := by omega
        clear hcell hcell' hxx hyy hx hy H H'
        by_cases hxy : x = y
        · have HK1 : Hid (xs.take (k + 1) = ys.take (k + 1)) := take_more xs ys k hx'.out hy'.out HK.out (by rw [Hx.out, Hy.out, hxy])
          subst hxy
          go_wp2
          go_quiet (fail)
          go_wp2
          go_roundw
          case rel => exact ⟨k + 1, _, by omega, by go_num, rfl, HK1⟩
          case measure => simp [intOf]; omega
        · obtain rfl : r = false := by rw [← HR.out]; exact parts_at xs ys k (by rw [Hx.out, Hy.out]; exact hxy)
          go_wp2
          go_quiet (fail)
          go_wp2
          go_ret
          exact ⟨rfl, _, World.drewN_drewN _ _ _⟩
      · obtain rfl : k = n := by omega
        obtain rfl : r = true := by
          rw [← HR.out]
          have := HK.out
          rw [List.take_of_length_le (by rw [HN.out]; omega), List.take_of_length_le (by rw [← HL.out, HN.out]; omega)] at this
          simpa using this
        go_wp2
        go_ret
        exact ⟨rfl, _, rfl⟩
  · have e : decide (xs = ys) = false := by
      simp only [decide_eq_false_iff_not]
      rintro rfl
      exact hl rfl
    rw [e]
    clear e
    go_enter Try.func33, Try.ntmps33
    go_wp2
    go_ret
    exact ⟨rfl, 0, rfl⟩

theorem slicesEqual_any (A A' : Option Addr) (c c' : Nat) (xs ys : List Int) (B B' : Nat) (w : World) (h : Ints w B A xs) (h' : Ints w B' A' ys) (hn : xs.length ≤ 1048576) (hn' : ys.length ≤ 140737488355328) :
    Calls Try.prog 34 #[.slice A xs.length c, .slice A' ys.length c'] w fun e w' => e = .returned (.bool (decide (xs = ys))) ∧ ∃ n, w' = w.drewN n := by
  by_cases hl : xs.length = ys.length
  · obtain ⟨n, hN⟩ : ∃ n, xs.length = n := ⟨_, rfl⟩
    obtain ⟨r, hr⟩ : ∃ r, decide (xs = ys) = r := ⟨_, rfl⟩
    rw [hr]
    rw [hN] at hn ⊢
    rw [← hl, hN]
    have H := Lib.hid h
    have H' := Lib.hid h'
    have HN := Lib.hid hN
    have HL := Lib.hid hl
    have HR := Lib.hid hr
    clear h h' hN hl hr
    go_enter Try.func34, Try.ntmps34
    go_wp2
    go_loopw [13] (fun i wr => ∃ k m : Nat, k ≤ n ∧ i = .int .i64 k ∧ wr = w.drewN m ∧ Hid (xs.take k = ys.take k)) (fun i _ => n - (intOf i).toNat)
    case atStart => exact ⟨0, 0, Nat.zero_le _, rfl, rfl, by simp [Hid]⟩
    case round =>
      obtain ⟨k, m, hk, rfl, rfl, HK⟩ := hrel
      by_cases hlt : k < n
      · have hx : k < xs.length := by rw [HN.out]; exact hlt
        have hy : k < ys.length := by rw [← HL.out, HN.out]; exact hlt
        obtain ⟨b, off, rfl, hb, hcell⟩ := H.out (by omega)
        obtain ⟨b', off', rfl, hb', hcell'⟩ := H'.out (by omega)
        have h1 := hcell k hx
        have h2 := hcell' k hy
        obtain ⟨x, hxx⟩ : ∃ x, xs[k]?.getD 0 = x := ⟨_, rfl⟩
        obtain ⟨y, hyy⟩ : ∃ y, ys[k]?.getD 0 = y := ⟨_, rfl⟩
        rw [hxx] at h1
        rw [hyy] at h2
        have Hx := Lib.hid hxx
        have Hy := Lib.hid hyy
        have hx' := Lib.hid hx
        have hy' := Lib.hid hy
        have hk0 : (0 : Int) ≤ (k : Int) := Int.natCast_nonneg _
        have hk1 : (k : Int) < (n : Int) := by omega
        clear hcell hcell' hxx hyy hx hy H H'
        by_cases hxy : x = y
        · have HK1 : Hid (xs.take (k + 1) = ys.take (k + 1)) := take_more xs ys k hx'.out hy'.out HK.out (by rw [Hx.out, Hy.out, hxy])
          subst hxy
          go_wp2
          go_quiet (fail)
          go_wp2
          go_roundw
          case rel => exact ⟨k + 1, _, by omega, by go_num, rfl, HK1⟩
          case measure => simp [intOf]; omega
        · obtain rfl : r = false := by rw [← HR.out]; exact parts_at xs ys k (by rw [Hx.out, Hy.out]; exact hxy)
          go_wp2
          go_quiet (fail)
          go_wp2
          go_ret
          exact ⟨rfl, _, World.drewN_drewN _ _ _⟩
      · obtain rfl : k = n := by omega
        obtain rfl : r = true := by
          rw [← HR.out]
          have := HK.out
          rw [List.take_of_length_le (by rw [HN.out]; omega), List.take_of_length_le (by rw [← HL.out, HN.out]; omega)] at this
          simpa using this
        go_wp2
        go_ret
        exact ⟨rfl, _, rfl⟩
  · have e : decide (xs = ys) = false := by
      simp only [decide_eq_false_iff_not]
      rintro rfl
      exact hl rfl
    rw [e]
    clear e
    go_enter Try.func34, Try.ntmps34
    go_wp2
    go_ret
    exact ⟨rfl, 0, rfl⟩

end Go.Proofs.Ytkiphejkgpfjjaa