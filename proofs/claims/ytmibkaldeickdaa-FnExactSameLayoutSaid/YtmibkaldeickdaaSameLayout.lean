/- slices.Equal at items, spec.SameLayout and impl.SameLayout say whether two layouts are equal, for all layouts of at most 1048576 items: contracts. -/
import Derived.Test.YtmibkaldeickdaaItemEq
import Derived.Deep.QuietTactic
import Derived.BigQuiet
namespace Go.Proofs.Ytmibkaldeickdaa
open Go.ChangeShapes Go.WideShapes Go.ChangeAt Go.RowKit

theorem take_stepI {α : Type} (xs ys : List α) (k : Nat) (x : α) (hx : xs[k]? = some x) (hy : ys[k]? = some x) (h : xs.take k = ys.take k) : xs.take (k + 1) = ys.take (k + 1) := by
  obtain ⟨h1, e1⟩ := List.getElem?_eq_some_iff.1 hx
  obtain ⟨h2, e2⟩ := List.getElem?_eq_some_iff.1 hy
  rw [List.take_succ_eq_append_getElem h1, List.take_succ_eq_append_getElem h2, h, e1, e2]
theorem itB_false {c d : It} (h : c ≠ d) : itB c d = false := by
  cases e : itB c d
  · rfl
  · exact absurd (itB_iff.1 e) h

theorem slicesEqualI_any (A A' : Option Addr) (c c' : Nat) (xs ys : List It) (B B' : Nat) (w : World) (h : Items w B A xs) (h' : Items w B' A' ys) (hn : xs.length ≤ 1048576) :
    Calls Try.prog 36 #[.slice A xs.length c, .slice A' ys.length c'] w fun e w' => e = .returned (.bool (decide (xs = ys))) ∧ ∃ n, w' = w.drewN n := by
  by_cases hl : xs.length = ys.length
  · obtain ⟨n, hN⟩ : ∃ n, xs.length = n := ⟨_, rfl⟩
    obtain ⟨r, hr⟩ : ∃ r, decide (xs = ys) = r := ⟨_, rfl⟩
    rw [hr]
    rw [hN] at hn ⊢
    rw [← hl, hN]
    have H := Lib.hid h
    have H' := Lib.hid h'
    have HN := Lib.hid hN
    have HE := Lib.hid (hl.symm.trans hN)
    have HR := Lib.hid hr
    clear h h' hN hl hr
    go_enter Try.func36, Try.ntmps36
    go_wp2
    go_loopw [13] (fun i wr => ∃ k q : Nat, k ≤ n ∧ i = .int .i64 k ∧ wr = w.drewN q ∧ Hid (xs.take k = ys.take k)) (fun i _ => n - (intOf i).toNat)
    case atStart => exact ⟨0, 0, Nat.zero_le _, rfl, rfl, by show _ = _; simp⟩
    case round =>
      obtain ⟨k, q, hk, rfl, rfl, HK⟩ := hrel
      by_cases hlt : k < n
      · obtain ⟨x, hx⟩ : ∃ x, xs[k]? = some x := ⟨xs[k]'(by rw [HN.out]; exact hlt), List.getElem?_eq_getElem _⟩
        obtain ⟨y, hy⟩ : ∃ y, ys[k]? = some y := ⟨ys[k]'(by rw [HE.out]; exact hlt), List.getElem?_eq_getElem _⟩
        obtain ⟨b, off, rfl, hb, c0, c1, c2, c3⟩ := H.out.at_ hx
        obtain ⟨b', off', rfl, hb', d0, d1, d2, d3⟩ := H'.out.at_ hy
        have HX := Lib.hid hx
        have HY := Lib.hid hy
        have hne := neq_item x.name y.name x.kind x.f0 x.f1 y.kind y.f0 y.f1
        have hgu := guard_item .neq
        rw [It.eta, It.eta] at hne
        have hk0 : (0 : Int) ≤ (k : Int) := Int.natCast_nonneg _
        have hk1 : (k : Int) < (n : Int) := by omega
        clear hx hy H H'
        by_cases hxy : x = y
        · subst hxy
          have HK1 : Hid (xs.take (k + 1) = ys.take (k + 1)) := take_stepI xs ys k x HX.out HY.out HK.out
          rw [show itB x x = true from itB_iff.2 rfl] at hne
          obtain ⟨nm, kd, a, f⟩ := x
          go_wp2
          go_quiet (fail)
          go_wp2
          go_roundw
          case rel => exact ⟨k + 1, _, by omega, by go_num, rfl, HK1⟩
          case measure => simp [intOf]; omega
        · obtain rfl : r = false := by
            rw [← HR.out]
            simp only [decide_eq_false_iff_not]
            intro ee
            have := HX.out
            rw [ee, HY.out] at this
            injection this with this
            exact hxy this.symm
          rw [itB_false hxy] at hne
          obtain ⟨nm, kd, a, f⟩ := x
          obtain ⟨nm', kd', a', f'⟩ := y
          clear hxy
          go_wp2
          go_quiet (fail)
          go_wp2
          go_ret
          exact ⟨rfl, _, World.drewN_drewN _ _ _⟩
      · have hkn : k = n := by omega
        obtain rfl : r = true := by
          rw [← HR.out]
          have := HK.out
          rw [List.take_of_length_le (by rw [HN.out]; omega), List.take_of_length_le (by rw [HE.out]; omega)] at this
          simpa using this
        have hk1 : ¬ (k : Int) < (n : Int) := by omega
        clear hkn H H'
        go_wp2
        go_ret
        exact ⟨rfl, _, rfl⟩
  · have e : decide (xs = ys) = false := by
      simp only [decide_eq_false_iff_not]
      intro ee
      exact hl (congrArg List.length ee)
    rw [e]
    have hne : ((xs.length : Int) != (ys.length : Int)) = true := by rw [bne_iff_ne]; omega
    clear e h h'
    go_enter Try.func36, Try.ntmps36
    go_wp2
    go_ret
    exact ⟨rfl, 0, rfl⟩

/-- whether two layouts are equal -/
def layB (u v : Int) (xs ys : List It) : Bool := decide (u = v) && decide (xs = ys)

theorem implSameL_any (A A' : Option Addr) (c c' : Nat) (u v : Int) (xs ys : List It) (B B' : Nat) (w : World) (h : Items w B A xs) (h' : Items w B' A' ys) (hB : B ≤ w.heap.size) (hB' : B' ≤ w.heap.size) (hn : xs.length ≤ 1048576) :
    Calls Try.prog 14 #[.agg #[.int .i64 u, .slice A xs.length c], .agg #[.int .i64 v, .slice A' ys.length c']] w fun e w' => e = .returned (.bool (layB u v xs ys)) ∧ Below w.heap.size w w' := by
  have hs := slicesEqualI_any A A' c c' xs ys B B' _ ((h.alloc hB (.cells #[.int .i64 u, .slice A xs.length c] 29)).alloc (by simp; omega) (.cells #[.int .i64 v, .slice A' ys.length c'] 29)) ((h'.alloc hB' _).alloc (by simp; omega) _) hn
  obtain ⟨n, hN⟩ : ∃ n, xs.length = n := ⟨_, rfl⟩
  obtain ⟨m, hM⟩ : ∃ m, ys.length = m := ⟨_, rfl⟩
  obtain ⟨r, hr⟩ : ∃ r, decide (xs = ys) = r := ⟨_, rfl⟩
  rw [hN, hM, hr] at hs
  rw [layB, hN, hM, hr]
  have HS := Lib.hid hs
  clear hs h h' hN hM hr hn
  by_cases huv : u = v
  · subst huv
    rw [show (decide (u = u) && r) = r by simp]
    go_enter Try.func14, Try.ntmps14
    go_wp2_with fail
    refine HS.out.mono ?_
    rintro e w1 ⟨rfl, q, rfl⟩
    go_wp2
    go_ret
    exact ⟨rfl, below_drewN ((below_box w _).alloc (by simp) _) q⟩
  · rw [decide_eq_false huv, Bool.false_and]
    have hne : (u == v) = false := by simpa using huv
    clear huv
    go_enter Try.func14, Try.ntmps14
    go_wp2
    go_ret
    exact ⟨rfl, (below_box w _).alloc (by simp) _⟩

theorem specSameL_any (A A' : Option Addr) (c c' : Nat) (u v : Int) (xs ys : List It) (B B' : Nat) (w : World) (h : Items w B A xs) (h' : Items w B' A' ys) (hB : B ≤ w.heap.size) (hB' : B' ≤ w.heap.size) (hn : xs.length ≤ 1048576) :
    Calls Try.prog 13 #[.agg #[.int .i64 u, .slice A xs.length c], .agg #[.int .i64 v, .slice A' ys.length c']] w fun e w' => e = .returned (.bool (layB u v xs ys)) ∧ Below w.heap.size w w' := by
  by_cases huv : u = v
  · subst huv
    by_cases hl : xs.length = ys.length
    · have i1 := (h.alloc hB (.cells #[.int .i64 u, .slice A xs.length c] 29)).alloc (by simp; omega) (.cells #[.int .i64 u, .slice A' ys.length c'] 29)
      have i2 := (h'.alloc hB' (.cells #[.int .i64 u, .slice A xs.length c] 29)).alloc (by simp; omega) (.cells #[.int .i64 u, .slice A' ys.length c'] 29)
      obtain ⟨n, hN⟩ : ∃ n, xs.length = n := ⟨_, rfl⟩
      obtain ⟨r, hr⟩ : ∃ r, decide (xs = ys) = r := ⟨_, rfl⟩
      rw [layB, hr, show (decide (u = u) && r) = r by simp]
      rw [hN] at hn i1 i2 ⊢
      rw [← hl, hN] at i1 i2 ⊢
      have H := Lib.hid i1
      have H' := Lib.hid i2
      have HN := Lib.hid hN
      have HE := Lib.hid (hl.symm.trans hN)
      have HR := Lib.hid hr
      have hnn : ((n : Int) != (n : Int)) = false := by simp
      clear h h' hN hl hr i1 i2
      go_enter Try.func13, Try.ntmps13
      go_wp2
      go_loopw [5] (fun i wr => ∃ k q : Nat, k ≤ n ∧ i = .int .i64 k ∧ wr = ((w.alloc (.cells #[.int .i64 u, .slice A n c] 29)).alloc (.cells #[.int .i64 u, .slice A' n c'] 29)).drewN q ∧ Hid (xs.take k = ys.take k)) (fun i _ => n - (intOf i).toNat)
      case atStart => exact ⟨0, 0, Nat.zero_le _, rfl, rfl, by show _ = _; simp⟩
      case round =>
        obtain ⟨k, q, hk, rfl, rfl, HK⟩ := hrel
        have B2 := Lib.hid (below_drewN ((below_box w (.cells #[.int .i64 u, .slice A n c] 29)).alloc (by simp) (.cells #[.int .i64 u, .slice A' n c'] 29)) q)
        by_cases hlt : k < n
        · obtain ⟨x, hx⟩ : ∃ x, xs[k]? = some x := ⟨xs[k]'(by rw [HN.out]; exact hlt), List.getElem?_eq_getElem _⟩
          obtain ⟨y, hy⟩ : ∃ y, ys[k]? = some y := ⟨ys[k]'(by rw [HE.out]; exact hlt), List.getElem?_eq_getElem _⟩
          obtain ⟨b, off, rfl, hb, c0, c1, c2, c3⟩ := H.out.at_ hx
          obtain ⟨b', off', rfl, hb', d0, d1, d2, d3⟩ := H'.out.at_ hy
          have HX := Lib.hid hx
          have HY := Lib.hid hy
          have hne := neq_item x.name y.name x.kind x.f0 x.f1 y.kind y.f0 y.f1
          have hgu := guard_item .neq
          rw [It.eta, It.eta] at hne
          have hk0 : (0 : Int) ≤ (k : Int) := Int.natCast_nonneg _
          have hk1 : (k : Int) < (n : Int) := by omega
          clear hx hy H H'
          by_cases hxy : x = y
          · subst hxy
            have HK1 : Hid (xs.take (k + 1) = ys.take (k + 1)) := take_stepI xs ys k x HX.out HY.out HK.out
            rw [show itB x x = true from itB_iff.2 rfl] at hne
            obtain ⟨nm, kd, a, f⟩ := x
            go_wp2
            go_quiet (fail)
            go_wp2
            go_roundw
            case rel => exact ⟨k + 1, _, by omega, by go_num, rfl, HK1⟩
            case measure => simp [intOf]; omega
          · obtain rfl : r = false := by
              rw [← HR.out]
              simp only [decide_eq_false_iff_not]
              intro ee
              have := HX.out
              rw [ee, HY.out] at this
              injection this with this
              exact hxy this.symm
            rw [itB_false hxy] at hne
            obtain ⟨nm, kd, a, f⟩ := x
            obtain ⟨nm', kd', a', f'⟩ := y
            clear hxy
            go_wp2
            go_quiet (fail)
            go_wp2
            go_ret
            exact ⟨rfl, below_drewN B2.out _⟩
        · have hkn : k = n := by omega
          obtain rfl : r = true := by
            rw [← HR.out]
            have := HK.out
            rw [List.take_of_length_le (by rw [HN.out]; omega), List.take_of_length_le (by rw [HE.out]; omega)] at this
            simpa using this
          have hk1 : ¬ (k : Int) < (n : Int) := by omega
          clear hkn H H'
          go_wp2
          go_ret
          exact ⟨rfl, B2.out⟩
    · have e : layB u u xs ys = false := by
        rw [layB, Bool.and_eq_false_iff]
        right
        simp only [decide_eq_false_iff_not]
        intro ee
        exact hl (congrArg List.length ee)
      rw [e]
      have hne : ((xs.length : Int) != (ys.length : Int)) = true := by rw [bne_iff_ne]; omega
      clear e h h'
      go_enter Try.func13, Try.ntmps13
      go_wp2
      go_ret
      exact ⟨rfl, (below_box w _).alloc (by simp) _⟩
  · have e : layB u v xs ys = false := by rw [layB, decide_eq_false huv, Bool.false_and]
    rw [e]
    have hne : (u != v) = true := by simpa using huv
    clear e h h' huv
    go_enter Try.func13, Try.ntmps13
    go_wp2
    go_ret
    exact ⟨rfl, (below_box w _).alloc (by simp) _⟩
end Go.Proofs.Ytmibkaldeickdaa
