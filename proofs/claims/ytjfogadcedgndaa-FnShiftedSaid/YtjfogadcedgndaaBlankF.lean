/- spec.IsBlankField and impl.IsBlankField answer whether the columns of a field have no holes, or the code, for every card of at most 1048576 columns and every field: contracts. -/
import Derived.Test.YtjfogadcedgndaaPart
namespace Go.Proofs.Ytjfogadcedgndaa
open Go.ChangeShapes Go.WideShapes Go.ChangeAt Go.RowKit

def blankB (ys : List Int) : Bool := ys.all (· == 0)
theorem blankB_take (ys : List Int) (k : Nat) (hk : k < ys.length) (h : blankB (ys.take k) = true) (h0 : ys[k]?.getD 0 = 0) : blankB (ys.take (k + 1)) = true := by
  rw [List.getElem?_eq_getElem hk] at h0
  rw [blankB, List.take_succ_eq_append_getElem hk, List.all_append, List.all_cons, List.all_nil, Bool.and_true]
  have h0' : ys[k] = 0 := h0
  rw [h0']
  simpa [blankB] using h
theorem blankB_bad (ys : List Int) (k : Nat) (hk : k < ys.length) (h : ys[k]?.getD 0 ≠ 0) : blankB ys = false := by
  rw [List.getElem?_eq_getElem hk] at h
  rw [blankB, List.all_eq_false]
  exact ⟨ys[k], List.getElem_mem hk, by simpa using h⟩

theorem implBlankF_bad (A : Option Addr) (c : Nat) (xs : List Int) (B : Nat) (a b : Int) (w : World) (h : Ints w B A xs) (hB : B ≤ w.heap.size) (hn : xs.length ≤ 1048576) (e : partCode xs a b ≠ 0) :
    Calls Try.prog 47 #[.agg #[.slice A xs.length c], .agg #[.int .i64 a, .int .i64 b]] w fun e w' => e = .returned (.tuple #[.bool false, .int .i64 (partCode xs a b)]) ∧ Below w.heap.size w w' := by
  have hat := columnsIn_bad A c xs B a b ((w.alloc (.cells #[.slice A xs.length c] 26)).alloc (.cells #[.int .i64 a, .int .i64 b] 70)) ((h.alloc hB _).alloc (by simp; omega) _) (by simp; omega) hn e
  obtain ⟨k, hk⟩ : ∃ k, partCode xs a b = k := ⟨_, rfl⟩
  rw [hk] at hat e ⊢
  have hne : (k != 0) = true := by simpa using e
  have HA := Lib.hid hat
  clear hat h hk e
  go_enter Try.func47, Try.ntmps47
  go_wp2_with fail
  refine HA.out.mono ?_
  rintro e w1 ⟨rfl, hb1⟩
  have B1 := Lib.hid (below_step ((below_box w _).alloc (by simp) _) hb1)
  clear hb1
  go_wp2
  go_ret2
  exact ⟨rfl, B1.out⟩

theorem implBlankF_good (b off c : Nat) (xs : List Int) (B i j : Nat) (w : World) (h : Ints w B (some ⟨b, off, none⟩) xs) (hB : B ≤ w.heap.size) (hc : xs.length ≤ c) (hcm : xs.length ≤ 1048576 ∧ c ≤ 9223372036854775807) (hij : i < j) (hj : j ≤ xs.length) (e : partCode xs i j = 0) :
    Calls Try.prog 47 #[.agg #[.slice (some ⟨b, off, none⟩) xs.length c], .agg #[.int .i64 i, .int .i64 j]] w fun e w' => e = .returned (.tuple #[.bool (blankB (partOf xs i j)), .int .i64 0]) ∧ Below w.heap.size w w' := by
  have hat := columnsIn_good b off c xs B i j ((w.alloc (.cells #[.slice (some ⟨b, off, none⟩) xs.length c] 26)).alloc (.cells #[.int .i64 i, .int .i64 j] 70)) ((h.alloc hB _).alloc (by simp; omega) _) (by simp; omega) hc hcm hij hj e
  have hl := partOf_length xs i j hj
  have HP := Lib.hid (h.part i j hij hj)
  obtain ⟨ys, hy⟩ : ∃ ys, partOf xs i j = ys := ⟨_, rfl⟩
  rw [hy] at HP hl ⊢
  obtain ⟨r, hr⟩ : ∃ r, blankB ys = r := ⟨_, rfl⟩
  rw [hr]
  obtain ⟨n, hn⟩ : ∃ n, j - i = n := ⟨_, rfl⟩
  rw [hn] at hl hat
  have hn0 : n ≤ 1048576 := by omega
  have HA := Lib.hid hat
  have HL := Lib.hid hl
  have HR := Lib.hid hr
  clear hat h e hy hl hr hn
  go_enter Try.func47, Try.ntmps47
  go_wp2_with fail
  refine HA.out.mono ?_
  rintro e w1 ⟨rfl, hb1⟩
  have B2 := Lib.hid (below_step ((below_box w _).alloc (by simp) _) hb1)
  have H2 := Lib.hid (HP.out.below (B2.out.mono hB))
  clear hb1 HA HP
  go_wp2
  go_loop [21] (fun t => ∃ k : Nat, k ≤ n ∧ t = .int .i64 k ∧ Hid (blankB (ys.take k) = true)) (fun t => n - (intOf t).toNat)
  case atStart => exact ⟨0, Nat.zero_le _, rfl, rfl⟩
  case round =>
    obtain ⟨k, hk, rfl, HK⟩ := hrel
    by_cases hlt : k < n
    · have hx : k < ys.length := by rw [HL.out]; exact hlt
      obtain ⟨b', off', e, hb, hcell⟩ := H2.out (by omega)
      injection e with e
      injection e with e1 e2
      subst e1 e2
      have h1 := hcell k hx
      obtain ⟨x, hxx⟩ : ∃ x, ys[k]?.getD 0 = x := ⟨_, rfl⟩
      rw [hxx] at h1
      have Hx := Lib.hid hxx
      have hx' := Lib.hid hx
      have hk0 : (0 : Int) ≤ (k : Int) := Int.natCast_nonneg _
      have hk1 : (k : Int) < (n : Int) := by omega
      clear hcell hxx hx H2 hb
      by_cases hm : x = 0
      · have HK1 : Hid (blankB (ys.take (k + 1)) = true) := blankB_take ys k hx'.out HK.out (by rw [Hx.out]; exact hm)
        have hm' : (x != 0) = false := by simp [hm]
        clear hm
        go_wp2
        go_round
        case rel => exact ⟨k + 1, by omega, by go_num, HK1⟩
        case measure => simp [intOf]; omega
      · obtain rfl : r = false := by rw [← HR.out, blankB_bad ys k hx'.out (by rw [Hx.out]; exact hm)]
        have hm' : (x != 0) = true := by simpa using hm
        clear hm
        go_wp2
        go_ret2
        exact ⟨rfl, B2.out⟩
    · have hkn : k = n := by omega
      have hk1 : ¬ (k : Int) < (n : Int) := by omega
      obtain rfl : r = true := by
        rw [← HR.out]
        have := HK.out
        rwa [List.take_of_length_le (by rw [HL.out]; omega)] at this
      clear hkn
      go_wp2
      go_ret2
      exact ⟨rfl, B2.out⟩
end Go.Proofs.Ytjfogadcedgndaa
