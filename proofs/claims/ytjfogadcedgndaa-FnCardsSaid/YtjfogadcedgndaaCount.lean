/- spec.CountHoles and impl.CountHoles answer the number of holes of a card, for every card of at most 1048576 columns: contracts, of spec.l02Count too. -/
import Derived.Test.YtjfogadcedgndaaValid
import Derived.Test.YtjfogadcedgndaaOnes
namespace Go.Proofs.Ytjfogadcedgndaa
open Go.ChangeShapes Go.WideShapes Go.ChangeAt Go.RowKit
theorem l02Count_any (m : Nat) (hm : m < 4096) (w : World) :
    Calls Try.prog 117 #[.int .i64 m] w fun e w' => e = .returned (.int .i64 (popc 12 m)) ∧ w = w' := by
  obtain ⟨p, hp⟩ : ∃ p, popc 12 m = p := ⟨_, rfl⟩
  have hp12 : p ≤ 12 := by rw [← hp]; exact popc_le 12 m
  rw [hp]
  have HP := Lib.hid hp
  clear hp
  go_enter Try.func117, Try.ntmps117
  go_wp2
  go_loop [0, 3] (fun a n => ∃ f x k : Nat, a = .int .i64 x ∧ n = .int .i64 k ∧ f ≤ 12 ∧ x < 2 ^ f ∧ Hid (k + popc f x = p)) (fun a _ => (intOf a).toNat)
  case atStart => exact ⟨12, m, 0, rfl, rfl, by omega, by omega, by rw [Hid, HP.out]; omega⟩
  case round =>
    obtain ⟨f, x, k, rfl, rfl, hf, hx, HK⟩ := hrel
    by_cases h0 : x = 0
    · subst h0
      obtain rfl : k = p := by have := HK.out; rw [popc_zero] at this; omega
      clear hx
      go_wp2
      go_ret
      exact ⟨rfl, rfl⟩
    · cases f with
      | zero => exact absurd hx (by simp; omega)
      | succ f =>
        have hx2 : x / 2 < 2 ^ f := by rw [Nat.pow_succ] at hx; omega
        have hx12 : x < 4096 := Nat.lt_of_lt_of_le hx (Nat.pow_le_pow_right (by omega) hf)
        have hkp : k ≤ 12 := by have := HK.out; omega
        have HK1 : Hid (k + x % 2 + popc f (x / 2) = p) := by have := HK.out; rw [popc] at this; show _ = _; omega
        have HX := Lib.hid hx2
        have hpos : (0 : Int) < (x : Int) := by omega
        clear hx hx2
        go_wp2
        go_round
        case rel => exact ⟨f, x / 2, k + x % 2, by go_num, by go_num, by omega, HX.out, HK1⟩
        case measure => simp [intOf]; omega

/-- the number of holes of columns -/
def countN (xs : List Int) : Nat := (xs.map fun x => popc 12 x.toNat).sum
theorem countN_le : ∀ xs : List Int, countN xs ≤ 12 * xs.length
  | [] => by simp [countN]
  | x :: xs => by
    have h1 := countN_le xs
    have h2 := popc_le 12 x.toNat
    simp only [countN, List.map_cons, List.sum_cons, List.length_cons] at h1 ⊢
    omega
theorem countN_drop (xs : List Int) (j : Nat) (h : j < xs.length) : countN (xs.drop j) = popc 12 (xs[j]?.getD 0).toNat + countN (xs.drop (j + 1)) := by
  rw [countN, countN, List.drop_eq_getElem_cons h, List.map_cons, List.sum_cons, List.getElem?_eq_getElem h]
  rfl

theorem implCount_any (A : Option Addr) (c : Nat) (xs : List Int) (B : Nat) (w : World) (h : Ints w B A xs) (hB : B ≤ w.heap.size) (hn : xs.length ≤ 1048576) :
    Calls Try.prog 12 #[.agg #[.slice A xs.length c]] w fun e w' => e = .returned (.tuple #[.int .i64 (if okB xs = true then (countN xs : Int) else 0), .int .i64 (if okB xs = true then 0 else 1)]) ∧ Below w.heap.size w w' := by
  have hok := implValidCard_any A c xs B (w.alloc (.cells #[.slice A xs.length c] 26)) (h.alloc hB _) (by simp; omega) hn
  cases hv : okB xs
  · rw [if_neg (by decide), if_neg (by decide)]
    rw [hv] at hok
    have HO := Lib.hid hok
    clear hok hv h hn
    go_enter Try.func12, Try.ntmps12
    go_wp2_with fail
    refine HO.out.mono ?_
    rintro e w1 ⟨rfl, hb⟩
    have B1 := Lib.hid (below_step (below_box w _) hb)
    clear hb
    go_wp2
    go_ret2
    exact ⟨rfl, B1.out⟩
  · rw [if_pos rfl, if_pos rfl]
    rw [hv] at hok
    obtain ⟨hleg, hn20⟩ := okB_parts hv
    obtain ⟨n, hN⟩ : ∃ n, xs.length = n := ⟨_, rfl⟩
    obtain ⟨p, hp⟩ : ∃ p, countN xs = p := ⟨_, rfl⟩
    have hp240 : p ≤ 240 := by have := countN_le xs; omega
    rw [hp]
    rw [hN] at hn20 hok ⊢
    have HO := Lib.hid hok
    have H := Lib.hid h
    have HN := Lib.hid hN
    have HP := Lib.hid hp
    have HL := Lib.hid hleg
    clear hok hv h hn hN hp hleg
    go_enter Try.func12, Try.ntmps12
    go_wp2_with fail
    refine HO.out.mono ?_
    rintro e w1 ⟨rfl, hb⟩
    have B1 := Lib.hid (below_step (below_box w _) hb)
    have c1 := cell_kept (p := ⟨w.heap.size, 0, none⟩) (v := .slice A n c) (by simp) hb
    clear hb
    go_wp2
    go_loop [4, 13] (fun a i => ∃ j k : Nat, j ≤ n ∧ i = .int .i64 j ∧ a = .int .i64 k ∧ k ≤ 240 ∧ Hid (k + countN (xs.drop j) = p)) (fun _ i => n - (intOf i).toNat)
    case atStart => exact ⟨0, 0, Nat.zero_le _, rfl, rfl, by omega, by show _ = _; simpa using HP.out⟩
    case round =>
      obtain ⟨j, k, hj, rfl, rfl, hk, HK⟩ := hrel
      by_cases hlt : j < n
      · have hx : j < xs.length := by rw [HN.out]; exact hlt
        obtain ⟨b, off, rfl, hb, hcell⟩ := H.out (by omega)
        have h1 := hcell j hx
        have hm := legal_at HL.out hx
        obtain ⟨x, hxx⟩ : ∃ x : Nat, xs[j]?.getD 0 = x ∧ x < 4096 := ⟨(xs[j]?.getD 0).toNat, by omega, by omega⟩
        have hx2 := hxx.2
        rw [hxx.1] at h1
        have HK1 : Hid (k + popc 12 x + countN (xs.drop (j + 1)) = p) := by
          have := HK.out
          rw [countN_drop xs j hx, hxx.1, Int.toNat_natCast] at this
          show _ = _
          omega
        have hkk : k + popc 12 x ≤ 240 := by have := HK1.out; omega
        have hpx := popc_le 12 x
        have HC := Lib.hid (ones_any x hx2)
        obtain ⟨y, hy⟩ : ∃ y, popc 12 x = y := ⟨_, rfl⟩
        rw [hy] at HC HK1 hkk hpx
        have x1 := cell_kept h1 B1.out
        clear hcell hxx hx H hm hy h1 HO
        go_wp2_with (go_at_call 56; refine (HC.out _).mono ?_; rintro e w' ⟨rfl, rfl⟩)
        go_round
        case rel => exact ⟨j + 1, k + y, by omega, by go_num, by go_num, hkk, HK1⟩
        case measure => simp [intOf]; omega
      · obtain rfl : j = n := by omega
        obtain rfl : k = p := by
          have := HK.out
          rw [List.drop_of_length_le (by rw [HN.out]; omega)] at this
          simpa [countN] using this
        go_wp2
        go_ret2
        exact ⟨rfl, B1.out⟩
end Go.Proofs.Ytjfogadcedgndaa
