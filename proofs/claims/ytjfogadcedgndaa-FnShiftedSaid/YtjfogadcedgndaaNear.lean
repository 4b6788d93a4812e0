/- spec.NearestCard and impl.NearestCard answer the place of the first card of a deck with the least distance, and this distance, or the code, for all decks of at most 1048576 cards of at most 1048576 columns: contracts, of slices.Min and slices.Index too. -/
import Derived.Test.YtjfogadcedgndaaSh6
import Derived.Test.YtjfogadcedgndaaDeckValid
import Derived.Test.YtjfogadcedgndaaBest
namespace Go.Proofs.Ytjfogadcedgndaa
open Go.ChangeShapes Go.WideShapes Go.ChangeAt Go.RowKit

theorem slicesMin_any (A : Option Addr) (c : Nat) (zs : List Int) (B : Nat) (w : World) (h : Ints w B A zs) (h0 : 0 < zs.length) (hn : zs.length ≤ 1048576) :
    Calls Try.prog 90 #[.slice A zs.length c] w fun e w' => e = .returned (.int .i64 (minTo zs (zs.length - 1))) ∧ w = w' := by
  obtain ⟨n, hN⟩ : ∃ n, zs.length = n := ⟨_, rfl⟩
  rw [hN] at h0 hn ⊢
  obtain ⟨b, off, rfl, hb, hcell⟩ := h (by omega)
  have HC := Lib.hid hcell
  have HN := Lib.hid hN
  have x0 := hcell 0 (by omega)
  rw [Nat.add_zero] at x0
  obtain ⟨y, hy⟩ : ∃ y, zs[0]?.getD 0 = y := ⟨_, rfl⟩
  rw [hy] at x0
  have HY := Lib.hid hy
  have k0 : ¬ (n : Int) < 1 := by omega
  have k1 : (0 : Int) < (n : Int) := by omega
  clear hcell hN hb h hy
  go_enter Try.func90, Try.ntmps90
  go_wp2
  clear x0
  go_loop [3, 4] (fun a i => ∃ k : Nat, 1 ≤ k ∧ k ≤ n ∧ i = .int .i64 k ∧ a = .int .i64 (minTo zs (k - 1))) (fun _ i => n - (intOf i).toNat)
  case atStart => exact ⟨1, by omega, by omega, rfl, by rw [← HY.out]; rfl⟩
  case round =>
    obtain ⟨k, hk1, hk, rfl, rfl⟩ := hrel
    by_cases hlt : k < n
    · have x1 := HC.out k (by rw [HN.out]; exact hlt)
      have hst : Hid (min (minTo zs (k - 1)) (zs[k]?.getD 0) = minTo zs k) := by
        obtain ⟨m, rfl⟩ : ∃ m, k = m + 1 := ⟨k - 1, by omega⟩
        rfl
      obtain ⟨x, hx⟩ : ∃ x, zs[k]?.getD 0 = x := ⟨_, rfl⟩
      obtain ⟨m, hm⟩ : ∃ m, minTo zs (k - 1) = m := ⟨_, rfl⟩
      rw [hx] at x1 hst
      rw [hm] at hst ⊢
      have j0 : (0 : Int) ≤ (k : Int) := Int.natCast_nonneg _
      have j1 : (k : Int) < (n : Int) := by omega
      clear hx hm
      go_wp2
      go_round
      case rel => exact ⟨k + 1, by omega, by omega, by go_num, by rw [Nat.add_sub_cancel, ← hst.out]; exact congrArg (Value.int .i64) (by rw [Int.min_def]; split <;> split <;> omega)⟩
      case measure => simp [intOf]; omega
    · obtain rfl : k = n := by omega
      have j1 : ¬ (k : Int) < (k : Int) := by omega
      go_wp2
      go_ret
      exact ⟨rfl, rfl⟩

theorem slicesIndex_any (A : Option Addr) (c : Nat) (zs : List Int) (B t : Nat) (v : Int) (w : World) (h : Ints w B A zs) (hn : zs.length ≤ 1048576) (ht : t < zs.length) (hv : zs[t]?.getD 0 = v) (hf : ∀ u, u < t → zs[u]?.getD 0 ≠ v) :
    Calls Try.prog 91 #[.slice A zs.length c, .int .i64 v] w fun e w' => e = .returned (.int .i64 t) ∧ w = w' := by
  obtain ⟨n, hN⟩ : ∃ n, zs.length = n := ⟨_, rfl⟩
  rw [hN] at hn ht ⊢
  obtain ⟨b, off, rfl, hb, hcell⟩ := h (by omega)
  have HC := Lib.hid hcell
  have HN := Lib.hid hN
  have HV := Lib.hid hv
  have HF := Lib.hid hf
  clear hcell hN hb h hv hf
  go_enter Try.func91, Try.ntmps91
  go_wp2
  go_loop [8] (fun i => ∃ k : Nat, k ≤ t ∧ i = .int .i64 k) (fun i => n - (intOf i).toNat)
  case atStart => exact ⟨0, Nat.zero_le _, rfl⟩
  case round =>
    obtain ⟨k, hk, rfl⟩ := hrel
    have hkn : k < n := by omega
    have x1 := HC.out k (by rw [HN.out]; exact hkn)
    obtain ⟨x, hx⟩ : ∃ x, zs[k]?.getD 0 = x := ⟨_, rfl⟩
    rw [hx] at x1
    have HX := Lib.hid hx
    have j0 : (0 : Int) ≤ (k : Int) := Int.natCast_nonneg _
    have j1 : (k : Int) < (n : Int) := by omega
    clear hx
    by_cases hlt : k < t
    · have hne : (v == x) = false := by
        have := HF.out k hlt
        rw [HX.out] at this
        simpa using fun e => this e.symm
      go_wp2
      go_round
      case rel => exact ⟨k + 1, by omega, by go_num⟩
      case measure => simp [intOf]; omega
    · obtain rfl : k = t := by omega
      obtain rfl : x = v := by rw [← HX.out, HV.out]
      go_wp2
      go_ret
      exact ⟨rfl, rfl⟩

theorem l06FarD_any (A A' : Option Addr) (c c' : Nat) (xs ys : List Int) (B B' p o q o' : Nat) (w : World) (hp : w.cell? ⟨p, o, none⟩ = some (.slice A xs.length c)) (hq : w.cell? ⟨q, o', none⟩ = some (.slice A' ys.length c')) (h : Ints w B A xs) (h' : Ints w B' A' ys) (hB : B ≤ w.heap.size) (hB' : B' ≤ w.heap.size) (hn : xs.length ≤ 1048576) (hl : xs.length = ys.length) (hv : legalB xs = true) (hv' : legalB ys = true) :
    Calls Try.prog 82 #[.pointer (some ⟨p, o, none⟩), .pointer (some ⟨q, o', none⟩)] w fun e w' => e = .returned (.int .i64 (distN xs ys)) ∧ ∃ q, w' = w.drewN q := by
  obtain ⟨n, hN⟩ : ∃ n, xs.length = n := ⟨_, rfl⟩
  have hM : ys.length = n := by rw [← hl, hN]
  obtain ⟨r, hr⟩ : ∃ r, distN xs ys = r := ⟨_, rfl⟩
  have hr2 : r ≤ 12582912 := by have := distN_le xs ys; omega
  rw [hr]
  rw [hN] at hn hp
  rw [hM] at hq
  have H := Lib.hid h
  have H' := Lib.hid h'
  have HN := Lib.hid hN
  have HM := Lib.hid hM
  have HR := Lib.hid hr
  have HL := Lib.hid hv
  have HL' := Lib.hid hv'
  have HP := Lib.hid hp
  have HQ := Lib.hid hq
  clear h h' hN hM hr hv hv' hl
  go_enter Try.func82, Try.ntmps82
  go_wp2
  go_loopw [5, 6] (fun a i wr => ∃ j k : Nat, j ≤ n ∧ i = .int .i64 j ∧ a = .int .i64 k ∧ k ≤ 12582912 ∧ Hid (k + distN (xs.drop j) (ys.drop j) = r) ∧ Hid (∃ q, wr = w.drewN q)) (fun _ i _ => n - (intOf i).toNat)
  case atStart => exact ⟨0, 0, Nat.zero_le _, rfl, rfl, by omega, by show _ = _; simpa using HR.out, ⟨0, rfl⟩⟩
  case round =>
    obtain ⟨j, k, hj, rfl, rfl, hk, HK, HD⟩ := hrel
    have HB : Hid (Below w.heap.size w wr) := by
      obtain ⟨q, hq⟩ := HD.out
      rw [hq]
      exact below_drewN (Below.refl _ _) q
    have p1 := cell_kept HP.out HB.out
    have q1 := cell_kept HQ.out HB.out
    by_cases hlt : j < n
    · have hx : j < xs.length := by rw [HN.out]; exact hlt
      have hy : j < ys.length := by rw [HM.out]; exact hlt
      obtain ⟨b, off, rfl, hb, hcell⟩ := (H.out.below (HB.out.mono hB)) (by omega)
      obtain ⟨b', off', rfl, hb', hcell'⟩ := (H'.out.below (HB.out.mono hB')) (by omega)
      have h1 := hcell j hx
      have h2 := hcell' j hy
      have hm := legal_at HL.out hx
      have hm' := legal_at HL'.out hy
      have HK1 : Hid (k + df (xs[j]?.getD 0) (ys[j]?.getD 0) + distN (xs.drop (j + 1)) (ys.drop (j + 1)) = r) := by
        have := HK.out
        rw [distN_drop xs ys j hx hy] at this
        show _ = _
        omega
      obtain ⟨x, hxx⟩ : ∃ x, xs[j]?.getD 0 = x := ⟨_, rfl⟩
      obtain ⟨y, hyy⟩ : ∃ y, ys[j]?.getD 0 = y := ⟨_, rfl⟩
      rw [hxx] at h1 hm HK1
      rw [hyy] at h2 hm' HK1
      obtain ⟨m, hm1, hm2, hm3⟩ := xor_mask hm hm'
      have hC : ∀ q, Calls Try.prog 117 #[.int .i64 m] (wr.drewN q) fun e w' => e = .returned (.int .i64 (popc 12 m)) ∧ w' = wr.drewN q := fun q => (l02Count_any m hm2 (wr.drewN q)).mono fun _ _ hh => And.intro hh.1 hh.2.symm
      rw [hm3] at hC
      have hkk : k + df x y ≤ 12582912 := by have := HK1.out; omega
      have hpx := df_le x y
      obtain ⟨z, hz⟩ : ∃ z, df x y = z := ⟨_, rfl⟩
      rw [hz] at hC HK1 hkk hpx
      have HC := Lib.hid hC
      have hj0 : (0 : Int) ≤ (j : Int) := Int.natCast_nonneg _
      have hj1 : (j : Int) < (n : Int) := by omega
      clear hcell hcell' hxx hyy hx hy H H' hm hm' hz hm3 hC
      go_wp2
      go_quiet ((go_at_call 117; exact Calls.quiet_of_same (HC.out _)))
      go_wp2
      go_roundw
      case rel => exact ⟨j + 1, k + z, by omega, by go_num, by go_num, hkk, HK1, by
          obtain ⟨q, hq⟩ := HD.out
          exact ⟨_, by rw [hq, World.drewN_drewN]⟩⟩
      case measure => simp [intOf]; omega
    · obtain rfl : j = n := by omega
      obtain rfl : k = r := by
        have := HK.out
        rw [List.drop_of_length_le (by rw [HN.out]; omega), List.drop_of_length_le (by rw [HM.out]; omega)] at this
        simpa [distN] using this
      have hj1 : ¬ (j : Int) < (j : Int) := by omega
      clear H H'
      go_wp2
      go_ret
      exact ⟨rfl, HD.out⟩

end Go.Proofs.Ytjfogadcedgndaa
