/- bits.OnesCount and impl's methods distanceTo: contracts. -/
import Derived.Test.YtjfogadcedgndaaSh5
import Derived.Deep.QuietTactic
import Derived.BigQuiet
namespace Go.Proofs.Ytjfogadcedgndaa
open Go.ChangeShapes Go.WideShapes Go.ChangeAt Go.RowKit

theorem onesCount_any (m : Nat) (hm : m < 4096) (w : World) :
    Calls Try.prog 129 #[.int .u64 m] w fun e w' => e = .returned (.int .i64 (popc 12 m)) ∧ w = w' := by
  have HC := Lib.hid (fun W => ones_any m hm W)
  obtain ⟨y, hy⟩ : ∃ y, popc 12 m = y := ⟨_, rfl⟩
  rw [hy] at HC ⊢
  clear hy
  go_enter Try.func129, Try.ntmps129
  go_wp2_with (go_at_call 56; refine (HC.out _).mono ?_; rintro e w' ⟨rfl, rfl⟩)
  go_ret
  exact ⟨rfl, rfl⟩

theorem markDist_any (x y : Int) (hx : 0 ≤ x ∧ x ≤ 4095) (hy : 0 ≤ y ∧ y ≤ 4095) (w : World) :
    Calls Try.prog 120 #[.int .i64 x, .int .i64 y] w fun e w' => e = .returned (.int .i64 (df x y)) ∧ w = w' := by
  obtain ⟨m, hm, hl, hp⟩ := xor_mask hx hy
  rw [← hp]
  have HC := Lib.hid (fun W => onesCount_any m hl W)
  obtain ⟨z, hz⟩ : ∃ z, popc 12 m = z := ⟨_, rfl⟩
  have hz12 : z ≤ 12 := by rw [← hz]; exact popc_le 12 m
  rw [hz] at HC ⊢
  clear hz hp hx hy
  have hw : IntKind.u64.wrap (m : Int) = m := by simp [IntKind.wrap, IntKind.bits, IntKind.signed]; omega
  go_enter Try.func120, Try.ntmps120
  go_wp2_with (go_at_call 129; refine (HC.out _).mono ?_; rintro e w' ⟨rfl, rfl⟩)
  go_ret
  exact ⟨rfl, rfl⟩

theorem colsDist_any (A A' : Option Addr) (c c' : Nat) (xs ys : List Int) (B B' : Nat) (w : World) (h : Ints w B A xs) (h' : Ints w B' A' ys) (hn : xs.length ≤ 1048576) (hl : xs.length = ys.length) (hv : legalB xs = true) (hv' : legalB ys = true) :
    Calls Try.prog 89 #[.slice A xs.length c, .slice A' ys.length c'] w fun e w' => e = .returned (.int .i64 (distN xs ys)) ∧ w = w' := by
  obtain ⟨n, hN⟩ : ∃ n, xs.length = n := ⟨_, rfl⟩
  have hM : ys.length = n := by rw [← hl, hN]
  obtain ⟨p, hp⟩ : ∃ p, distN xs ys = p := ⟨_, rfl⟩
  have hp2 : p ≤ 12582912 := by have := distN_le xs ys; omega
  rw [hp]
  rw [hN] at hn ⊢
  rw [hM]
  have H := Lib.hid h
  have H' := Lib.hid h'
  have HN := Lib.hid hN
  have HM := Lib.hid hM
  have HP := Lib.hid hp
  have HL := Lib.hid hv
  have HL' := Lib.hid hv'
  clear h h' hN hM hp hv hv' hl
  go_enter Try.func89, Try.ntmps89
  go_wp2
  go_loop [5, 10] (fun a i => ∃ j k : Nat, j ≤ n ∧ i = .int .i64 j ∧ a = .int .i64 k ∧ k ≤ 12582912 ∧ Hid (k + distN (xs.drop j) (ys.drop j) = p)) (fun _ i => n - (intOf i).toNat)
  case atStart => exact ⟨0, 0, Nat.zero_le _, rfl, rfl, by omega, by show _ = _; simpa using HP.out⟩
  case round =>
    obtain ⟨j, k, hj, rfl, rfl, hk, HK⟩ := hrel
    by_cases hlt : j < n
    · have hx : j < xs.length := by rw [HN.out]; exact hlt
      have hy : j < ys.length := by rw [HM.out]; exact hlt
      obtain ⟨b, off, rfl, hb, hcell⟩ := H.out (by omega)
      obtain ⟨b', off', rfl, hb', hcell'⟩ := H'.out (by omega)
      have h1 := hcell j hx
      have h2 := hcell' j hy
      have hm := legal_at HL.out hx
      have hm' := legal_at HL'.out hy
      have HK1 : Hid (k + df (xs[j]?.getD 0) (ys[j]?.getD 0) + distN (xs.drop (j + 1)) (ys.drop (j + 1)) = p) := by
        have := HK.out
        rw [distN_drop xs ys j hx hy] at this
        show _ = _
        omega
      obtain ⟨x, hxx⟩ : ∃ x, xs[j]?.getD 0 = x := ⟨_, rfl⟩
      obtain ⟨y, hyy⟩ : ∃ y, ys[j]?.getD 0 = y := ⟨_, rfl⟩
      rw [hxx] at h1 hm HK1
      rw [hyy] at h2 hm' HK1
      have HC := Lib.hid (markDist_any x y hm hm')
      have hkk : k + df x y ≤ 12582912 := by have := HK1.out; omega
      have hpx := df_le x y
      obtain ⟨z, hz⟩ : ∃ z, df x y = z := ⟨_, rfl⟩
      rw [hz] at HC HK1 hkk hpx
      have hj0 : (0 : Int) ≤ (j : Int) := Int.natCast_nonneg _
      have hj1 : (j : Int) < (n : Int) := by omega
      clear hcell hcell' hxx hyy hx hy H H' hm hm' hz
      go_wp2_with (go_at_call 120; refine (HC.out _).mono ?_; rintro e w' ⟨rfl, rfl⟩)
      go_round
      case rel => exact ⟨j + 1, k + z, by omega, by go_num, by go_num, hkk, HK1⟩
      case measure => simp [intOf]; omega
    · obtain rfl : j = n := by omega
      obtain rfl : k = p := by
        have := HK.out
        rw [List.drop_of_length_le (by rw [HN.out]; omega), List.drop_of_length_le (by rw [HM.out]; omega)] at this
        simpa [distN] using this
      have hj1 : ¬ (j : Int) < (j : Int) := by omega
      go_wp2
      go_ret
      exact ⟨rfl, rfl⟩
end Go.Proofs.Ytjfogadcedgndaa

/- spec.DistanceOf and impl.DistanceOf answer in how many places two cards differ, or the code, for all cards of at most 1048576 columns: contracts, of spec.l06Far and the methods distanceTo too. -/
namespace Go.Proofs.Ytjfogadcedgndaa
open Go.ChangeShapes Go.WideShapes Go.ChangeAt Go.RowKit

theorem l06Far_any (A A' : Option Addr) (c c' : Nat) (xs ys : List Int) (B B' p o q o' : Nat) (w : World) (hp : w.cell? ⟨p, o, none⟩ = some (.slice A xs.length c)) (hq : w.cell? ⟨q, o', none⟩ = some (.slice A' ys.length c')) (h : Ints w B A xs) (h' : Ints w B' A' ys) (hB : B ≤ w.heap.size) (hB' : B' ≤ w.heap.size) (hn : xs.length ≤ 1048576) (hl : xs.length = ys.length) (hv : legalB xs = true) (hv' : legalB ys = true) :
    Calls Try.prog 82 #[.pointer (some ⟨p, o, none⟩), .pointer (some ⟨q, o', none⟩)] w fun e w' => e = .returned (.int .i64 (distN xs ys)) ∧ Below w.heap.size w w' := by
  obtain ⟨n, hN⟩ : ∃ n, xs.length = n := ⟨_, rfl⟩
  have hM : ys.length = n := by rw [← hl, hN]
  obtain ⟨r, hr⟩ : ∃ r, distN xs ys = r := ⟨_, rfl⟩
  have hr2 : r ≤ 12582912 := by have := distN_le xs ys; omega
  rw [hr]
  rw [hN] at hn hp
  rw [hM] at hq
  have H := Lib.hid h
  have H' := Lib.hid h'
  have HN := Lib.hid hN
  have HM := Lib.hid hM
  have HR := Lib.hid hr
  have HL := Lib.hid hv
  have HL' := Lib.hid hv'
  have HP := Lib.hid hp
  have HQ := Lib.hid hq
  clear h h' hN hM hr hv hv' hl
  go_enter Try.func82, Try.ntmps82
  go_wp2
  go_loopw [5, 6] (fun a i wr => ∃ j k : Nat, j ≤ n ∧ i = .int .i64 j ∧ a = .int .i64 k ∧ k ≤ 12582912 ∧ Hid (k + distN (xs.drop j) (ys.drop j) = r) ∧ Hid (Below w.heap.size w wr)) (fun _ i _ => n - (intOf i).toNat)
  case atStart => exact ⟨0, 0, Nat.zero_le _, rfl, rfl, by omega, by show _ = _; simpa using HR.out, Below.refl _ _⟩
  case round =>
    obtain ⟨j, k, hj, rfl, rfl, hk, HK, HB⟩ := hrel
    have p1 := cell_kept HP.out HB.out
    have q1 := cell_kept HQ.out HB.out
    by_cases hlt : j < n
    · have hx : j < xs.length := by rw [HN.out]; exact hlt
      have hy : j < ys.length := by rw [HM.out]; exact hlt
      obtain ⟨b, off, rfl, hb, hcell⟩ := (H.out.below (HB.out.mono hB)) (by omega)
      obtain ⟨b', off', rfl, hb', hcell'⟩ := (H'.out.below (HB.out.mono hB')) (by omega)
      have h1 := hcell j hx
      have h2 := hcell' j hy
      have hm := legal_at HL.out hx
      have hm' := legal_at HL'.out hy
      have HK1 : Hid (k + df (xs[j]?.getD 0) (ys[j]?.getD 0) + distN (xs.drop (j + 1)) (ys.drop (j + 1)) = r) := by
        have := HK.out
        rw [distN_drop xs ys j hx hy] at this
        show _ = _
        omega
      obtain ⟨x, hxx⟩ : ∃ x, xs[j]?.getD 0 = x := ⟨_, rfl⟩
      obtain ⟨y, hyy⟩ : ∃ y, ys[j]?.getD 0 = y := ⟨_, rfl⟩
      rw [hxx] at h1 hm HK1
      rw [hyy] at h2 hm' HK1
      obtain ⟨m, hm1, hm2, hm3⟩ := xor_mask hm hm'
      have hC : ∀ q, Calls Try.prog 117 #[.int .i64 m] (wr.drewN q) fun e w' => e = .returned (.int .i64 (popc 12 m)) ∧ w' = wr.drewN q := fun q => (l02Count_any m hm2 (wr.drewN q)).mono fun _ _ hh => And.intro hh.1 hh.2.symm
      rw [hm3] at hC
      have hkk : k + df x y ≤ 12582912 := by have := HK1.out; omega
      have hpx := df_le x y
      obtain ⟨z, hz⟩ : ∃ z, df x y = z := ⟨_, rfl⟩
      rw [hz] at hC HK1 hkk hpx
      have HC := Lib.hid hC
      have hj0 : (0 : Int) ≤ (j : Int) := Int.natCast_nonneg _
      have hj1 : (j : Int) < (n : Int) := by omega
      clear hcell hcell' hxx hyy hx hy H H' hm hm' hz hm3 hC
      go_wp2
      go_quiet ((go_at_call 117; exact Calls.quiet_of_same (HC.out _)))
      go_wp2
      go_roundw
      case rel => exact ⟨j + 1, k + z, by omega, by go_num, by go_num, hkk, HK1, below_drewN HB.out _⟩
      case measure => simp [intOf]; omega
    · obtain rfl : j = n := by omega
      obtain rfl : k = r := by
        have := HK.out
        rw [List.drop_of_length_le (by rw [HN.out]; omega), List.drop_of_length_le (by rw [HM.out]; omega)] at this
        simpa [distN] using this
      have hj1 : ¬ (j : Int) < (j : Int) := by omega
      clear H H'
      go_wp2
      go_ret
      exact ⟨rfl, HB.out⟩

/-- the distance, or 0 -/
def distV (xs ys : List Int) : Int := if pairCode xs ys = 0 then (distN xs ys : Int) else 0

theorem implDist_any (A A' : Option Addr) (c c' : Nat) (xs ys : List Int) (B B' : Nat) (w : World) (h : Ints w B A xs) (h' : Ints w B' A' ys) (hB : B ≤ w.heap.size) (hB' : B' ≤ w.heap.size) (hn : xs.length ≤ 1048576) (hn' : ys.length ≤ 1048576) :
    Calls Try.prog 48 #[.agg #[.slice A xs.length c], .agg #[.slice A' ys.length c']] w fun e w' => e = .returned (.tuple #[.int .i64 (distV xs ys), .int .i64 (pairCode xs ys)]) ∧ Below w.heap.size w w' := by
  have i1 := (h.alloc hB (.cells #[.slice A xs.length c] 26)).alloc (by simp; omega) (.cells #[.slice A' ys.length c'] 26)
  have i2 := (h'.alloc hB' (.cells #[.slice A xs.length c] 26)).alloc (by simp; omega) (.cells #[.slice A' ys.length c'] 26)
  have o1 := checkPair_any A A' c c' xs ys B B' _ i1 i2 (by simp; omega) (by simp; omega) hn hn'
  by_cases e : pairCode xs ys = 0
  · obtain ⟨hv, hv', hl⟩ := pairCode_zero e
    have far := fun W hI hI' => colsDist_any A A' c c' xs ys B B' W hI hI' hn hl (okB_parts hv).1 (okB_parts hv').1
    rw [distV, if_pos e, e]
    rw [e] at o1
    obtain ⟨v, hvv⟩ : ∃ v, distN xs ys = v := ⟨_, rfl⟩
    rw [hvv] at far ⊢
    have H1 := Lib.hid o1
    have HF := Lib.hid far
    have I1 := Lib.hid i1
    have I2 := Lib.hid i2
    clear o1 far i1 i2 h h' e hv hv' hvv hl
    go_enter Try.func48, Try.ntmps48
    go_wp2_with fail
    refine H1.out.mono ?_
    rintro e w1 ⟨rfl, hb⟩
    have B0 := Lib.hid hb
    have B1 := Lib.hid (below_step ((below_box w _).alloc (by simp) _) hb)
    have c1 := cell_kept (p := ⟨w.heap.size, 0, none⟩) (v := .slice A xs.length c) (by simp [go_sem]) hb
    have d1 := cell_kept (p := ⟨w.heap.size + 1, 0, none⟩) (v := .slice A' ys.length c') (by simp [go_sem]) hb
    clear hb H1
    go_wp2_with fail
    refine (HF.out w1 (I1.out.below (B0.out.mono (by simp; omega))) (I2.out.below (B0.out.mono (by simp; omega)))).mono ?_
    rintro e w2 ⟨rfl, rfl⟩
    go_wp2
    go_ret2
    exact ⟨rfl, B1.out⟩
  · rw [distV, if_neg e]
    obtain ⟨a, ha⟩ : ∃ a, pairCode xs ys = a := ⟨_, rfl⟩
    rw [ha] at o1 e ⊢
    have ha' : (a == 0) = false := by simpa using e
    have H1 := Lib.hid o1
    clear o1 i1 i2 h h' e ha
    go_enter Try.func48, Try.ntmps48
    go_wp2_with fail
    refine H1.out.mono ?_
    rintro e w1 ⟨rfl, hb⟩
    have B1 := Lib.hid (below_step ((below_box w _).alloc (by simp) _) hb)
    clear hb H1
    go_wp2
    go_ret2
    exact ⟨rfl, B1.out⟩
end Go.Proofs.Ytjfogadcedgndaa
