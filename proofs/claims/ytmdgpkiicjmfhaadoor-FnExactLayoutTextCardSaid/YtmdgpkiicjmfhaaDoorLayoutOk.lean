/- Whether a layout is valid: the contract of spec.l04Ok and spec.ValidLayout. -/
import Derived.Test.YtmdgpkiicjmfhaaDoorLayMath
import Derived.Deep.RegionHeld3
import Derived.Deep.DeepCutAuto
namespace Go.Proofs.YtmdgpkiicjmfhaaDoor
open Go.ChangeShapes Go.WideShapes Go.ChangeAt Go.RowKit

set_option maxRecDepth 100000 in
set_option maxHeartbeats 4000000 in
theorem l04Ok_any (u : Int) (A : Option Addr) (c : Nat) (ds : List It) (B p o : Nat) (w : World) (hp0 : w.cell? ⟨p, o, none⟩ = some (.int .i64 u)) (hp1 : w.cell? ⟨p, o + 1, none⟩ = some (.slice A ds.length c)) (h : Items w B A ds) (hB : B ≤ w.heap.size) (hn : ds.length ≤ 1048576) :
    Calls Tryd.prog 26 #[.pointer (some ⟨p, o, none⟩)] w fun e w' => e = .returned (.bool (layoutB u ds)) ∧ Below w.heap.size w w' := by
  have hI := fun W => in_any u 1 20 W
  obtain ⟨n, hN⟩ : ∃ n, ds.length = n := ⟨_, rfl⟩
  obtain ⟨v, hv⟩ : ∃ v, layoutB u ds = v := ⟨_, rfl⟩
  rw [hv]
  rw [hN] at hp1 hn
  unfold layoutB at hv
  rw [hN] at hv
  cases h1 : inB u 1 20
  · obtain rfl : v = false := by rw [← hv]; simp [h1]
    rw [h1] at hI
    have HI := Lib.hid hI
    clear hI hv h1 h
    go_enter Tryd.func26, Tryd.ntmps26
    go_wp2_with (go_at_call 47; refine (HI.out _).mono ?_; rintro e w' ⟨rfl, rfl⟩)
    go_ret
    exact ⟨rfl, Below.refl _ _⟩
  · rw [h1, Bool.true_and] at hv
    have hu : u ≤ 9223372036854775807 := by
      simp only [inB, Bool.and_eq_true, decide_eq_true_eq] at h1
      omega
    rw [h1] at hI
    have HI := Lib.hid hI
    have H := Lib.hid h
    have HV := Lib.hid hv
    have HN := Lib.hid hN
    clear hI hv h1 h hN
    go_enter Tryd.func26, Tryd.ntmps26
    go_wp2_with (go_at_call 47; refine (HI.out _).mono ?_; rintro e w' ⟨rfl, rfl⟩)
    go_loopw [3] (fun x wr => ∃ i : Nat, i ≤ n ∧ x = .int .i64 i ∧ Hid (okTo ds u i = true) ∧ Hid (Below w.heap.size w wr)) (fun x _ => n - (intOf x).toNat)
    case atStart => exact ⟨0, Nat.zero_le _, rfl, rfl, Below.refl _ _⟩
    case round =>
      obtain ⟨i, hi, rfl, HO, HB⟩ := hrel
      have c0 := cell_kept hp0 HB.out
      have c1 := cell_kept hp1 HB.out
      by_cases hlt : i < n
      · obtain ⟨d, hd⟩ : ∃ d, ds[i]? = some d := ⟨ds[i]'(by rw [HN.out]; exact hlt), List.getElem?_eq_getElem _⟩
        obtain ⟨b, off, rfl, hb, e0, e1, e2, e3⟩ := (H.out.below (HB.out.mono hB)).at_ hd
        have hi0 : (0 : Int) ≤ (i : Int) := Int.natCast_nonneg _
        have hi1 : (i : Int) < (n : Int) := by omega
        have HIT := Lib.hid (fun W q0 q1 q2 q3 => l04Item_any d b (off + i * 4) u W q0 q1 q2 q3 hu)
        have hst := okTo_step (n := u) hd
        rw [HO.out, Bool.true_and] at hst
        have HST := Lib.hid hst
        have HDI := Lib.hid hd
        clear hst hd
        have K0 : Hid (Below wr.heap.size wr wr.drew) := Below.drew (Below.refl _ _)
        go_upto_region 6 with fail
        go_cut [31] (fun s0 wx => s0 = .bool (!itemB d u) ∧ Below wr.heap.size wr wx)
        case first =>
          go_region_held3 (fun W => W.cell? ⟨p, o, none⟩ = some (.int .i64 u) ∧ W.cell? ⟨p, o + 1, none⟩ = some (.slice (some ⟨b, off, none⟩) n c))
            (first | exact ⟨c0, c1⟩ | exact ⟨cell_kept c0 K0.out, cell_kept c1 K0.out⟩ | exact ⟨cell_kept c0 K1.out, cell_kept c1 K1.out⟩ | go_keep)
            (first
              | (go_at_call 48
                 refine (HIT.out _ (cell_kept e0 K0.out) (cell_kept e1 K0.out) (cell_kept e2 K0.out) (cell_kept e3 K0.out)).mono ?_
                 rintro e w9 ⟨rfl, hb⟩
                 have K1 : Hid (Below wr.heap.size wr w9) := below_step K0.out hb
                 clear hb))
          all_goals (go_wp2_with fail; go_meet; exact ⟨rfl, K1.out⟩)
        case rest =>
          obtain ⟨rfl, hb⟩ := hcut
          rename World => w2
          have HB2 := Lib.hid (below_step HB.out hb)
          clear hb c0 c1 e0 e1 e2 e3 K0 HIT HB
          cases hit : itemB d u
          · obtain rfl : v = false := by
              have := HST.out
              rw [hit, Bool.false_and] at this
              rw [← HV.out, okTo_false this hlt, Bool.false_and]
            clear HST
            go_wp2
            go_ret
            exact ⟨rfl, HB2.out⟩
          · have hst := HST.out
            rw [hit, Bool.true_and] at hst
            have HST2 := Lib.hid hst
            clear hst HST
            go_wp2
            go_loopw [4] (fun y wz => ∃ k : Nat, k ≤ i ∧ y = .int .i64 k ∧ Hid (clearTo ds d k = true) ∧ Hid (Below w.heap.size w wz)) (fun y _ => i - (intOf y).toNat)
            case atStart => exact ⟨0, Nat.zero_le _, rfl, rfl, HB2.out⟩
            case round =>
              obtain ⟨k, hk, rfl, HC, HB⟩ := hrel
              have c0 := cell_kept hp0 HB.out
              have c1 := cell_kept hp1 HB.out
              have hk0 : (0 : Int) ≤ (k : Int) := Int.natCast_nonneg _
              by_cases hki : k < i
              · obtain ⟨q, hq⟩ : ∃ q, ds[k]? = some q := ⟨ds[k]'(by rw [HN.out]; omega), List.getElem?_eq_getElem _⟩
                obtain ⟨b1, off1, hA1, _, e0, e1, e2, e3⟩ := (H.out.below (HB.out.mono hB)).at_ HDI.out
                obtain ⟨b2, off2, hA2, _, g0, g1, g2, g3⟩ := (H.out.below (HB.out.mono hB)).at_ hq
                obtain ⟨rfl, rfl⟩ : b = b1 ∧ off = off1 := by injection hA1 with hA1; injection hA1 with x1 x2; exact ⟨x1, x2⟩
                obtain ⟨rfl, rfl⟩ : b = b2 ∧ off = off2 := by injection hA2 with hA2; injection hA2 with x1 x2; exact ⟨x1, x2⟩
                have hk1 : (k : Int) < (i : Int) := by omega
                have hk2 : (k : Int) < (n : Int) := by omega
                have hct := clearTo_step (d := d) hq
                rw [HC.out, Bool.true_and] at hct
                have HCT := Lib.hid hct
                have HM := Lib.hid (fun W => l04Meet_any q.f0 q.f1 d.f0 d.f1 W)
                have K0 : Hid (Below wr.heap.size wr wr.drew) := Below.drew (Below.refl _ _)
                clear hA1 hA2 hct hq e1 g1 c0
                obtain ⟨r, hr⟩ : ∃ r, (decide (q.name = d.name) || meetB q.f0 q.f1 d.f0 d.f1) = r := ⟨_, rfl⟩
                have HR := Lib.hid hr
                clear hr
                go_upto_region 11 with fail
                go_cut [72] (fun s0 wx => s0 = .bool r ∧ Below wr.heap.size wr wx)
                case first =>
                  by_cases hnm : q.name = d.name
                  · obtain rfl : r = true := by rw [← HR.out]; simp [hnm]
                    rw [hnm] at g0
                    go_quiet (fail)
                    all_goals (go_wp2_with fail; go_meet; exact ⟨rfl, below_drewN (Below.refl _ _) _⟩)
                  · have hnm1 : (q.name.toList == d.name.toList) = false := bytes_ne hnm
                    obtain rfl : meetB q.f0 q.f1 d.f0 d.f1 = r := by rw [← HR.out]; simp [hnm]
                    go_region_held3 (fun W => W.cell? ⟨p, o + 1, none⟩ = some (.slice (some ⟨b, off, none⟩) n c) ∧ W.cell? ⟨b, off + k * 4, none⟩ = some (.string q.name) ∧ W.cell? ⟨b, off + i * 4, none⟩ = some (.string d.name) ∧ W.cell? ⟨b, off + k * 4 + 2, none⟩ = some (.int .i64 q.f0) ∧ W.cell? ⟨b, off + k * 4 + 3, none⟩ = some (.int .i64 q.f1) ∧ W.cell? ⟨b, off + i * 4 + 2, none⟩ = some (.int .i64 d.f0) ∧ W.cell? ⟨b, off + i * 4 + 3, none⟩ = some (.int .i64 d.f1))
                      (first | exact ⟨c1, g0, e0, g2, g3, e2, e3⟩ | exact ⟨cell_kept c1 K0.out, cell_kept g0 K0.out, cell_kept e0 K0.out, cell_kept g2 K0.out, cell_kept g3 K0.out, cell_kept e2 K0.out, cell_kept e3 K0.out⟩ | exact ⟨cell_kept c1 K1.out, cell_kept g0 K1.out, cell_kept e0 K1.out, cell_kept g2 K1.out, cell_kept g3 K1.out, cell_kept e2 K1.out, cell_kept e3 K1.out⟩ | go_keep)
                      (first
                        | (go_at_call 49
                           refine (HM.out _).mono ?_
                           rintro e w9 ⟨rfl, hb⟩
                           have K1 : Hid (Below wr.heap.size wr w9) := below_step K0.out hb
                           clear hb))
                    all_goals (go_wp2_with fail; go_meet; exact ⟨rfl, K1.out⟩)
                case rest =>
                  obtain ⟨rfl, hb⟩ := hcut
                  rename World => w5
                  have HB5 := Lib.hid (below_step HB.out hb)
                  have hrr := HR.out
                  have hct := HCT.out
                  rw [hrr] at hct
                  clear hb c1 e0 e2 e3 g0 g2 g3 K0 HM HB HR HCT hrr
                  cases r
                  · have HCL := Lib.hid (hct : clearTo ds d (k + 1) = true)
                    clear hct
                    go_wp2
                    go_roundw
                    case rel => exact ⟨k + 1, by omega, by go_num, HCL.out, HB5.out⟩
                    case measure => simp [intOf]; omega
                  · obtain rfl : v = false := by
                      have h5 := clearTo_false hct (Nat.succ_le_of_lt hki)
                      have h6 := HST2.out
                      rw [h5] at h6
                      rw [← HV.out, okTo_false h6 hlt, Bool.false_and]
                    clear hct
                    go_wp2
                    go_ret
                    exact ⟨rfl, HB5.out⟩
              · have hk1 : ¬ (k : Int) < (i : Int) := by omega
                obtain rfl : k = i := by omega
                have HOK := Lib.hid (HST2.out.trans HC.out)
                clear c0 c1
                go_wp2
                go_roundw
                case rel => exact ⟨k + 1, by omega, by go_num, HOK.out, HB.out⟩
                case measure => simp [intOf]; omega
      · have hi1 : ¬ (i : Int) < (n : Int) := by omega
        obtain rfl : i = n := by omega
        have hvv := HV.out
        rw [HO.out, Bool.true_and] at hvv
        have HVV := Lib.hid hvv
        clear hvv
        go_wp2
        go_ret
        refine ⟨ret_bool ?_, HB.out⟩
        rw [← HVV.out]
        by_cases h12 : i ≤ 12
        · have : (i : Int) ≤ 12 := by omega
          simp [h12, this]
        · have : ¬ (i : Int) ≤ 12 := by omega
          simp [h12, this]
end Go.Proofs.YtmdgpkiicjmfhaaDoor
