/- For every two lists of bytes, the law FnCards returns true: a hole that is punched in a drawn card is there, and only it, and overlaid cards have the holes of both. Conditions: none. -/
import Derived.Test.YtjfogadcedgndaaA2
import Derived.Test.YtjfogadcedgndaaCardsMath
import Derived.Test.YtjfogadcedgndaaSame
import Derived.Test.YtjfogadcedgndaaPictureI
import Derived.Test.YtjfogadcedgndaaBytes
import Derived.Deep.QuietTactic
import Derived.BigQuiet
import Derived.Deep.RegionHeld3
namespace Go.Proofs.Ytjfogadcedgndaa.fnCards
open Go.ChangeShapes Go.WideShapes Go.ChangeAt Go.RowKit

theorem rows_cell (w : World) (j : Nat) (hj : j < 12) : (w.alloc (.cells #[.int .i64 12, .int .i64 11, .int .i64 0, .int .i64 1, .int .i64 2, .int .i64 3, .int .i64 4, .int .i64 5, .int .i64 6, .int .i64 7, .int .i64 8, .int .i64 9] 2)).cell? ⟨w.heap.size, j, none⟩ = some (.int .i64 (rowAt j)) := by
  have h : j = 0 ∨ j = 1 ∨ j = 2 ∨ j = 3 ∨ j = 4 ∨ j = 5 ∨ j = 6 ∨ j = 7 ∨ j = 8 ∨ j = 9 ∨ j = 10 ∨ j = 11 := by omega
  rcases h with rfl | rfl | rfl | rfl | rfl | rfl | rfl | rfl | rfl | rfl | rfl | rfl <;> simp [go_sem, rowAt, rowsL]
theorem rowAt_ne (j : Nat) (hj : j < 12) : rowBit (rowAt j) ≠ 0 := by
  have : ∀ r : Fin 12, rowBit (rowAt r.val) ≠ 0 := by decide +kernel
  exact this ⟨j, hj⟩
theorem at_zero {l : List Int} {k : Nat} {row : Int} (h : okB l = true) (hk : k < l.length) (hr : rowBit row ≠ 0) : atCode l k row = 0 := by
  have hd : (decide (0 ≤ (k : Int)) && decide ((k : Int) < l.length)) = true := by rw [Bool.and_eq_true]; exact ⟨decide_eq_true (Int.natCast_nonneg _), decide_eq_true (by omega)⟩
  unfold atCode
  rw [if_neg (by simp [h]), if_neg (by rw [hd]; simp [hr])]

set_option maxRecDepth 100000 in
theorem walk_long (A A' : Option Addr) (n n' c c' : Nat) (w : World) (hn : n ≤ 9223372036854775807) (hn' : n' ≤ 9223372036854775807) (h : 3000 < n ∨ 3000 < n') :
    Calls Try.prog 3 #[.slice A n c, .slice A' n' c'] w fun e w' => e = .returned (.bool true) ∧ Below w.heap.size w w' := by
  have hL := a2Long_any A A' n n' c c' w hn hn'
  have e : (decide (3000 < n) || decide (3000 < n')) = true := by simpa using h
  rw [e] at hL
  have HL := Lib.hid hL
  clear hL e h
  go_enter Try.func3, Try.ntmps3
  go_wp2_with fail
  refine HL.out.mono ?_
  rintro e w1 ⟨rfl, rfl⟩
  go_wp2
  go_ret
  exact ⟨rfl, Below.refl _ _⟩


set_option maxRecDepth 100000 in
set_option maxHeartbeats 8000000 in
theorem walk_short (A A' : Option Addr) (n n' c c' : Nat) (w : World) (h0 : BytesAt w w.heap.size A n) (h1 : BytesAt w w.heap.size A' n') (hn : n ≤ 3000) (hn' : n' ≤ 3000) :
    Calls Try.prog 3 #[.slice A n c, .slice A' n' c'] w fun e w' => e = .returned (.bool true) ∧ Below w.heap.size w w' := by
  have hL := a2Long_any A A' n n' c c' w (by omega) (by omega)
  have e : (decide (3000 < n) || decide (3000 < n')) = false := by simp; omega
  rw [e] at hL
  have HL := Lib.hid hL
  have HC := Lib.hid (A2Card_any A n c w.heap.size w h0 (Nat.le_refl _) hn)
  have H1 := Lib.hid h1
  clear hL e h0 h1
  go_enter Try.func3, Try.ntmps3
  go_wp2_with fail
  refine HL.out.mono ?_
  rintro e w1 ⟨rfl, rfl⟩
  go_wp2_with fail
  refine HC.out.mono ?_
  rintro e wz ⟨gr, cap, l, ex, rfl, hl1, hl6, hlc, hcm, hok, hgr, hb, hrow⟩
  unfold maxLen at hcm
  have OK := Lib.hid hok
  have okl := okB_mask hok hl1 hl6
  have OKL := Lib.hid okl
  obtain ⟨m, hm⟩ : ∃ m, l.length = m := ⟨_, rfl⟩
  have HM := Lib.hid hm
  rw [hm] at hl1 hl6 hlc
  have hb0 := hb
  obtain ⟨W, eW⟩ : ∃ W, wz.alloc (.cells #[.slice (some ⟨gr, 0, none⟩) m cap] 26) = W := ⟨_, rfl⟩
  have BW : Hid (Below w.heap.size w W) := by rw [← eW]; exact hb.alloc hb.size _
  have RW : Hid (Row W gr l ex) := by rw [← eW]; exact hrow.alloc _
  have zW : wz.heap.size < W.heap.size := by rw [← eW]; simp
  have hs1 := hb.size
  have cW : W.cell? ⟨wz.heap.size, 0, none⟩ = some (.slice (some ⟨gr, 0, none⟩) m cap) := by rw [← eW]; simp [go_sem]
  rw [hm]
  have HA0 := Lib.hid (a2At_any A' n' c' w.heap.size 0 m W (H1.out.below BW.out) hn' (by omega) (by omega) (by omega))
  clear hb hb0 hrow hok okl HL HC hm
  go_wp2_with fail
  refine HA0.out.mono ?_
  rintro e w2 ⟨k, rfl, hk, rfl⟩
  have hk' : k < m := by omega
  clear HA0 eW
  obtain ⟨V, eV⟩ : ∃ V, W.alloc (.cells #[.int .i64 12, .int .i64 11, .int .i64 0, .int .i64 1, .int .i64 2, .int .i64 3, .int .i64 4, .int .i64 5, .int .i64 6, .int .i64 7, .int .i64 8, .int .i64 9] 2) = V := ⟨_, rfl⟩
  have hbV : Below W.heap.size W V := by rw [← eV]; exact below_box W _
  have cR : ∀ j, j < 12 → V.cell? ⟨W.heap.size, j, none⟩ = some (.int .i64 (rowAt j)) := fun j hj => by rw [← eV]; exact rows_cell W j hj
  have HCR := Lib.hid cR
  have B_0 := Lib.hid (below_step BW.out hbV)
  have R_0 := Lib.hid (RW.out.later hbV)
  have cc_0 := cell_kept cW hbV
  have HA1 := Lib.hid (a2At_any A' n' c' w.heap.size 1 12 V (H1.out.below B_0.out) hn' (by omega) (by omega) (by omega))
  clear cR hbV cW RW BW
  go_wp2_with fail
  refine HA1.out.mono ?_
  rintro e w2 ⟨j, rfl, hj, rfl⟩
  have hj0 : (0 : Int) ≤ (j : Int) := Int.natCast_nonneg _
  have hj' : j < 12 := by omega
  have crow := HCR.out j hj'
  have hne := rowAt_ne j hj'
  have hat := at_zero OKL.out (by rw [HM.out]; exact hk') hne
  have hkl : k < l.length := by rw [HM.out]; exact hk'
  have HH := Lib.hid (fun W (h : Row W gr l ex) => implHasHole_any (some ⟨gr, 0, none⟩) cap l (gr + 1) k (rowAt j) W h.ints h.lt (by rw [HM.out]; omega))
  rw [if_pos hat, hat, HM.out] at HH
  have HN := Lib.hid (fun W (h : Row W gr l ex) => implCount_any (some ⟨gr, 0, none⟩) cap l (gr + 1) W h.ints h.lt (by rw [HM.out]; omega))
  rw [if_pos OKL.out, if_pos OKL.out, HM.out] at HN
  have HB := Lib.hid (fun W => implBitOf_yes (rowAt j) hne W)
  have HZ := Lib.hid (fun W => implBlank_yes m (by simp [inB]; omega) W)
  have HO1 := Lib.hid (fun W g' c' ex' (h : Row W gr l ex) (h' : Row W g' (List.replicate m 0) ex') => implOver_good (some ⟨gr, 0, none⟩) (some ⟨g', 0, none⟩) cap c' l (List.replicate m 0) (gr + 1) (g' + 1) W h.ints h'.ints h.lt h'.lt (by rw [HM.out]; omega) (by rw [HM.out]; omega) (by rw [HM.out]; simp) OKL.out (okB_zeros m hl1 hl6))
  have HO2 := Lib.hid (fun W (h : Row W gr l ex) => implOver_good (some ⟨gr, 0, none⟩) (some ⟨gr, 0, none⟩) cap cap l l (gr + 1) (gr + 1) W h.ints h.ints h.lt h.lt (by rw [HM.out]; omega) (by rw [HM.out]; omega) rfl OKL.out OKL.out)
  have e1 : orOf l (List.replicate m 0) = l := by rw [← HM.out]; exact orOf_blank l OK.out
  rw [e1] at HO1
  rw [orOf_self l OK.out] at HO2
  unfold GivesCard at HO1 HO2 HZ
  rw [HM.out] at HO1 HO2
  simp only [List.length_replicate] at HZ HO1
  have HP := Lib.hid (fun W (h : Row W gr l ex) => implPic_good (some ⟨gr, 0, none⟩) cap l (gr + 1) W h.ints h.lt (by rw [HM.out]; omega) OKL.out)
  unfold GivesSomeT at HP
  rw [HM.out] at HP
  simp only [picTo_length] at HP
  have HS1 := Lib.hid (fun W g' c' ex' (h : Row W g' l ex') (h' : Row W gr l ex) => implSameCard_any (some ⟨g', 0, none⟩) (some ⟨gr, 0, none⟩) c' cap l l (g' + 1) (gr + 1) W h.ints h'.ints h.lt h'.lt (by rw [HM.out]; omega) (by rw [HM.out]; omega))
  have HS2 := Lib.hid (fun W g' c' ex' (h : Row W g' l ex') (h' : Row W gr l ex) => specSameCard_any (some ⟨g', 0, none⟩) (some ⟨gr, 0, none⟩) c' cap l l (g' + 1) (gr + 1) W h.ints h'.ints h.lt h'.lt (by rw [HM.out]; omega) (by rw [HM.out]; omega))
  simp only [decide_true, HM.out] at HS1 HS2
  obtain ⟨x, hx⟩ : ∃ x, l[k]?.getD 0 = x := ⟨_, rfl⟩
  have hxc : ∀ W, Row W gr l ex → W.cell? ⟨gr, k, none⟩ = some (.int .i64 x) := fun W h => by rw [← hx]; exact h.cell hkl
  have HX := Lib.hid hxc
  have hholes : (bits .and .i64 x (rowBit (rowAt j)) != 0) = holeB l k (rowAt j) := by rw [holeB, Int.toNat_natCast, hx]
  have hk0 : (0 : Int) ≤ (k : Int) := Int.natCast_nonneg _
  have hkm : (k : Int) < (m : Int) := by omega
  have L_cc : Hid (wz.heap.size < V.heap.size) := by have := (below_box W (.cells #[.int .i64 12, .int .i64 11, .int .i64 0, .int .i64 1, .int .i64 2, .int .i64 3, .int .i64 4, .int .i64 5, .int .i64 6, .int .i64 7, .int .i64 8, .int .i64 9] 2)).size; rw [eV] at this; show _ < _; omega
  have hx0 := Lib.hid hx
  clear HA1 hxc hx e1
  cases hh : holeB l k (rowAt j)

  · have HPU := Lib.hid (fun W (h : Row W gr l ex) => implPunch_good (some ⟨gr, 0, none⟩) cap l (gr + 1) k (rowAt j) W h.ints h.lt (by rw [HM.out]; omega) hkl hat hh)
    obtain ⟨ys, hys⟩ : ∃ ys, l.set k (bits .or .i64 (l[k]?.getD 0) (rowBit (rowAt j))) = ys := ⟨_, rfl⟩
    obtain ⟨y1, y2, y3, y4, y5⟩ := punched_facts OK.out hkl hj' hh hys
    rw [HM.out] at y2
    unfold GivesCard at HPU
    rw [hys, y2, HM.out] at HPU
    have okY := okB_mask y1 (by rw [y2]; exact hl1) (by rw [y2]; exact hl6)
    have hatY := at_zero (l := ys) (k := k) okY (by rw [y2]; exact hk') hne
    have hkY : k < ys.length := by rw [y2]; exact hk'
    have HND := Lib.hid (fun W g c ex (h : Row W g ys ex) => implCount_any (some ⟨g, 0, none⟩) c ys (g + 1) W h.ints h.lt (by rw [y2]; omega))
    rw [if_pos okY, if_pos okY, y2, y3, Int.natCast_add, Int.natCast_one] at HND
    have HHD := Lib.hid (fun W g c ex (h : Row W g ys ex) => implHasHole_any (some ⟨g, 0, none⟩) c ys (g + 1) k (rowAt j) W h.ints h.lt (by rw [y2]; omega))
    rw [if_pos hatY, hatY, y2, y4] at HHD
    have HVD := Lib.hid (fun W g c ex (h : Row W g ys ex) => specValidCard_any (some ⟨g, 0, none⟩) c ys (g + 1) W h.ints h.lt (by rw [y2]; omega))
    rw [okY, y2] at HVD
    have hyc : ∀ W g ex, Row W g ys ex → W.cell? ⟨g, k, none⟩ = some (.int .i64 (bits .or .i64 x (rowBit (rowAt j)))) := fun W g ex h => by rw [← hx0.out, ← y5]; exact h.cell hkY
    have HYC := Lib.hid hyc
    rw [hh] at HH hholes
    obtain ⟨rv, hrv⟩ : ∃ rv, rowAt j = rv := ⟨_, rfl⟩
    rw [hrv] at HH HPU HB hholes crow HHD HYC
    obtain ⟨bt, hbt⟩ : ∃ bt, rowBit rv = bt := ⟨_, rfl⟩
    rw [hbt] at HB hholes HYC
    have hnb : countN l ≤ 72 := by have := countN_le l; rw [HM.out] at this; omega
    obtain ⟨nh, hnh⟩ : ∃ nh, countN l = nh := ⟨_, rfl⟩
    rw [hnh] at HN hnb HND
    clear hrv hbt hnh hh hat hne HCR hkl eV hx0 hys y1 y2 y3 y4 y5 okY hatY hkY hyc
    go_wp2_with fail
    refine (HH.out _ R_0.out).mono ?_
    rintro e w1 ⟨rfl, hb⟩
    have B_1 := Lib.hid (below_step B_0.out hb)
    have cc_1 := cell_kept cc_0 hb
    have R_1 := Lib.hid (R_0.out.later hb)
    clear hb cc_0 R_0 B_0
    go_wp2_with fail
    refine (HPU.out _ R_1.out).mono ?_
    rintro e w2 ⟨gd, cdd, xd, rfl, hg, hb, hrow⟩
    have B_2 := Lib.hid (below_step B_1.out hb)
    have cc_2 := cell_kept cc_1 hb
    have R_2 := Lib.hid (R_1.out.later hb)
    have D_2 := Lib.hid hrow
    clear hb hrow hg cc_1 R_1 B_1
    have hb := below_box w2 (.cells #[.slice (some ⟨gd, 0, none⟩) m cdd] 26)
    have B_3 := Lib.hid (below_step B_2.out hb)
    have cc_3 := cell_kept cc_2 hb
    have R_3 := Lib.hid (R_2.out.later hb)
    have D_3 := Lib.hid (D_2.out.later hb)
    have cd_3 : (w2.alloc (.cells #[.slice (some ⟨gd, 0, none⟩) m cdd] 26)).cell? ⟨w2.heap.size, 0, none⟩ = some (.slice (some ⟨gd, 0, none⟩) m cdd) := by simp
    clear hb cc_2 R_2 D_2 B_2
    go_wp2_with fail
    refine (HN.out _ R_3.out).mono ?_
    rintro e w4 ⟨rfl, hb⟩
    have B_4 := Lib.hid (below_step B_3.out hb)
    have cc_4 := cell_kept cc_3 hb
    have cd_4 := cell_kept cd_3 hb
    have R_4 := Lib.hid (R_3.out.later hb)
    have D_4 := Lib.hid (D_3.out.later hb)
    clear hb cc_3 cd_3 R_3 D_3 B_3
    go_wp2_with fail
    refine (HB.out _).mono ?_
    rintro e w' ⟨rfl, rfl⟩
    have cx := HX.out _ R_4.out
    have hx1 : (bits .and .i64 x bt == 0) = true := by simpa using hholes
    clear HB HN HH HPU
    go_wp2_with fail
    refine (HND.out _ gd cdd xd D_4.out).mono ?_
    rintro e w5 ⟨rfl, hb⟩
    have B_5 := Lib.hid (below_step B_4.out hb)
    have cc_5 := cell_kept cc_4 hb
    have cd_5 := cell_kept cd_4 hb
    have R_5 := Lib.hid (R_4.out.later hb)
    have D_5 := Lib.hid (D_4.out.later hb)
    clear hb cc_4 cd_4 R_4 D_4 B_4
    go_wp2_with fail
    refine (HHD.out _ gd cdd xd D_5.out).mono ?_
    rintro e w6 ⟨rfl, hb⟩
    have B_6 := Lib.hid (below_step B_5.out hb)
    have cc_6 := cell_kept cc_5 hb
    have cd_6 := cell_kept cd_5 hb
    have R_6 := Lib.hid (R_5.out.later hb)
    have D_6 := Lib.hid (D_5.out.later hb)
    clear hb cc_5 cd_5 R_5 D_5 B_5
    clear cx
    have cx := HX.out _ R_6.out
    have hw1 : IntKind.i64.wrap ((nh : Int) + 1) = (nh : Int) + 1 := IntWalk.i64_in _ (by omega)
    have cy := HYC.out _ gd xd D_6.out
    go_wp2_with fail
    go_region_held3 (fun W => W.cell? ⟨wz.heap.size, 0, none⟩ = some (.slice (some ⟨gr, 0, none⟩) m cap) ∧ W.cell? ⟨w2.heap.size, 0, none⟩ = some (.slice (some ⟨gd, 0, none⟩) m cdd) ∧ W.cell? ⟨gr, k, none⟩ = some (.int .i64 x) ∧ W.cell? ⟨gd, k, none⟩ = some (.int .i64 (bits .or .i64 x bt)))
      (first | exact ⟨cc_6, cd_6, cx, cy⟩ | exact ⟨cc_7, cd_7, cx2, cy2⟩)
      (first
        | (go_at_call 14
           refine (HVD.out _ gd cdd xd ?_).mono ?_
           · exact D_6.out.drew
           rintro e w7 ⟨rfl, hb⟩
           have cx2 := cell_kept (w := w6.drew) cx hb
           have cy2 := cell_kept (w := w6.drew) cy hb
           have B_7 := Lib.hid (below_step B_6.out.drew hb)
           have cc_7 := cell_kept (w := w6.drew) cc_6 hb
           have cd_7 := cell_kept (w := w6.drew) cd_6 hb
           have R_7 := Lib.hid (R_6.out.drew.later hb)
           have D_7 := Lib.hid (D_6.out.drew.later hb)
           clear hb))
    clear hw1 cx cy cx2 cy2 cc_6 cd_6 R_6 D_6 B_6
    go_wp2_with fail
    refine (HZ.out _).mono ?_
    rintro e w8 ⟨gz, cz, xz, rfl, hg, hb, hrow⟩
    have B_8 := Lib.hid (below_step B_7.out hb)
    have cc_8 := cell_kept cc_7 hb
    have cd_8 := cell_kept cd_7 hb
    have R_8 := Lib.hid (R_7.out.later hb)
    have D_8 := Lib.hid (D_7.out.later hb)
    have Z_8 := Lib.hid hrow
    clear hb hrow hg cc_7 cd_7 R_7 D_7 B_7
    have hb := below_box w8 (.cells #[.slice (some ⟨gz, 0, none⟩) m cz] 26)
    have B_9 := Lib.hid (below_step B_8.out hb)
    have cc_9 := cell_kept cc_8 hb
    have cd_9 := cell_kept cd_8 hb
    have R_9 := Lib.hid (R_8.out.later hb)
    have D_9 := Lib.hid (D_8.out.later hb)
    have Z_9 := Lib.hid (Z_8.out.later hb)
    have cz_9 : (w8.alloc (.cells #[.slice (some ⟨gz, 0, none⟩) m cz] 26)).cell? ⟨w8.heap.size, 0, none⟩ = some (.slice (some ⟨gz, 0, none⟩) m cz) := by simp
    clear hb cc_8 cd_8 R_8 D_8 Z_8 B_8
    go_wp2_with fail
    refine (HO1.out _ gz cz xz R_9.out Z_9.out).mono ?_
    rintro e w10 ⟨go, co, xo, rfl, hg, hb, hrow⟩
    have B_10 := Lib.hid (below_step B_9.out hb)
    have cc_10 := cell_kept cc_9 hb
    have cd_10 := cell_kept cd_9 hb
    have cz_10 := cell_kept cz_9 hb
    have R_10 := Lib.hid (R_9.out.later hb)
    have D_10 := Lib.hid (D_9.out.later hb)
    have Z_10 := Lib.hid (Z_9.out.later hb)
    have O_10 := Lib.hid hrow
    clear hb hrow hg cc_9 cd_9 cz_9 R_9 D_9 Z_9 B_9
    clear Z_10
    clear cz_10
    have hb := below_box w10 (.cells #[.slice (some ⟨go, 0, none⟩) m co] 26)
    have B_11 := Lib.hid (below_step B_10.out hb)
    have cc_11 := cell_kept cc_10 hb
    have cd_11 := cell_kept cd_10 hb
    have R_11 := Lib.hid (R_10.out.later hb)
    have D_11 := Lib.hid (D_10.out.later hb)
    have O_11 := Lib.hid (O_10.out.later hb)
    have co_11 : (w10.alloc (.cells #[.slice (some ⟨go, 0, none⟩) m co] 26)).cell? ⟨w10.heap.size, 0, none⟩ = some (.slice (some ⟨go, 0, none⟩) m co) := by simp
    clear hb cc_10 cd_10 R_10 D_10 O_10 B_10
    go_wp2_with fail
    refine (HO2.out _ R_11.out).mono ?_
    rintro e w12 ⟨gt, ct, xt, rfl, hg, hb, hrow⟩
    have B_12 := Lib.hid (below_step B_11.out hb)
    have cc_12 := cell_kept cc_11 hb
    have cd_12 := cell_kept cd_11 hb
    have co_12 := cell_kept co_11 hb
    have R_12 := Lib.hid (R_11.out.later hb)
    have D_12 := Lib.hid (D_11.out.later hb)
    have O_12 := Lib.hid (O_11.out.later hb)
    have T_12 := Lib.hid hrow
    clear hb hrow hg cc_11 cd_11 co_11 R_11 D_11 O_11 B_11
    have hb := below_box w12 (.cells #[.slice (some ⟨gt, 0, none⟩) m ct] 26)
    have B_13 := Lib.hid (below_step B_12.out hb)
    have cc_13 := cell_kept cc_12 hb
    have cd_13 := cell_kept cd_12 hb
    have co_13 := cell_kept co_12 hb
    have R_13 := Lib.hid (R_12.out.later hb)
    have D_13 := Lib.hid (D_12.out.later hb)
    have O_13 := Lib.hid (O_12.out.later hb)
    have T_13 := Lib.hid (T_12.out.later hb)
    have ct_13 : (w12.alloc (.cells #[.slice (some ⟨gt, 0, none⟩) m ct] 26)).cell? ⟨w12.heap.size, 0, none⟩ = some (.slice (some ⟨gt, 0, none⟩) m ct) := by simp
    clear hb cc_12 cd_12 co_12 R_12 D_12 O_12 T_12 B_12
    go_wp2_with fail
    refine (HP.out _ R_13.out).mono ?_
    rintro e w14 ⟨gp, cp, xp, rfl, hg, hb, hrow⟩
    have B_14 := Lib.hid (below_step B_13.out hb)
    have cc_14 := cell_kept cc_13 hb
    have cd_14 := cell_kept cd_13 hb
    have co_14 := cell_kept co_13 hb
    have ct_14 := cell_kept ct_13 hb
    have R_14 := Lib.hid (R_13.out.later hb)
    have D_14 := Lib.hid (D_13.out.later hb)
    have O_14 := Lib.hid (O_13.out.later hb)
    have T_14 := Lib.hid (T_13.out.later hb)
    clear hb cc_13 cd_13 co_13 ct_13 R_13 D_13 O_13 T_13 B_13
    clear hg hrow
    go_wp2_with fail
    refine (HS1.out _ go co xo O_14.out R_14.out).mono ?_
    rintro e w15 ⟨rfl, hb⟩
    have B_15 := Lib.hid (below_step B_14.out hb)
    have cc_15 := cell_kept cc_14 hb
    have cd_15 := cell_kept cd_14 hb
    have co_15 := cell_kept co_14 hb
    have ct_15 := cell_kept ct_14 hb
    have R_15 := Lib.hid (R_14.out.later hb)
    have D_15 := Lib.hid (D_14.out.later hb)
    have O_15 := Lib.hid (O_14.out.later hb)
    have T_15 := Lib.hid (T_14.out.later hb)
    clear hb cc_14 cd_14 co_14 ct_14 R_14 D_14 O_14 T_14 B_14
    go_wp2_with fail
    refine (HS2.out _ go co xo O_15.out R_15.out).mono ?_
    rintro e w16 ⟨rfl, hb⟩
    have B_16 := Lib.hid (below_step B_15.out hb)
    have cc_16 := cell_kept cc_15 hb
    have cd_16 := cell_kept cd_15 hb
    have co_16 := cell_kept co_15 hb
    have ct_16 := cell_kept ct_15 hb
    have R_16 := Lib.hid (R_15.out.later hb)
    have D_16 := Lib.hid (D_15.out.later hb)
    have O_16 := Lib.hid (O_15.out.later hb)
    have T_16 := Lib.hid (T_15.out.later hb)
    clear hb cc_15 cd_15 co_15 ct_15 R_15 D_15 O_15 T_15 B_15
    go_wp2_with fail
    refine (HS2.out _ gt ct xt T_16.out R_16.out).mono ?_
    rintro e w17 ⟨rfl, hb⟩
    have B_17 := Lib.hid (below_step B_16.out hb)
    have cc_17 := cell_kept cc_16 hb
    have cd_17 := cell_kept cd_16 hb
    have co_17 := cell_kept co_16 hb
    have ct_17 := cell_kept ct_16 hb
    have R_17 := Lib.hid (R_16.out.later hb)
    have D_17 := Lib.hid (D_16.out.later hb)
    have O_17 := Lib.hid (O_16.out.later hb)
    have T_17 := Lib.hid (T_16.out.later hb)
    clear hb cc_16 cd_16 co_16 ct_16 R_16 D_16 O_16 T_16 B_16
    go_wp2
    go_ret
    exact ⟨rfl, B_17.out⟩
  · have HPU := Lib.hid (fun W (h : Row W gr l ex) => implPunch_there (some ⟨gr, 0, none⟩) cap l (gr + 1) k (rowAt j) W h.ints h.lt (by rw [HM.out]; omega) hkl hat hh)
    unfold GivesCode at HPU
    rw [HM.out] at HPU
    rw [hh] at HH hholes
    obtain ⟨rv, hrv⟩ : ∃ rv, rowAt j = rv := ⟨_, rfl⟩
    rw [hrv] at HH HPU HB hholes crow
    obtain ⟨bt, hbt⟩ : ∃ bt, rowBit rv = bt := ⟨_, rfl⟩
    rw [hbt] at HB hholes
    have hnb : countN l ≤ 72 := by have := countN_le l; rw [HM.out] at this; omega
    obtain ⟨nh, hnh⟩ : ∃ nh, countN l = nh := ⟨_, rfl⟩
    rw [hnh] at HN hnb
    clear hrv hbt hnh hh hat hne HCR hkl eV hx0
    go_wp2_with fail
    refine (HH.out _ R_0.out).mono ?_
    rintro e w1 ⟨rfl, hb⟩
    have B_1 := Lib.hid (below_step B_0.out hb)
    have cc_1 := cell_kept cc_0 hb
    have R_1 := Lib.hid (R_0.out.later hb)
    clear hb cc_0 R_0 B_0
    go_wp2_with fail
    refine (HPU.out _ R_1.out).mono ?_
    rintro e w2 ⟨rfl, hb⟩
    have B_2 := Lib.hid (below_step B_1.out hb)
    have cc_2 := cell_kept cc_1 hb
    have R_2 := Lib.hid (R_1.out.later hb)
    clear hb cc_1 R_1 B_1
    have hb := below_box w2 (.cells #[.slice none 0 0] 26)
    have B_3 := Lib.hid (below_step B_2.out hb)
    have cc_3 := cell_kept cc_2 hb
    have R_3 := Lib.hid (R_2.out.later hb)
    have cd_3 : (w2.alloc (.cells #[.slice none 0 0] 26)).cell? ⟨w2.heap.size, 0, none⟩ = some (.slice none 0 0) := by simp
    clear hb cc_2 R_2 B_2
    go_wp2_with fail
    refine (HN.out _ R_3.out).mono ?_
    rintro e w4 ⟨rfl, hb⟩
    have B_4 := Lib.hid (below_step B_3.out hb)
    have cc_4 := cell_kept cc_3 hb
    have cd_4 := cell_kept cd_3 hb
    have R_4 := Lib.hid (R_3.out.later hb)
    clear hb cc_3 cd_3 R_3 B_3
    go_wp2_with fail
    refine (HB.out _).mono ?_
    rintro e w' ⟨rfl, rfl⟩
    have cx := HX.out _ R_4.out
    have hx1 : (bits .and .i64 x bt == 0) = false := by simpa using hholes
    clear HB HN HH HPU HX
    go_wp2_with fail
    refine (HZ.out _).mono ?_
    rintro e w5 ⟨gz, cz, xz, rfl, hg, hb, hrow⟩
    have B_5 := Lib.hid (below_step B_4.out hb)
    have cc_5 := cell_kept cc_4 hb
    have cd_5 := cell_kept cd_4 hb
    have R_5 := Lib.hid (R_4.out.later hb)
    have Z_5 := Lib.hid hrow
    clear hb hrow hg cc_4 cd_4 R_4 B_4
    have hb := below_box w5 (.cells #[.slice (some ⟨gz, 0, none⟩) m cz] 26)
    have B_6 := Lib.hid (below_step B_5.out hb)
    have cc_6 := cell_kept cc_5 hb
    have cd_6 := cell_kept cd_5 hb
    have R_6 := Lib.hid (R_5.out.later hb)
    have Z_6 := Lib.hid (Z_5.out.later hb)
    have cz_6 : (w5.alloc (.cells #[.slice (some ⟨gz, 0, none⟩) m cz] 26)).cell? ⟨w5.heap.size, 0, none⟩ = some (.slice (some ⟨gz, 0, none⟩) m cz) := by simp
    clear hb cc_5 cd_5 R_5 Z_5 B_5
    go_wp2_with fail
    refine (HO1.out _ gz cz xz R_6.out Z_6.out).mono ?_
    rintro e w7 ⟨go, co, xo, rfl, hg, hb, hrow⟩
    have B_7 := Lib.hid (below_step B_6.out hb)
    have cc_7 := cell_kept cc_6 hb
    have cd_7 := cell_kept cd_6 hb
    have cz_7 := cell_kept cz_6 hb
    have R_7 := Lib.hid (R_6.out.later hb)
    have Z_7 := Lib.hid (Z_6.out.later hb)
    have O_7 := Lib.hid hrow
    clear hb hrow hg cc_6 cd_6 cz_6 R_6 Z_6 B_6
    clear Z_7
    clear cz_7
    have hb := below_box w7 (.cells #[.slice (some ⟨go, 0, none⟩) m co] 26)
    have B_8 := Lib.hid (below_step B_7.out hb)
    have cc_8 := cell_kept cc_7 hb
    have cd_8 := cell_kept cd_7 hb
    have R_8 := Lib.hid (R_7.out.later hb)
    have O_8 := Lib.hid (O_7.out.later hb)
    have co_8 : (w7.alloc (.cells #[.slice (some ⟨go, 0, none⟩) m co] 26)).cell? ⟨w7.heap.size, 0, none⟩ = some (.slice (some ⟨go, 0, none⟩) m co) := by simp
    clear hb cc_7 cd_7 R_7 O_7 B_7
    go_wp2_with fail
    refine (HO2.out _ R_8.out).mono ?_
    rintro e w9 ⟨gt, ct, xt, rfl, hg, hb, hrow⟩
    have B_9 := Lib.hid (below_step B_8.out hb)
    have cc_9 := cell_kept cc_8 hb
    have cd_9 := cell_kept cd_8 hb
    have co_9 := cell_kept co_8 hb
    have R_9 := Lib.hid (R_8.out.later hb)
    have O_9 := Lib.hid (O_8.out.later hb)
    have T_9 := Lib.hid hrow
    clear hb hrow hg cc_8 cd_8 co_8 R_8 O_8 B_8
    have hb := below_box w9 (.cells #[.slice (some ⟨gt, 0, none⟩) m ct] 26)
    have B_10 := Lib.hid (below_step B_9.out hb)
    have cc_10 := cell_kept cc_9 hb
    have cd_10 := cell_kept cd_9 hb
    have co_10 := cell_kept co_9 hb
    have R_10 := Lib.hid (R_9.out.later hb)
    have O_10 := Lib.hid (O_9.out.later hb)
    have T_10 := Lib.hid (T_9.out.later hb)
    have ct_10 : (w9.alloc (.cells #[.slice (some ⟨gt, 0, none⟩) m ct] 26)).cell? ⟨w9.heap.size, 0, none⟩ = some (.slice (some ⟨gt, 0, none⟩) m ct) := by simp
    clear hb cc_9 cd_9 co_9 R_9 O_9 T_9 B_9
    go_wp2_with fail
    refine (HP.out _ R_10.out).mono ?_
    rintro e w11 ⟨gp, cp, xp, rfl, hg, hb, hrow⟩
    have B_11 := Lib.hid (below_step B_10.out hb)
    have cc_11 := cell_kept cc_10 hb
    have cd_11 := cell_kept cd_10 hb
    have co_11 := cell_kept co_10 hb
    have ct_11 := cell_kept ct_10 hb
    have R_11 := Lib.hid (R_10.out.later hb)
    have O_11 := Lib.hid (O_10.out.later hb)
    have T_11 := Lib.hid (T_10.out.later hb)
    clear hb cc_10 cd_10 co_10 ct_10 R_10 O_10 T_10 B_10
    clear hg hrow
    go_wp2_with fail
    refine (HS1.out _ go co xo O_11.out R_11.out).mono ?_
    rintro e w12 ⟨rfl, hb⟩
    have B_12 := Lib.hid (below_step B_11.out hb)
    have cc_12 := cell_kept cc_11 hb
    have cd_12 := cell_kept cd_11 hb
    have co_12 := cell_kept co_11 hb
    have ct_12 := cell_kept ct_11 hb
    have R_12 := Lib.hid (R_11.out.later hb)
    have O_12 := Lib.hid (O_11.out.later hb)
    have T_12 := Lib.hid (T_11.out.later hb)
    clear hb cc_11 cd_11 co_11 ct_11 R_11 O_11 T_11 B_11
    go_wp2_with fail
    refine (HS2.out _ go co xo O_12.out R_12.out).mono ?_
    rintro e w13 ⟨rfl, hb⟩
    have B_13 := Lib.hid (below_step B_12.out hb)
    have cc_13 := cell_kept cc_12 hb
    have cd_13 := cell_kept cd_12 hb
    have co_13 := cell_kept co_12 hb
    have ct_13 := cell_kept ct_12 hb
    have R_13 := Lib.hid (R_12.out.later hb)
    have O_13 := Lib.hid (O_12.out.later hb)
    have T_13 := Lib.hid (T_12.out.later hb)
    clear hb cc_12 cd_12 co_12 ct_12 R_12 O_12 T_12 B_12
    go_wp2_with fail
    refine (HS2.out _ gt ct xt T_13.out R_13.out).mono ?_
    rintro e w14 ⟨rfl, hb⟩
    have B_14 := Lib.hid (below_step B_13.out hb)
    have cc_14 := cell_kept cc_13 hb
    have cd_14 := cell_kept cd_13 hb
    have co_14 := cell_kept co_13 hb
    have ct_14 := cell_kept ct_13 hb
    have R_14 := Lib.hid (R_13.out.later hb)
    have O_14 := Lib.hid (O_13.out.later hb)
    have T_14 := Lib.hid (T_13.out.later hb)
    clear hb cc_13 cd_13 co_13 ct_13 R_13 O_13 T_13 B_13
    go_wp2
    go_ret
    exact ⟨rfl, B_14.out⟩

theorem walk_bytes (w : World) (A : Option Addr) (n c : Nat) (b0 : BytesAt w w.heap.size A n) (l0 : n ≤ 9223372036854775807) (A' : Option Addr) (n' c' : Nat) (b1 : BytesAt w w.heap.size A' n') (l1 : n' ≤ 9223372036854775807) :
    Calls Try.prog 3 #[.slice A n c, .slice A' n' c'] w fun e w' => e = .returned (.bool true) ∧ Below w.heap.size w w' := by
  by_cases h : 3000 < n ∨ 3000 < n'
  · exact walk_long A A' n n' c c' w l0 l1 h
  · exact walk_short A A' n n' c c' w b0 b1 (by omega) (by omega)

set_option maxRecDepth 100000 in
theorem lifted (os : Os) (started : os.Started) (H : Type) (enc : TypeId × Value → H) :
    ReturnsInHanded {} Try.checked os 3 .any (Rows.fnCardsSpec.pre6 enc Try.prog Try.f3 Rows.fnCardsRow.domain false) (Rows.fnCardsSpec.post enc Try.prog Try.f3 false true false false) := by
  refine returnsInHanded_of_change (C := Try.checked) own started (by kernel_rfl) Try.func3
    (ChangeSpec.witness6 (enc := enc) (C := Try.checked) false ⟨#[], #[.slice none 0 0, .slice none 0 0], []⟩ 8 (by kernel_rfl) (by kernel_rfl) (by kernel_rfl) (by kernel_rfl)) ?_
  intro W base args ds gs before hval0 hW _ _
  have hval : ∀ (j : Nat) t v, Try.f3.params[j]? = some t → args[j]? = some v → Value.okWide Try.prog W .any base t v := hval0
  have hW' := hW
  obtain ⟨p, q, hA0, hV, rfl, _, _⟩ := hW
  have hA : DataW.TrodAll enc Try.prog W 0 (fun _ => true) true Try.f3.params.toList args.toList ds p := hA0
  rw [Try.params3] at hA hval
  obtain ⟨v0, vs0, d0, ds0, p0, q0, hargs, rfl, rfl, h0, r0⟩ := trodAll_cons hA
  obtain ⟨v1, vs1, d1, ds1, p1, q1, rfl, rfl, rfl, h1, r1⟩ := trodAll_cons r0
  obtain ⟨rfl, rfl, rfl⟩ := trodAll_nil r1
  obtain rfl : args = #[v0, v1] := by cases args; simp_all
  obtain ⟨rfl, rfl⟩ := trodVars_none hV
  obtain ⟨A0, n0, c0, rfl, b0, l0⟩ := open_bytes (hval 0 22 v0 rfl rfl) h0
  obtain ⟨A1, n1, c1, rfl, b1, l1⟩ := open_bytes (hval 1 22 v1 rfl rfl) h1
  refine (walk_bytes W A0 n0 c0 b0 l0 A1 n1 c1 b1 l1).mono fun e W' ⟨he, hb⟩ => ?_
  subst he
  refine ⟨_, rfl, law_post hW' rfl rfl ?_ rfl rfl rfl hb⟩
  intro t ht
  rw [Try.params3] at ht
  obtain rfl : t = 22 := by simpa using ht
  exact ⟨by kernel_rfl, of_decide_eq_true (by kernel_rfl)⟩

theorem over : Rows.fnCardsRow.holds Try.pinned (OpenSpec.ofChange Rows.fnCardsSpec) :=
  OpenClaim.holds_of_wide 3 Try.f3 rfl rfl rfl rfl rfl rfl rfl ⟨rfl, rfl, rfl, rfl, rfl⟩ rfl rfl rfl rfl rfl (by kernel_rfl) Try.func3 (by kernel_rfl)
    (of_decide_eq_true (by kernel_rfl)) (by unfold Func.isWrapper; first | (rw [if_pos (by decide +kernel)]; kernel_rfl) | (rw [if_neg (by decide +kernel)]; exact ⟨rfl, rfl⟩))
    (fun os started H enc _ => lifted os started H enc)

theorem proved : Rows.FnCardsSaid :=
  over
end Go.Proofs.Ytjfogadcedgndaa.fnCards
