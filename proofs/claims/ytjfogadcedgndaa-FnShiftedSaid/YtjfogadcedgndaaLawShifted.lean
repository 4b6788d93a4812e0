/- For every list of bytes, the law FnShifted returns true: shifts, laced columns, nearest cards and torn columns of drawn cards are as spec says, and fit together. Conditions: none. -/
import Derived.Test.YtjfogadcedgndaaShiftAny
import Derived.Test.YtjfogadcedgndaaAtDraw
import Derived.Test.YtjfogadcedgndaaShiftOfDraw
import Derived.Test.YtjfogadcedgndaaLacedDraw
import Derived.Test.YtjfogadcedgndaaNearDraw
import Derived.Test.YtjfogadcedgndaaTornDraw
import Derived.Test.YtjfogadcedgndaaBytes
import Derived.Deep.RegionHeld3
namespace Go.Proofs.Ytjfogadcedgndaa.fnShifted
open Go.ChangeShapes Go.WideShapes Go.ChangeAt Go.RowKit

theorem deck_step {w w' : World} {A : Option Addr} {D : List CardV} (h : Deck w w.heap.size A D) (hb : Below w.heap.size w w') : Deck w' w'.heap.size A D := (h.below hb).more hb.size

set_option maxRecDepth 100000 in
theorem walk_long (A : Option Addr) (n c : Nat) (w : World) (hn : n ≤ 9223372036854775807) (h : 4096 < n) :
    Calls Try.prog 5 #[.slice A n c] w fun e w' => e = .returned (.bool true) ∧ Below w.heap.size w w' := by
  have hL := f6big_any A n c w hn
  rw [decide_eq_true h] at hL
  have HL := Lib.hid hL
  clear hL h
  go_enter Try.func5, Try.ntmps5
  go_wp2_with fail
  refine HL.out.mono ?_
  rintro e w1 ⟨rfl, rfl⟩
  go_wp2
  go_ret
  exact ⟨rfl, Below.refl _ _⟩

set_option maxRecDepth 100000 in
set_option maxHeartbeats 16000000 in
theorem walk_short (A : Option Addr) (n c : Nat) (w : World) (h0 : BytesAt w w.heap.size A n) (hn : n ≤ 4096) :
    Calls Try.prog 5 #[.slice A n c] w fun e w' => e = .returned (.bool true) ∧ Below w.heap.size w w' := by
  have hL := f6big_any A n c w (by omega)
  rw [decide_eq_false (by omega)] at hL
  have HL := Lib.hid hL
  have HD := Lib.hid (drawShiftOf_any A n c w.heap.size w h0 (Nat.le_refl _) hn)
  have H0 := Lib.hid h0
  have KI : Hid (∀ (M : List Int) (W : World) (P P' : Option Addr) (k k' : Nat), M.length ≤ 64 → Ints W W.heap.size P M → Ints W W.heap.size P' M → Calls Try.prog 46 #[.slice P M.length k, .slice P' M.length k'] W fun e w' => e = .returned (.bool true) ∧ Below W.heap.size W w') := fun M W P P' k k' hM h h' => by
    have := f6ints_any P P' k k' M M W.heap.size W.heap.size W h h' (by omega) (by omega)
    rw [decide_eq_true rfl] at this
    refine this.mono ?_
    rintro e w' ⟨he, q, rfl⟩
    exact ⟨he, below_drewN (Below.refl _ _) _⟩
  have KS : Hid (∀ (M : List Int) (W : World) (P P' : Option Addr) (k k' : Nat), M.length ≤ 64 → Ints W W.heap.size P M → Ints W W.heap.size P' M → Calls Try.prog 19 #[.agg #[.slice P M.length k], .agg #[.slice P' M.length k']] W fun e w' => e = .returned (.bool true) ∧ Below W.heap.size W w') := fun M W P P' k k' hM h h' => by
    have := specSameCard_any P P' k k' M M W.heap.size W.heap.size W h h' (Nat.le_refl _) (Nat.le_refl _) (by omega) (by omega)
    rwa [decide_eq_true rfl] at this
  clear hL h0
  go_enter Try.func5, Try.ntmps5
  go_wp2_with fail
  refine HL.out.mono ?_
  rintro e w' ⟨rfl, rfl⟩
  go_wp2_with fail
  refine HD.out.mono ?_
  rintro e w1 ⟨A1, cap1, xs, A2, cap2, ys, rfl, hx, hy, cf1, cf2, hb⟩
  have hx' : xs.length ≤ 1048576 := by omega
  have hy' : ys.length ≤ 1048576 := by omega
  have kd := fun W h h' => implShiftOfC_any A1 A2 cap1 cap2 xs ys W h h' hx' hy'
  have kds := fun W h h' => specShiftOfC_any A1 A2 cap1 cap2 xs ys W h h' hx' hy'
  have kz : ∀ W, shiftErr xs ys = 0 → Ints W W.heap.size A1 xs → Calls Try.prog 32 #[.agg #[.slice A1 xs.length cap1], .int .i64 (shiftVal xs ys)] W (GivesCC ys 0 W) := fun W e h => by
    obtain ⟨_, s2, s3⟩ := shiftErr_zero e
    have := implShiftC_any A1 cap1 xs (shiftVal xs ys) W h hx'
    rwa [shV, if_pos s2, s2, s3] at this
  obtain ⟨V, eV⟩ : ∃ V, shiftVal xs ys = V := ⟨_, rfl⟩
  obtain ⟨E, eE⟩ : ∃ E, shiftErr xs ys = E := ⟨_, rfl⟩
  simp only [eV, eE] at kd kds kz
  have KD := Lib.hid kd
  have KDS := Lib.hid kds
  have KZ := Lib.hid kz
  have HY := Lib.hid hy
  clear kd kds kz eV eE hx hy

  have b2 := (below_box w1 (.cells #[.slice A1 xs.length cap1] 26)).alloc (by simp) (.cells #[.slice A2 ys.length cap2] 26)
  have B_2 := Lib.hid (below_step hb b2)
  have IA_2 := Lib.hid (cf1.ints.step b2)
  have IB_2 := Lib.hid (cf2.ints.step b2)
  have ca_2 : ((w1.alloc (.cells #[.slice A1 xs.length cap1] 26)).alloc (.cells #[.slice A2 ys.length cap2] 26)).cell? ⟨w1.heap.size, 0, none⟩ = some (.slice A1 xs.length cap1) := by simp [go_sem]
  have cb_2 : ((w1.alloc (.cells #[.slice A1 xs.length cap1] 26)).alloc (.cells #[.slice A2 ys.length cap2] 26)).cell? ⟨w1.heap.size + 1, 0, none⟩ = some (.slice A2 ys.length cap2) := by simp [go_sem]
  clear hb b2 cf1 cf2 HD HL
  go_wp2_with fail
  refine (KD.out _ IA_2.out IB_2.out).mono ?_
  rintro e w3 ⟨rfl, hb⟩
  have B_3 := Lib.hid (below_step B_2.out hb)
  have ca_3 := cell_kept ca_2 hb
  have cb_3 := cell_kept cb_2 hb
  have IA_3 := Lib.hid (IA_2.out.step hb)
  have IB_3 := Lib.hid (IB_2.out.step hb)
  clear hb ca_2 cb_2 IA_2 IB_2 B_2 
  go_wp2_with fail
  refine (KDS.out _ IA_3.out IB_3.out).mono ?_
  rintro e w4 ⟨rfl, hb⟩
  have B_4 := Lib.hid (below_step B_3.out hb)
  have ca_4 := cell_kept ca_3 hb
  have cb_4 := cell_kept cb_3 hb
  have IA_4 := Lib.hid (IA_3.out.step hb)
  have IB_4 := Lib.hid (IB_3.out.step hb)
  clear hb ca_3 cb_3 IA_3 IB_3 B_3 
  clear KD KDS
  go_wp2_with fail
  refine (drawShiftCard_any A n c w.heap.size _ (H0.out.below B_4.out) B_4.out.size hn).mono ?_
  rintro e w5 ⟨A3, cap3, zs, m1, rfl, hz, cf, hb⟩
  have B_5 := Lib.hid (below_step B_4.out hb)
  have ca_5 := cell_kept ca_4 hb
  have cb_5 := cell_kept cb_4 hb
  have IA_5 := Lib.hid (IA_4.out.step hb)
  have IB_5 := Lib.hid (IB_4.out.step hb)
  have IC_5 := Lib.hid cf.ints
  clear hb ca_4 cb_4 IA_4 IB_4 B_4 cf
  have hb := below_box w5 (.cells #[.slice A3 zs.length cap3] 26)
  have B_6 := Lib.hid (below_step B_5.out hb)
  have ca_6 := cell_kept ca_5 hb
  have cb_6 := cell_kept cb_5 hb
  have IA_6 := Lib.hid (IA_5.out.step hb)
  have IB_6 := Lib.hid (IB_5.out.step hb)
  have IC_6 := Lib.hid (IC_5.out.step hb)
  have cd_6 : (w5.alloc (.cells #[.slice A3 zs.length cap3] 26)).cell? ⟨w5.heap.size, 0, none⟩ = some (.slice A3 zs.length cap3) := by simp [go_sem]
  clear hb ca_5 cb_5 IA_5 IB_5 IC_5 B_5
  have k1 := fun W h => implShiftC_any A3 cap3 zs m1 W h (by omega)
  have k2 := fun W h => specShiftC_any A3 cap3 zs m1 W h (by omega)
  have k3 : (shV zs m1).length ≤ 64 := by
    rw [shV]
    split
    · rw [shiftL_length]; exact hz
    · simp
  obtain ⟨X1, e_X1⟩ : ∃ u, shV zs m1 = u := ⟨_, rfl⟩
  obtain ⟨C1, e_C1⟩ : ∃ u, shiftCode zs m1 = u := ⟨_, rfl⟩
  simp only [e_X1, e_C1] at k1 k2 k3
  have K1 := Lib.hid k1
  have K2 := Lib.hid k2
  have L1 := Lib.hid k3
  clear k1 k2 k3
  clear e_X1 e_C1 hz
  go_wp2_with fail
  refine (K1.out _ IC_6.out).mono ?_
  rintro e w7 ⟨A8, cap8, rfl, hb, hi⟩
  have B_7 := Lib.hid (below_step B_6.out hb)
  have ca_7 := cell_kept ca_6 hb
  have cb_7 := cell_kept cb_6 hb
  have cd_7 := cell_kept cd_6 hb
  have IA_7 := Lib.hid (IA_6.out.step hb)
  have IB_7 := Lib.hid (IB_6.out.step hb)
  have IC_7 := Lib.hid (IC_6.out.step hb)
  have J1_7 := Lib.hid hi
  clear hb ca_6 cb_6 cd_6 IA_6 IB_6 IC_6 B_6 hi
  have hb := below_box w7 (.cells #[.slice A8 X1.length cap8] 26)
  have B_8 := Lib.hid (below_step B_7.out hb)
  have ca_8 := cell_kept ca_7 hb
  have cb_8 := cell_kept cb_7 hb
  have cd_8 := cell_kept cd_7 hb
  have IA_8 := Lib.hid (IA_7.out.step hb)
  have IB_8 := Lib.hid (IB_7.out.step hb)
  have IC_8 := Lib.hid (IC_7.out.step hb)
  have J1_8 := Lib.hid (J1_7.out.step hb)
  have cx_8 : (w7.alloc (.cells #[.slice A8 X1.length cap8] 26)).cell? ⟨w7.heap.size, 0, none⟩ = some (.slice A8 X1.length cap8) := by simp [go_sem]
  clear hb ca_7 cb_7 cd_7 IA_7 IB_7 IC_7 J1_7 B_7
  go_wp2_with fail
  refine (K2.out _ IC_8.out).mono ?_
  rintro e w9 ⟨A9, cap9, rfl, hb, hi⟩
  have B_9 := Lib.hid (below_step B_8.out hb)
  have ca_9 := cell_kept ca_8 hb
  have cb_9 := cell_kept cb_8 hb
  have cd_9 := cell_kept cd_8 hb
  have cx_9 := cell_kept cx_8 hb
  have IA_9 := Lib.hid (IA_8.out.step hb)
  have IB_9 := Lib.hid (IB_8.out.step hb)
  have IC_9 := Lib.hid (IC_8.out.step hb)
  have J1_9 := Lib.hid (J1_8.out.step hb)
  have J2_9 := Lib.hid hi
  clear hb ca_8 cb_8 cd_8 cx_8 IA_8 IB_8 IC_8 J1_8 B_8 hi
  have hb := below_box w9 (.cells #[.slice A9 X1.length cap9] 26)
  have B_10 := Lib.hid (below_step B_9.out hb)
  have ca_10 := cell_kept ca_9 hb
  have cb_10 := cell_kept cb_9 hb
  have cd_10 := cell_kept cd_9 hb
  have cx_10 := cell_kept cx_9 hb
  have IA_10 := Lib.hid (IA_9.out.step hb)
  have IB_10 := Lib.hid (IB_9.out.step hb)
  have IC_10 := Lib.hid (IC_9.out.step hb)
  have J1_10 := Lib.hid (J1_9.out.step hb)
  have J2_10 := Lib.hid (J2_9.out.step hb)
  have cy_10 : (w9.alloc (.cells #[.slice A9 X1.length cap9] 26)).cell? ⟨w9.heap.size, 0, none⟩ = some (.slice A9 X1.length cap9) := by simp [go_sem]
  clear hb ca_9 cb_9 cd_9 cx_9 IA_9 IB_9 IC_9 J1_9 J2_9 B_9
  clear K1 K2
  clear cd_10 IC_10
  go_wp2_with fail
  refine (drawLace_any A n c w.heap.size _ (H0.out.below B_10.out) B_10.out.size hn).mono ?_
  rintro e w11 ⟨A4, cap4, us, m2, rfl, hz, cf, hb⟩
  have B_11 := Lib.hid (below_step B_10.out hb)
  have ca_11 := cell_kept ca_10 hb
  have cb_11 := cell_kept cb_10 hb
  have cx_11 := cell_kept cx_10 hb
  have cy_11 := cell_kept cy_10 hb
  have IA_11 := Lib.hid (IA_10.out.step hb)
  have IB_11 := Lib.hid (IB_10.out.step hb)
  have J1_11 := Lib.hid (J1_10.out.step hb)
  have J2_11 := Lib.hid (J2_10.out.step hb)
  have IC_11 := Lib.hid cf.ints
  clear hb ca_10 cb_10 cx_10 cy_10 IA_10 IB_10 J1_10 J2_10 B_10 cf
  have hb := below_box w11 (.cells #[.slice A4 us.length cap4] 26)
  have B_12 := Lib.hid (below_step B_11.out hb)
  have ca_12 := cell_kept ca_11 hb
  have cb_12 := cell_kept cb_11 hb
  have cx_12 := cell_kept cx_11 hb
  have cy_12 := cell_kept cy_11 hb
  have IA_12 := Lib.hid (IA_11.out.step hb)
  have IB_12 := Lib.hid (IB_11.out.step hb)
  have J1_12 := Lib.hid (J1_11.out.step hb)
  have J2_12 := Lib.hid (J2_11.out.step hb)
  have IC_12 := Lib.hid (IC_11.out.step hb)
  have cd_12 : (w11.alloc (.cells #[.slice A4 us.length cap4] 26)).cell? ⟨w11.heap.size, 0, none⟩ = some (.slice A4 us.length cap4) := by simp [go_sem]
  clear hb ca_11 cb_11 cx_11 cy_11 IA_11 IB_11 J1_11 J2_11 IC_11 B_11
  have k1 := fun W h => implLaceC_any A4 cap4 us m2 W h (by omega)
  have k2 := fun W h => specLaceC_any A4 cap4 us m2 W h (by omega)
  have k3 : (laceV us m2).length ≤ 64 := by
    rw [laceV]
    split
    · rw [List.length_set]; exact hz
    · simp
  have k4 : colCode us m2 = 0 → lacedC (laceV us m2) = 0 ∧ m2 ∈ lacedV (laceV us m2) ∧ (lacedV (laceV us m2)).length ≤ 64 := fun e => by
    obtain ⟨g1, g2, g3⟩ := lace_has e
    exact ⟨g1, g2, by omega⟩
  obtain ⟨X2, e_X2⟩ : ∃ u, laceV us m2 = u := ⟨_, rfl⟩
  obtain ⟨C2, e_C2⟩ : ∃ u, colCode us m2 = u := ⟨_, rfl⟩
  simp only [e_X2, e_C2] at k1 k2 k3 k4
  have K1 := Lib.hid k1
  have K2 := Lib.hid k2
  have L2 := Lib.hid k3
  have F2 := Lib.hid k4
  clear k1 k2 k3 k4
  clear e_X2 e_C2 hz
  go_wp2_with fail
  refine (K1.out _ IC_12.out).mono ?_
  rintro e w13 ⟨A10, cap10, rfl, hb, hi⟩
  have B_13 := Lib.hid (below_step B_12.out hb)
  have ca_13 := cell_kept ca_12 hb
  have cb_13 := cell_kept cb_12 hb
  have cx_13 := cell_kept cx_12 hb
  have cy_13 := cell_kept cy_12 hb
  have cd_13 := cell_kept cd_12 hb
  have IA_13 := Lib.hid (IA_12.out.step hb)
  have IB_13 := Lib.hid (IB_12.out.step hb)
  have J1_13 := Lib.hid (J1_12.out.step hb)
  have J2_13 := Lib.hid (J2_12.out.step hb)
  have IC_13 := Lib.hid (IC_12.out.step hb)
  have J3_13 := Lib.hid hi
  clear hb ca_12 cb_12 cx_12 cy_12 cd_12 IA_12 IB_12 J1_12 J2_12 IC_12 B_12 hi
  have hb := below_box w13 (.cells #[.slice A10 X2.length cap10] 26)
  have B_14 := Lib.hid (below_step B_13.out hb)
  have ca_14 := cell_kept ca_13 hb
  have cb_14 := cell_kept cb_13 hb
  have cx_14 := cell_kept cx_13 hb
  have cy_14 := cell_kept cy_13 hb
  have cd_14 := cell_kept cd_13 hb
  have IA_14 := Lib.hid (IA_13.out.step hb)
  have IB_14 := Lib.hid (IB_13.out.step hb)
  have J1_14 := Lib.hid (J1_13.out.step hb)
  have J2_14 := Lib.hid (J2_13.out.step hb)
  have IC_14 := Lib.hid (IC_13.out.step hb)
  have J3_14 := Lib.hid (J3_13.out.step hb)
  have cu_14 : (w13.alloc (.cells #[.slice A10 X2.length cap10] 26)).cell? ⟨w13.heap.size, 0, none⟩ = some (.slice A10 X2.length cap10) := by simp [go_sem]
  clear hb ca_13 cb_13 cx_13 cy_13 cd_13 IA_13 IB_13 J1_13 J2_13 IC_13 J3_13 B_13
  go_wp2_with fail
  refine (K2.out _ IC_14.out).mono ?_
  rintro e w15 ⟨A11, cap11, rfl, hb, hi⟩
  have B_15 := Lib.hid (below_step B_14.out hb)
  have ca_15 := cell_kept ca_14 hb
  have cb_15 := cell_kept cb_14 hb
  have cx_15 := cell_kept cx_14 hb
  have cy_15 := cell_kept cy_14 hb
  have cd_15 := cell_kept cd_14 hb
  have cu_15 := cell_kept cu_14 hb
  have IA_15 := Lib.hid (IA_14.out.step hb)
  have IB_15 := Lib.hid (IB_14.out.step hb)
  have J1_15 := Lib.hid (J1_14.out.step hb)
  have J2_15 := Lib.hid (J2_14.out.step hb)
  have IC_15 := Lib.hid (IC_14.out.step hb)
  have J3_15 := Lib.hid (J3_14.out.step hb)
  have J4_15 := Lib.hid hi
  clear hb ca_14 cb_14 cx_14 cy_14 cd_14 cu_14 IA_14 IB_14 J1_14 J2_14 IC_14 J3_14 B_14 hi
  have hb := below_box w15 (.cells #[.slice A11 X2.length cap11] 26)
  have B_16 := Lib.hid (below_step B_15.out hb)
  have ca_16 := cell_kept ca_15 hb
  have cb_16 := cell_kept cb_15 hb
  have cx_16 := cell_kept cx_15 hb
  have cy_16 := cell_kept cy_15 hb
  have cd_16 := cell_kept cd_15 hb
  have cu_16 := cell_kept cu_15 hb
  have IA_16 := Lib.hid (IA_15.out.step hb)
  have IB_16 := Lib.hid (IB_15.out.step hb)
  have J1_16 := Lib.hid (J1_15.out.step hb)
  have J2_16 := Lib.hid (J2_15.out.step hb)
  have IC_16 := Lib.hid (IC_15.out.step hb)
  have J3_16 := Lib.hid (J3_15.out.step hb)
  have J4_16 := Lib.hid (J4_15.out.step hb)
  have cv_16 : (w15.alloc (.cells #[.slice A11 X2.length cap11] 26)).cell? ⟨w15.heap.size, 0, none⟩ = some (.slice A11 X2.length cap11) := by simp [go_sem]
  clear hb ca_15 cb_15 cx_15 cy_15 cd_15 cu_15 IA_15 IB_15 J1_15 J2_15 IC_15 J3_15 J4_15 B_15
  clear K1 K2
  clear cd_16 IC_16
  go_wp2_with fail
  refine (drawLaced_any A n c w.heap.size _ (H0.out.below B_16.out) B_16.out.size hn).mono ?_
  rintro e w17 ⟨A5, cap5, vs, rfl, hz, cf, hb⟩
  have B_17 := Lib.hid (below_step B_16.out hb)
  have ca_17 := cell_kept ca_16 hb
  have cb_17 := cell_kept cb_16 hb
  have cx_17 := cell_kept cx_16 hb
  have cy_17 := cell_kept cy_16 hb
  have cu_17 := cell_kept cu_16 hb
  have cv_17 := cell_kept cv_16 hb
  have IA_17 := Lib.hid (IA_16.out.step hb)
  have IB_17 := Lib.hid (IB_16.out.step hb)
  have J1_17 := Lib.hid (J1_16.out.step hb)
  have J2_17 := Lib.hid (J2_16.out.step hb)
  have J3_17 := Lib.hid (J3_16.out.step hb)
  have J4_17 := Lib.hid (J4_16.out.step hb)
  have IC_17 := Lib.hid cf.ints
  clear hb ca_16 cb_16 cx_16 cy_16 cu_16 cv_16 IA_16 IB_16 J1_16 J2_16 J3_16 J4_16 B_16 cf
  have hb := below_box w17 (.cells #[.slice A5 vs.length cap5] 26)
  have B_18 := Lib.hid (below_step B_17.out hb)
  have ca_18 := cell_kept ca_17 hb
  have cb_18 := cell_kept cb_17 hb
  have cx_18 := cell_kept cx_17 hb
  have cy_18 := cell_kept cy_17 hb
  have cu_18 := cell_kept cu_17 hb
  have cv_18 := cell_kept cv_17 hb
  have IA_18 := Lib.hid (IA_17.out.step hb)
  have IB_18 := Lib.hid (IB_17.out.step hb)
  have J1_18 := Lib.hid (J1_17.out.step hb)
  have J2_18 := Lib.hid (J2_17.out.step hb)
  have J3_18 := Lib.hid (J3_17.out.step hb)
  have J4_18 := Lib.hid (J4_17.out.step hb)
  have IC_18 := Lib.hid (IC_17.out.step hb)
  have cd_18 : (w17.alloc (.cells #[.slice A5 vs.length cap5] 26)).cell? ⟨w17.heap.size, 0, none⟩ = some (.slice A5 vs.length cap5) := by simp [go_sem]
  clear hb ca_17 cb_17 cx_17 cy_17 cu_17 cv_17 IA_17 IB_17 J1_17 J2_17 J3_17 J4_17 IC_17 B_17
  have k1 := fun W h => implLacedC_any A5 cap5 vs W h (by omega)
  have k2 := fun W h => specLacedC_any A5 cap5 vs W h (by omega)
  have k3 : (lacedV vs).length ≤ 64 := by
    rw [lacedV]
    split
    · have := selTo_length (laceQ vs) vs.length
      omega
    · simp
  obtain ⟨X3, e_X3⟩ : ∃ u, lacedV vs = u := ⟨_, rfl⟩
  obtain ⟨C3, e_C3⟩ : ∃ u, lacedC vs = u := ⟨_, rfl⟩
  simp only [e_X3, e_C3] at k1 k2 k3
  have K1 := Lib.hid k1
  have K2 := Lib.hid k2
  have L3 := Lib.hid k3
  clear k1 k2 k3
  clear e_X3 e_C3 hz
  go_wp2_with fail
  refine (K1.out _ IC_18.out).mono ?_
  rintro e w19 ⟨A12, cap12, rfl, hb, hi⟩
  have B_19 := Lib.hid (below_step B_18.out hb)
  have ca_19 := cell_kept ca_18 hb
  have cb_19 := cell_kept cb_18 hb
  have cx_19 := cell_kept cx_18 hb
  have cy_19 := cell_kept cy_18 hb
  have cu_19 := cell_kept cu_18 hb
  have cv_19 := cell_kept cv_18 hb
  have cd_19 := cell_kept cd_18 hb
  have IA_19 := Lib.hid (IA_18.out.step hb)
  have IB_19 := Lib.hid (IB_18.out.step hb)
  have J1_19 := Lib.hid (J1_18.out.step hb)
  have J2_19 := Lib.hid (J2_18.out.step hb)
  have J3_19 := Lib.hid (J3_18.out.step hb)
  have J4_19 := Lib.hid (J4_18.out.step hb)
  have IC_19 := Lib.hid (IC_18.out.step hb)
  have J5_19 := Lib.hid hi
  clear hb ca_18 cb_18 cx_18 cy_18 cu_18 cv_18 cd_18 IA_18 IB_18 J1_18 J2_18 J3_18 J4_18 IC_18 B_18 hi
  go_wp2_with fail
  refine (K2.out _ IC_19.out).mono ?_
  rintro e w20 ⟨A13, cap13, rfl, hb, hi⟩
  have B_20 := Lib.hid (below_step B_19.out hb)
  have ca_20 := cell_kept ca_19 hb
  have cb_20 := cell_kept cb_19 hb
  have cx_20 := cell_kept cx_19 hb
  have cy_20 := cell_kept cy_19 hb
  have cu_20 := cell_kept cu_19 hb
  have cv_20 := cell_kept cv_19 hb
  have cd_20 := cell_kept cd_19 hb
  have IA_20 := Lib.hid (IA_19.out.step hb)
  have IB_20 := Lib.hid (IB_19.out.step hb)
  have J1_20 := Lib.hid (J1_19.out.step hb)
  have J2_20 := Lib.hid (J2_19.out.step hb)
  have J3_20 := Lib.hid (J3_19.out.step hb)
  have J4_20 := Lib.hid (J4_19.out.step hb)
  have IC_20 := Lib.hid (IC_19.out.step hb)
  have J5_20 := Lib.hid (J5_19.out.step hb)
  have J6_20 := Lib.hid hi
  clear hb ca_19 cb_19 cx_19 cy_19 cu_19 cv_19 cd_19 IA_19 IB_19 J1_19 J2_19 J3_19 J4_19 IC_19 J5_19 B_19 hi
  clear K1 K2
  clear cd_20 IC_20
  go_wp2_with fail
  refine (drawNearest_any A n c w.heap.size _ (H0.out.below B_20.out) B_20.out.size hn).mono ?_
  rintro e w21 ⟨gq, cq, D, A6, cap6, ts, rfl, hD, hd, hz, df, cf, hb⟩
  have B_21 := Lib.hid (below_step B_20.out hb)
  have ca_21 := cell_kept ca_20 hb
  have cb_21 := cell_kept cb_20 hb
  have cx_21 := cell_kept cx_20 hb
  have cy_21 := cell_kept cy_20 hb
  have cu_21 := cell_kept cu_20 hb
  have cv_21 := cell_kept cv_20 hb
  have IA_21 := Lib.hid (IA_20.out.step hb)
  have IB_21 := Lib.hid (IB_20.out.step hb)
  have J1_21 := Lib.hid (J1_20.out.step hb)
  have J2_21 := Lib.hid (J2_20.out.step hb)
  have J3_21 := Lib.hid (J3_20.out.step hb)
  have J4_21 := Lib.hid (J4_20.out.step hb)
  have J5_21 := Lib.hid (J5_20.out.step hb)
  have J6_21 := Lib.hid (J6_20.out.step hb)
  have IT_21 := Lib.hid cf.ints
  have ID_21 := Lib.hid df.deck
  clear hb ca_20 cb_20 cx_20 cy_20 cu_20 cv_20 IA_20 IB_20 J1_20 J2_20 J3_20 J4_20 J5_20 J6_20 B_20 cf df
  have hb := below_box w21 (.cells #[.slice A6 ts.length cap6] 26)
  have B_22 := Lib.hid (below_step B_21.out hb)
  have ca_22 := cell_kept ca_21 hb
  have cb_22 := cell_kept cb_21 hb
  have cx_22 := cell_kept cx_21 hb
  have cy_22 := cell_kept cy_21 hb
  have cu_22 := cell_kept cu_21 hb
  have cv_22 := cell_kept cv_21 hb
  have IA_22 := Lib.hid (IA_21.out.step hb)
  have IB_22 := Lib.hid (IB_21.out.step hb)
  have J1_22 := Lib.hid (J1_21.out.step hb)
  have J2_22 := Lib.hid (J2_21.out.step hb)
  have J3_22 := Lib.hid (J3_21.out.step hb)
  have J4_22 := Lib.hid (J4_21.out.step hb)
  have J5_22 := Lib.hid (J5_21.out.step hb)
  have J6_22 := Lib.hid (J6_21.out.step hb)
  have IT_22 := Lib.hid (IT_21.out.step hb)
  have ID_22 := Lib.hid (deck_step ID_21.out hb)
  have ck_22 : (w21.alloc (.cells #[.slice A6 ts.length cap6] 26)).cell? ⟨w21.heap.size, 0, none⟩ = some (.slice A6 ts.length cap6) := by simp [go_sem]
  clear hb ca_21 cb_21 cx_21 cy_21 cu_21 cv_21 IA_21 IB_21 J1_21 J2_21 J3_21 J4_21 J5_21 J6_21 IT_21 ID_21 B_21
  have hd' : ∀ d ∈ D, d.xs.length ≤ 1048576 := fun d h => Nat.le_trans (hd d h) (by omega)
  have k1 := fun W h h' => implNear_any (some ⟨gq, 0, none⟩) A6 cq cap6 D ts W.heap.size W.heap.size W h h' (Nat.le_refl _) (Nat.le_refl _) (by omega) hd' (by omega)
  have k2 := fun W h h' => specNear_any (some ⟨gq, 0, none⟩) A6 cq cap6 D ts W.heap.size W.heap.size W h h' (Nat.le_refl _) (Nat.le_refl _) (by omega) hd' (by omega)
  unfold NearIs at k1 k2
  have k3 : nearCode D ts = 0 → ∀ (k : Nat) (d : CardV), D[k]? = some d → ∃ v, (if nearCode D ts = 0 then minTo (distL (holes D) ts) (D.length - 1) else 0) ≤ v ∧ ((k : Int) = (if nearCode D ts = 0 then (bestTo (distL (holes D) ts) (D.length - 1) : Int) else 0) → v = (if nearCode D ts = 0 then minTo (distL (holes D) ts) (D.length - 1) else 0)) ∧ ∀ W, Ints W W.heap.size d.at_ d.xs → Ints W W.heap.size A6 ts → Calls Try.prog 48 #[.agg #[.slice d.at_ d.xs.length d.cap], .agg #[.slice A6 ts.length cap6]] W fun e w' => e = .returned (.tuple #[.int .i64 v, .int .i64 0]) ∧ Below W.heap.size W w' := fun e k d hk => by
    rw [if_pos e, if_pos e]
    obtain ⟨g1, g2, g3⟩ := near_least e hk
    have := fun W h h' => implDist_any d.at_ A6 d.cap cap6 d.xs ts W.heap.size W.heap.size W h h' (Nat.le_refl _) (Nat.le_refl _) (hd' d (List.mem_of_getElem? hk)) (by omega)
    simp only [g1] at this
    exact ⟨_, g2, fun e2 => g3 (by omega), this⟩
  obtain ⟨nD, e_nD⟩ : ∃ u, D.length = u := ⟨_, rfl⟩
  obtain ⟨AT, e_AT⟩ : ∃ u, (if nearCode D ts = 0 then (bestTo (distL (holes D) ts) (D.length - 1) : Int) else 0) = u := ⟨_, rfl⟩
  obtain ⟨AW, e_AW⟩ : ∃ u, (if nearCode D ts = 0 then minTo (distL (holes D) ts) (D.length - 1) else 0) = u := ⟨_, rfl⟩
  obtain ⟨C4, e_C4⟩ : ∃ u, nearCode D ts = u := ⟨_, rfl⟩
  simp only [e_AT, e_AW] at k1 k2 k3
  simp only [e_C4, e_nD] at k1 k2 k3
  simp only [e_nD]
  have K1 := Lib.hid k1
  have K2 := Lib.hid k2
  have F4 := Lib.hid k3
  have HND := Lib.hid e_nD
  have HDN := Lib.hid hD
  clear k1 k2 k3 e_nD hD
  clear e_AT e_AW e_C4 hd hd' hz
  go_wp2_with fail
  refine (K1.out _ ID_22.out IT_22.out).mono ?_
  rintro e w23 ⟨rfl, hb⟩
  have B_23 := Lib.hid (below_step B_22.out hb)
  have ca_23 := cell_kept ca_22 hb
  have cb_23 := cell_kept cb_22 hb
  have cx_23 := cell_kept cx_22 hb
  have cy_23 := cell_kept cy_22 hb
  have cu_23 := cell_kept cu_22 hb
  have cv_23 := cell_kept cv_22 hb
  have ck_23 := cell_kept ck_22 hb
  have IA_23 := Lib.hid (IA_22.out.step hb)
  have IB_23 := Lib.hid (IB_22.out.step hb)
  have J1_23 := Lib.hid (J1_22.out.step hb)
  have J2_23 := Lib.hid (J2_22.out.step hb)
  have J3_23 := Lib.hid (J3_22.out.step hb)
  have J4_23 := Lib.hid (J4_22.out.step hb)
  have J5_23 := Lib.hid (J5_22.out.step hb)
  have J6_23 := Lib.hid (J6_22.out.step hb)
  have IT_23 := Lib.hid (IT_22.out.step hb)
  have ID_23 := Lib.hid (deck_step ID_22.out hb)
  clear hb ca_22 cb_22 cx_22 cy_22 cu_22 cv_22 ck_22 IA_22 IB_22 J1_22 J2_22 J3_22 J4_22 J5_22 J6_22 IT_22 ID_22 B_22 
  go_wp2_with fail
  refine (K2.out _ ID_23.out IT_23.out).mono ?_
  rintro e w24 ⟨rfl, hb⟩
  have B_24 := Lib.hid (below_step B_23.out hb)
  have ca_24 := cell_kept ca_23 hb
  have cb_24 := cell_kept cb_23 hb
  have cx_24 := cell_kept cx_23 hb
  have cy_24 := cell_kept cy_23 hb
  have cu_24 := cell_kept cu_23 hb
  have cv_24 := cell_kept cv_23 hb
  have ck_24 := cell_kept ck_23 hb
  have IA_24 := Lib.hid (IA_23.out.step hb)
  have IB_24 := Lib.hid (IB_23.out.step hb)
  have J1_24 := Lib.hid (J1_23.out.step hb)
  have J2_24 := Lib.hid (J2_23.out.step hb)
  have J3_24 := Lib.hid (J3_23.out.step hb)
  have J4_24 := Lib.hid (J4_23.out.step hb)
  have J5_24 := Lib.hid (J5_23.out.step hb)
  have J6_24 := Lib.hid (J6_23.out.step hb)
  have IT_24 := Lib.hid (IT_23.out.step hb)
  have ID_24 := Lib.hid (deck_step ID_23.out hb)
  clear hb ca_23 cb_23 cx_23 cy_23 cu_23 cv_23 ck_23 IA_23 IB_23 J1_23 J2_23 J3_23 J4_23 J5_23 J6_23 IT_23 ID_23 B_23 
  clear K1 K2
  go_wp2_with fail
  refine (drawTorn_any A n c w.heap.size _ (H0.out.below B_24.out) B_24.out.size hn).mono ?_
  rintro e w25 ⟨A7, cap7, ps, f0, f1, rfl, hz, hcap, cf, hb⟩
  have B_25 := Lib.hid (below_step B_24.out hb)
  have ca_25 := cell_kept ca_24 hb
  have cb_25 := cell_kept cb_24 hb
  have cx_25 := cell_kept cx_24 hb
  have cy_25 := cell_kept cy_24 hb
  have cu_25 := cell_kept cu_24 hb
  have cv_25 := cell_kept cv_24 hb
  have ck_25 := cell_kept ck_24 hb
  have IA_25 := Lib.hid (IA_24.out.step hb)
  have IB_25 := Lib.hid (IB_24.out.step hb)
  have J1_25 := Lib.hid (J1_24.out.step hb)
  have J2_25 := Lib.hid (J2_24.out.step hb)
  have J3_25 := Lib.hid (J3_24.out.step hb)
  have J4_25 := Lib.hid (J4_24.out.step hb)
  have J5_25 := Lib.hid (J5_24.out.step hb)
  have J6_25 := Lib.hid (J6_24.out.step hb)
  have IT_25 := Lib.hid (IT_24.out.step hb)
  have ID_25 := Lib.hid (deck_step ID_24.out hb)
  have IC_25 := Lib.hid cf.ints
  clear hb ca_24 cb_24 cx_24 cy_24 cu_24 cv_24 ck_24 IA_24 IB_24 J1_24 J2_24 J3_24 J4_24 J5_24 J6_24 IT_24 ID_24 B_24 cf
  have hb := below_box w25 (.cells #[.slice A7 ps.length cap7] 26)
  have B_26 := Lib.hid (below_step B_25.out hb)
  have ca_26 := cell_kept ca_25 hb
  have cb_26 := cell_kept cb_25 hb
  have cx_26 := cell_kept cx_25 hb
  have cy_26 := cell_kept cy_25 hb
  have cu_26 := cell_kept cu_25 hb
  have cv_26 := cell_kept cv_25 hb
  have ck_26 := cell_kept ck_25 hb
  have IA_26 := Lib.hid (IA_25.out.step hb)
  have IB_26 := Lib.hid (IB_25.out.step hb)
  have J1_26 := Lib.hid (J1_25.out.step hb)
  have J2_26 := Lib.hid (J2_25.out.step hb)
  have J3_26 := Lib.hid (J3_25.out.step hb)
  have J4_26 := Lib.hid (J4_25.out.step hb)
  have J5_26 := Lib.hid (J5_25.out.step hb)
  have J6_26 := Lib.hid (J6_25.out.step hb)
  have IT_26 := Lib.hid (IT_25.out.step hb)
  have IC_26 := Lib.hid (IC_25.out.step hb)
  have ID_26 := Lib.hid (deck_step ID_25.out hb)
  have cd_26 : (w25.alloc (.cells #[.slice A7 ps.length cap7] 26)).cell? ⟨w25.heap.size, 0, none⟩ = some (.slice A7 ps.length cap7) := by simp [go_sem]
  clear hb ca_25 cb_25 cx_25 cy_25 cu_25 cv_25 ck_25 IA_25 IB_25 J1_25 J2_25 J3_25 J4_25 J5_25 J6_25 IT_25 IC_25 ID_25 B_25
  have hb := below_box (w25.alloc (.cells #[.slice A7 ps.length cap7] 26)) (.cells #[.int .i64 f0, .int .i64 f1] 70)
  have B_27 := Lib.hid (below_step B_26.out hb)
  have ca_27 := cell_kept ca_26 hb
  have cb_27 := cell_kept cb_26 hb
  have cx_27 := cell_kept cx_26 hb
  have cy_27 := cell_kept cy_26 hb
  have cu_27 := cell_kept cu_26 hb
  have cv_27 := cell_kept cv_26 hb
  have ck_27 := cell_kept ck_26 hb
  have cd_27 := cell_kept cd_26 hb
  have IA_27 := Lib.hid (IA_26.out.step hb)
  have IB_27 := Lib.hid (IB_26.out.step hb)
  have J1_27 := Lib.hid (J1_26.out.step hb)
  have J2_27 := Lib.hid (J2_26.out.step hb)
  have J3_27 := Lib.hid (J3_26.out.step hb)
  have J4_27 := Lib.hid (J4_26.out.step hb)
  have J5_27 := Lib.hid (J5_26.out.step hb)
  have J6_27 := Lib.hid (J6_26.out.step hb)
  have IT_27 := Lib.hid (IT_26.out.step hb)
  have IC_27 := Lib.hid (IC_26.out.step hb)
  have ID_27 := Lib.hid (deck_step ID_26.out hb)
  have cf0_27 : ((w25.alloc (.cells #[.slice A7 ps.length cap7] 26)).alloc (.cells #[.int .i64 f0, .int .i64 f1] 70)).cell? ⟨w25.heap.size + 1, 0, none⟩ = some (.int .i64 f0) := by simp [go_sem]
  have cf1_27 : ((w25.alloc (.cells #[.slice A7 ps.length cap7] 26)).alloc (.cells #[.int .i64 f0, .int .i64 f1] 70)).cell? ⟨w25.heap.size + 1, 1, none⟩ = some (.int .i64 f1) := by simp [go_sem]
  clear hb ca_26 cb_26 cx_26 cy_26 cu_26 cv_26 ck_26 cd_26 IA_26 IB_26 J1_26 J2_26 J3_26 J4_26 J5_26 J6_26 IT_26 IC_26 ID_26 B_26
  have k1 := fun W h => implTornC_any A7 cap7 ps f0 f1 W h (by omega) hcap
  have k2 := fun W h => specTornC_any A7 cap7 ps f0 f1 W h (by omega)
  have k3 : (tornV ps f0 f1).length ≤ 64 := by
    rw [tornV]
    split
    · rw [zeroTo_length]; exact hz
    · simp
  have k4 : partCode ps f0 f1 = 0 → ∀ A c W, Ints W W.heap.size A (tornV ps f0 f1) → (tornV ps f0 f1).length ≤ c ∧ c ≤ 9223372036854775807 → Calls Try.prog 47 #[.agg #[.slice A (tornV ps f0 f1).length c], .agg #[.int .i64 f0, .int .i64 f1]] W fun e w' => e = .returned (.tuple #[.bool true, .int .i64 0]) ∧ Below W.heap.size W w' := fun e A c W h hc => implBlankTorn A c ps f0 f1 W e h (by omega) hc
  obtain ⟨X5, e_X5⟩ : ∃ u, tornV ps f0 f1 = u := ⟨_, rfl⟩
  obtain ⟨C5, e_C5⟩ : ∃ u, partCode ps f0 f1 = u := ⟨_, rfl⟩
  simp only [e_X5, e_C5] at k1 k2 k3 k4
  have K1 := Lib.hid k1
  have K2 := Lib.hid k2
  have L5 := Lib.hid k3
  have F5 := Lib.hid k4
  clear k1 k2 k3 k4
  clear e_X5 e_C5 hz hcap
  go_wp2_with fail
  refine (K1.out _ IC_27.out).mono ?_
  rintro e w28 ⟨A14, cap14, rfl, hb, hcap, hi⟩
  have B_28 := Lib.hid (below_step B_27.out hb)
  have ca_28 := cell_kept ca_27 hb
  have cb_28 := cell_kept cb_27 hb
  have cx_28 := cell_kept cx_27 hb
  have cy_28 := cell_kept cy_27 hb
  have cu_28 := cell_kept cu_27 hb
  have cv_28 := cell_kept cv_27 hb
  have ck_28 := cell_kept ck_27 hb
  have cd_28 := cell_kept cd_27 hb
  have cf0_28 := cell_kept cf0_27 hb
  have cf1_28 := cell_kept cf1_27 hb
  have IA_28 := Lib.hid (IA_27.out.step hb)
  have IB_28 := Lib.hid (IB_27.out.step hb)
  have J1_28 := Lib.hid (J1_27.out.step hb)
  have J2_28 := Lib.hid (J2_27.out.step hb)
  have J3_28 := Lib.hid (J3_27.out.step hb)
  have J4_28 := Lib.hid (J4_27.out.step hb)
  have J5_28 := Lib.hid (J5_27.out.step hb)
  have J6_28 := Lib.hid (J6_27.out.step hb)
  have IT_28 := Lib.hid (IT_27.out.step hb)
  have IC_28 := Lib.hid (IC_27.out.step hb)
  have ID_28 := Lib.hid (deck_step ID_27.out hb)
  have J7_28 := Lib.hid hi
  clear hb ca_27 cb_27 cx_27 cy_27 cu_27 cv_27 ck_27 cd_27 cf0_27 cf1_27 IA_27 IB_27 J1_27 J2_27 J3_27 J4_27 J5_27 J6_27 IT_27 IC_27 ID_27 B_27 hi
  have hb := below_box w28 (.cells #[.slice A14 X5.length cap14] 26)
  have B_29 := Lib.hid (below_step B_28.out hb)
  have ca_29 := cell_kept ca_28 hb
  have cb_29 := cell_kept cb_28 hb
  have cx_29 := cell_kept cx_28 hb
  have cy_29 := cell_kept cy_28 hb
  have cu_29 := cell_kept cu_28 hb
  have cv_29 := cell_kept cv_28 hb
  have ck_29 := cell_kept ck_28 hb
  have cd_29 := cell_kept cd_28 hb
  have cf0_29 := cell_kept cf0_28 hb
  have cf1_29 := cell_kept cf1_28 hb
  have IA_29 := Lib.hid (IA_28.out.step hb)
  have IB_29 := Lib.hid (IB_28.out.step hb)
  have J1_29 := Lib.hid (J1_28.out.step hb)
  have J2_29 := Lib.hid (J2_28.out.step hb)
  have J3_29 := Lib.hid (J3_28.out.step hb)
  have J4_29 := Lib.hid (J4_28.out.step hb)
  have J5_29 := Lib.hid (J5_28.out.step hb)
  have J6_29 := Lib.hid (J6_28.out.step hb)
  have IT_29 := Lib.hid (IT_28.out.step hb)
  have IC_29 := Lib.hid (IC_28.out.step hb)
  have J7_29 := Lib.hid (J7_28.out.step hb)
  have ID_29 := Lib.hid (deck_step ID_28.out hb)
  have cn_29 : (w28.alloc (.cells #[.slice A14 X5.length cap14] 26)).cell? ⟨w28.heap.size, 0, none⟩ = some (.slice A14 X5.length cap14) := by simp [go_sem]
  clear hb ca_28 cb_28 cx_28 cy_28 cu_28 cv_28 ck_28 cd_28 cf0_28 cf1_28 IA_28 IB_28 J1_28 J2_28 J3_28 J4_28 J5_28 J6_28 IT_28 IC_28 J7_28 ID_28 B_28
  have HC5 := Lib.hid hcap
  clear hcap
  go_wp2_with fail
  refine (K2.out _ IC_29.out).mono ?_
  rintro e w30 ⟨A15, cap15, rfl, hb, hi⟩
  have B_30 := Lib.hid (below_step B_29.out hb)
  have ca_30 := cell_kept ca_29 hb
  have cb_30 := cell_kept cb_29 hb
  have cx_30 := cell_kept cx_29 hb
  have cy_30 := cell_kept cy_29 hb
  have cu_30 := cell_kept cu_29 hb
  have cv_30 := cell_kept cv_29 hb
  have ck_30 := cell_kept ck_29 hb
  have cd_30 := cell_kept cd_29 hb
  have cf0_30 := cell_kept cf0_29 hb
  have cf1_30 := cell_kept cf1_29 hb
  have cn_30 := cell_kept cn_29 hb
  have IA_30 := Lib.hid (IA_29.out.step hb)
  have IB_30 := Lib.hid (IB_29.out.step hb)
  have J1_30 := Lib.hid (J1_29.out.step hb)
  have J2_30 := Lib.hid (J2_29.out.step hb)
  have J3_30 := Lib.hid (J3_29.out.step hb)
  have J4_30 := Lib.hid (J4_29.out.step hb)
  have J5_30 := Lib.hid (J5_29.out.step hb)
  have J6_30 := Lib.hid (J6_29.out.step hb)
  have IT_30 := Lib.hid (IT_29.out.step hb)
  have IC_30 := Lib.hid (IC_29.out.step hb)
  have J7_30 := Lib.hid (J7_29.out.step hb)
  have ID_30 := Lib.hid (deck_step ID_29.out hb)
  have J8_30 := Lib.hid hi
  clear hb ca_29 cb_29 cx_29 cy_29 cu_29 cv_29 ck_29 cd_29 cf0_29 cf1_29 cn_29 IA_29 IB_29 J1_29 J2_29 J3_29 J4_29 J5_29 J6_29 IT_29 IC_29 J7_29 ID_29 B_29 hi
  have hb := below_box w30 (.cells #[.slice A15 X5.length cap15] 26)
  have B_31 := Lib.hid (below_step B_30.out hb)
  have ca_31 := cell_kept ca_30 hb
  have cb_31 := cell_kept cb_30 hb
  have cx_31 := cell_kept cx_30 hb
  have cy_31 := cell_kept cy_30 hb
  have cu_31 := cell_kept cu_30 hb
  have cv_31 := cell_kept cv_30 hb
  have ck_31 := cell_kept ck_30 hb
  have cd_31 := cell_kept cd_30 hb
  have cf0_31 := cell_kept cf0_30 hb
  have cf1_31 := cell_kept cf1_30 hb
  have cn_31 := cell_kept cn_30 hb
  have IA_31 := Lib.hid (IA_30.out.step hb)
  have IB_31 := Lib.hid (IB_30.out.step hb)
  have J1_31 := Lib.hid (J1_30.out.step hb)
  have J2_31 := Lib.hid (J2_30.out.step hb)
  have J3_31 := Lib.hid (J3_30.out.step hb)
  have J4_31 := Lib.hid (J4_30.out.step hb)
  have J5_31 := Lib.hid (J5_30.out.step hb)
  have J6_31 := Lib.hid (J6_30.out.step hb)
  have IT_31 := Lib.hid (IT_30.out.step hb)
  have IC_31 := Lib.hid (IC_30.out.step hb)
  have J7_31 := Lib.hid (J7_30.out.step hb)
  have J8_31 := Lib.hid (J8_30.out.step hb)
  have ID_31 := Lib.hid (deck_step ID_30.out hb)
  have cm_31 : (w30.alloc (.cells #[.slice A15 X5.length cap15] 26)).cell? ⟨w30.heap.size, 0, none⟩ = some (.slice A15 X5.length cap15) := by simp [go_sem]
  clear hb ca_30 cb_30 cx_30 cy_30 cu_30 cv_30 ck_30 cd_30 cf0_30 cf1_30 cn_30 IA_30 IB_30 J1_30 J2_30 J3_30 J4_30 J5_30 J6_30 IT_30 IC_30 J7_30 J8_30 ID_30 B_30
  clear K1 K2
  clear cd_31 IC_31
  go_wp2_with fail
  refine (KS.out X1 _ _ _ _ _ L1.out J1_31.out J2_31.out).mono ?_
  rintro e w32 ⟨rfl, hb⟩
  have B_32 := Lib.hid (below_step B_31.out hb)
  have ca_32 := cell_kept ca_31 hb
  have cb_32 := cell_kept cb_31 hb
  have cx_32 := cell_kept cx_31 hb
  have cy_32 := cell_kept cy_31 hb
  have cu_32 := cell_kept cu_31 hb
  have cv_32 := cell_kept cv_31 hb
  have ck_32 := cell_kept ck_31 hb
  have cf0_32 := cell_kept cf0_31 hb
  have cf1_32 := cell_kept cf1_31 hb
  have cn_32 := cell_kept cn_31 hb
  have cm_32 := cell_kept cm_31 hb
  have IA_32 := Lib.hid (IA_31.out.step hb)
  have IB_32 := Lib.hid (IB_31.out.step hb)
  have J1_32 := Lib.hid (J1_31.out.step hb)
  have J2_32 := Lib.hid (J2_31.out.step hb)
  have J3_32 := Lib.hid (J3_31.out.step hb)
  have J4_32 := Lib.hid (J4_31.out.step hb)
  have J5_32 := Lib.hid (J5_31.out.step hb)
  have J6_32 := Lib.hid (J6_31.out.step hb)
  have IT_32 := Lib.hid (IT_31.out.step hb)
  have J7_32 := Lib.hid (J7_31.out.step hb)
  have J8_32 := Lib.hid (J8_31.out.step hb)
  have ID_32 := Lib.hid (deck_step ID_31.out hb)
  clear hb ca_31 cb_31 cx_31 cy_31 cu_31 cv_31 ck_31 cf0_31 cf1_31 cn_31 cm_31 IA_31 IB_31 J1_31 J2_31 J3_31 J4_31 J5_31 J6_31 IT_31 J7_31 J8_31 ID_31 B_31 
  clear cx_32 cy_32 J1_32 J2_32
  go_wp2_with fail
  refine (KS.out X2 _ _ _ _ _ L2.out J3_32.out J4_32.out).mono ?_
  rintro e w33 ⟨rfl, hb⟩
  have B_33 := Lib.hid (below_step B_32.out hb)
  have ca_33 := cell_kept ca_32 hb
  have cb_33 := cell_kept cb_32 hb
  have cu_33 := cell_kept cu_32 hb
  have cv_33 := cell_kept cv_32 hb
  have ck_33 := cell_kept ck_32 hb
  have cf0_33 := cell_kept cf0_32 hb
  have cf1_33 := cell_kept cf1_32 hb
  have cn_33 := cell_kept cn_32 hb
  have cm_33 := cell_kept cm_32 hb
  have IA_33 := Lib.hid (IA_32.out.step hb)
  have IB_33 := Lib.hid (IB_32.out.step hb)
  have J3_33 := Lib.hid (J3_32.out.step hb)
  have J4_33 := Lib.hid (J4_32.out.step hb)
  have J5_33 := Lib.hid (J5_32.out.step hb)
  have J6_33 := Lib.hid (J6_32.out.step hb)
  have IT_33 := Lib.hid (IT_32.out.step hb)
  have J7_33 := Lib.hid (J7_32.out.step hb)
  have J8_33 := Lib.hid (J8_32.out.step hb)
  have ID_33 := Lib.hid (deck_step ID_32.out hb)
  clear hb ca_32 cb_32 cu_32 cv_32 ck_32 cf0_32 cf1_32 cn_32 cm_32 IA_32 IB_32 J3_32 J4_32 J5_32 J6_32 IT_32 J7_32 J8_32 ID_32 B_32 
  clear cv_33 J4_33
  go_wp2_with fail
  refine (KI.out X3 _ _ _ _ _ L3.out J5_33.out J6_33.out).mono ?_
  rintro e w34 ⟨rfl, hb⟩
  have B_34 := Lib.hid (below_step B_33.out hb)
  have ca_34 := cell_kept ca_33 hb
  have cb_34 := cell_kept cb_33 hb
  have cu_34 := cell_kept cu_33 hb
  have ck_34 := cell_kept ck_33 hb
  have cf0_34 := cell_kept cf0_33 hb
  have cf1_34 := cell_kept cf1_33 hb
  have cn_34 := cell_kept cn_33 hb
  have cm_34 := cell_kept cm_33 hb
  have IA_34 := Lib.hid (IA_33.out.step hb)
  have IB_34 := Lib.hid (IB_33.out.step hb)
  have J3_34 := Lib.hid (J3_33.out.step hb)
  have J5_34 := Lib.hid (J5_33.out.step hb)
  have J6_34 := Lib.hid (J6_33.out.step hb)
  have IT_34 := Lib.hid (IT_33.out.step hb)
  have J7_34 := Lib.hid (J7_33.out.step hb)
  have J8_34 := Lib.hid (J8_33.out.step hb)
  have ID_34 := Lib.hid (deck_step ID_33.out hb)
  clear hb ca_33 cb_33 cu_33 ck_33 cf0_33 cf1_33 cn_33 cm_33 IA_33 IB_33 J3_33 J5_33 J6_33 IT_33 J7_33 J8_33 ID_33 B_33 
  clear J5_34 J6_34
  go_wp2_with fail
  refine (KS.out X5 _ _ _ _ _ L5.out J7_34.out J8_34.out).mono ?_
  rintro e w35 ⟨rfl, hb⟩
  have B_35 := Lib.hid (below_step B_34.out hb)
  have ca_35 := cell_kept ca_34 hb
  have cb_35 := cell_kept cb_34 hb
  have cu_35 := cell_kept cu_34 hb
  have ck_35 := cell_kept ck_34 hb
  have cf0_35 := cell_kept cf0_34 hb
  have cf1_35 := cell_kept cf1_34 hb
  have cn_35 := cell_kept cn_34 hb
  have cm_35 := cell_kept cm_34 hb
  have IA_35 := Lib.hid (IA_34.out.step hb)
  have IB_35 := Lib.hid (IB_34.out.step hb)
  have J3_35 := Lib.hid (J3_34.out.step hb)
  have IT_35 := Lib.hid (IT_34.out.step hb)
  have J7_35 := Lib.hid (J7_34.out.step hb)
  have J8_35 := Lib.hid (J8_34.out.step hb)
  have ID_35 := Lib.hid (deck_step ID_34.out hb)
  clear hb ca_34 cb_34 cu_34 ck_34 cf0_34 cf1_34 cn_34 cm_34 IA_34 IB_34 J3_34 IT_34 J7_34 J8_34 ID_34 B_34 
  clear cm_35 J8_35
  clear L1 L3 L5 KI
  by_cases h2 : C2 = 0
  · subst h2
    obtain ⟨g1, g2, g3⟩ := F2.out rfl
    have k1 := fun W h => implLacedC_any A10 cap10 X2 W h (by have := L2.out; omega)
    simp only [g1] at k1
    obtain ⟨LL, e_LL⟩ : ∃ u, lacedV X2 = u := ⟨_, rfl⟩
    simp only [e_LL] at k1
    rw [e_LL] at g2 g3
    have K1 := Lib.hid k1
    have G2 := Lib.hid g2
    have G3 := Lib.hid g3
    clear F2 k1 g1 g2 g3 e_LL L2
    go_wp2_with fail
    refine (K1.out _ J3_35.out).mono ?_
    rintro e w36 ⟨A16, cap16, rfl, hb, hi⟩
    have B_36 := Lib.hid (below_step B_35.out hb)
    have ca_36 := cell_kept ca_35 hb
    have cb_36 := cell_kept cb_35 hb
    have cu_36 := cell_kept cu_35 hb
    have ck_36 := cell_kept ck_35 hb
    have cf0_36 := cell_kept cf0_35 hb
    have cf1_36 := cell_kept cf1_35 hb
    have cn_36 := cell_kept cn_35 hb
    have IA_36 := Lib.hid (IA_35.out.step hb)
    have IB_36 := Lib.hid (IB_35.out.step hb)
    have J3_36 := Lib.hid (J3_35.out.step hb)
    have IT_36 := Lib.hid (IT_35.out.step hb)
    have J7_36 := Lib.hid (J7_35.out.step hb)
    have ID_36 := Lib.hid (deck_step ID_35.out hb)
    have J9_36 := Lib.hid hi
    clear hb ca_35 cb_35 cu_35 ck_35 cf0_35 cf1_35 cn_35 IA_35 IB_35 J3_35 IT_35 J7_35 ID_35 B_35 hi
    clear J3_36 cu_36
    clear K1
    have g3 := G3.out
    obtain ⟨nL, hNL⟩ : ∃ u, LL.length = u := ⟨_, rfl⟩
    rw [hNL] at g3 ⊢
    have HNL := Lib.hid hNL
    clear hNL G3
    go_wp2_with fail
    go_loopw [42, 43] (fun hs i wr => ∃ k : Nat, ∃ b : Bool, k ≤ nL ∧ i = .int .i64 k ∧ hs = .bool b ∧ Hid (b = decide (m2 ∈ LL.take k)) ∧ Hid (Below w36.heap.size w36 wr)) (fun _ i _ => nL - (intOf i).toNat)
    case atStart => exact ⟨0, false, Nat.zero_le _, rfl, rfl, by show _ = _; simp, Below.refl _ _⟩
    case round =>
      obtain ⟨k, b, hk, rfl, rfl, HM, HW⟩ := hrel
      rename World => wl
      have B_37 := Lib.hid (below_step B_36.out HW.out)
      by_cases hlt : k < nL
      · have hx : k < LL.length := by rw [HNL.out]; exact hlt
        obtain ⟨bl, ol, rfl, _, hcell⟩ := (J9_36.out.step HW.out) (by omega)
        have hc := hcell k hx
        have htk : m2 ∈ LL.take (k + 1) ↔ m2 ∈ LL.take k ∨ LL[k]?.getD 0 = m2 := by
          rw [List.take_succ_eq_append_getElem hx, List.mem_append, List.mem_singleton, List.getElem?_eq_getElem hx]
          exact or_congr Iff.rfl eq_comm
        obtain ⟨x, hxx⟩ : ∃ x, LL[k]?.getD 0 = x := ⟨_, rfl⟩
        rw [hxx] at hc htk
        have k0 : (0 : Int) ≤ (k : Int) := Int.natCast_nonneg _
        have k1 : (k : Int) < (nL : Int) := by omega
        have HM1 : Hid ((b || x == m2) = decide (m2 ∈ LL.take (k + 1))) := by
          show _ = _
          rw [HM.out]
          by_cases h : m2 ∈ LL.take k <;> by_cases h' : x = m2 <;> simp [htk, h, h']
        clear hcell htk hxx hx
        cases b
        · cases hq : (x == m2)
          all_goals
            rw [hq] at HM1
            go_wp2
            go_roundw
            case rel => exact ⟨k + 1, _, by omega, by go_num, rfl, HM1, HW⟩
            case measure => simp [intOf]; omega
        · go_wp2
          go_roundw
          case rel => exact ⟨k + 1, _, by omega, by go_num, rfl, HM1, HW⟩
          case measure => simp [intOf]; omega
      · have hkn : k = nL := by omega
        have k1 : ¬ (k : Int) < (nL : Int) := by omega
        obtain rfl : b = true := by
          have := HM.out
          rw [List.take_of_length_le (by rw [HNL.out]; omega)] at this
          rw [this]
          exact decide_eq_true G2.out
        clear hkn
        have ca_37 := cell_kept ca_36 HW.out
        have cb_37 := cell_kept cb_36 HW.out
        have ck_37 := cell_kept ck_36 HW.out
        have cf0_37 := cell_kept cf0_36 HW.out
        have cf1_37 := cell_kept cf1_36 HW.out
        have cn_37 := cell_kept cn_36 HW.out
        have IA_37 := Lib.hid (IA_36.out.step HW.out)
        have IB_37 := Lib.hid (IB_36.out.step HW.out)
        have IT_37 := Lib.hid (IT_36.out.step HW.out)
        have J7_37 := Lib.hid (J7_36.out.step HW.out)
        have J9_37 := Lib.hid (J9_36.out.step HW.out)
        have ID_37 := Lib.hid (deck_step ID_36.out HW.out)
        clear ca_36 cb_36 ck_36 cf0_36 cf1_36 cn_36 IA_36 IB_36 IT_36 J7_36 J9_36 ID_36 B_36
        clear J9_37
        by_cases h5 : C5 = 0
        · subst h5
          have F := Lib.hid (F5.out rfl)
          clear F5
          go_wp2_with fail
          refine (F.out A14 cap14 _ J7_37.out HC5.out).mono ?_
          rintro e w38 ⟨rfl, hb⟩
          have B_38 := Lib.hid (below_step B_37.out hb)
          have ca_38 := cell_kept ca_37 hb
          have cb_38 := cell_kept cb_37 hb
          have ck_38 := cell_kept ck_37 hb
          have cf0_38 := cell_kept cf0_37 hb
          have cf1_38 := cell_kept cf1_37 hb
          have cn_38 := cell_kept cn_37 hb
          have IA_38 := Lib.hid (IA_37.out.step hb)
          have IB_38 := Lib.hid (IB_37.out.step hb)
          have IT_38 := Lib.hid (IT_37.out.step hb)
          have J7_38 := Lib.hid (J7_37.out.step hb)
          have ID_38 := Lib.hid (deck_step ID_37.out hb)
          clear hb ca_37 cb_37 ck_37 cf0_37 cf1_37 cn_37 IA_37 IB_37 IT_37 J7_37 ID_37 B_37 
          clear J7_38 cn_38 cf0_38 cf1_38
          clear F HC5
          by_cases h4 : C4 = 0
          · subst h4
            have F := Lib.hid (F4.out rfl)
            have hnd : nD ≤ 41 := by
              have h1 := HDN.out
              have h2 := HND.out
              omega
            clear F4
            go_wp2_with fail
            go_loopw [46] (fun i wr => ∃ k : Nat, k ≤ nD ∧ i = .int .i64 k ∧ Hid (Below w38.heap.size w38 wr)) (fun i _ => nD - (intOf i).toNat)
            case atStart => exact ⟨0, Nat.zero_le _, rfl, Below.refl _ _⟩
            case round =>
              obtain ⟨k, hk, rfl, HW⟩ := hrel
              rename World => wn
              have B_39 := Lib.hid (below_step B_38.out HW.out)
              have ca_39 := cell_kept ca_38 HW.out
              have cb_39 := cell_kept cb_38 HW.out
              have ck_39 := cell_kept ck_38 HW.out
              have IA_39 := Lib.hid (IA_38.out.step HW.out)
              have IB_39 := Lib.hid (IB_38.out.step HW.out)
              have IT_39 := Lib.hid (IT_38.out.step HW.out)
              have ID_39 := Lib.hid (deck_step ID_38.out HW.out)
              clear ca_38 cb_38 ck_38 IA_38 IB_38 IT_38 ID_38 B_38
              by_cases hlt : k < nD
              · obtain ⟨d, hd⟩ : ∃ d, D[k]? = some d := ⟨D[k]'(by rw [HND.out]; exact hlt), List.getElem?_eq_getElem _⟩
                obtain ⟨v, v1, v2, hv⟩ := F.out k d hd
                obtain ⟨bq, oq, eq, _, hcell⟩ := ID_39.out (by rw [HND.out]; omega)
                injection eq with eq
                injection eq with eq1 eq2
                subst eq1 eq2
                obtain ⟨hc, hi⟩ := hcell k d hd
                rw [Nat.zero_add] at hc
                unfold CardV.value at hc
                obtain ⟨ad, cd, zd, hde⟩ : ∃ a z c, d = ⟨a, z, c⟩ := ⟨_, _, _, rfl⟩
                subst hde
                simp only at hc hi hv v1 v2
                have HV := Lib.hid hv
                have HI := Lib.hid hi
                have HC := Lib.hid hc
                have k0 : (0 : Int) ≤ (k : Int) := Int.natCast_nonneg _
                have k1 : (k : Int) < (nD : Int) := by omega
                have v3 : ¬ v < AW := by omega
                have he : ((k : Int) == AT) = false ∨ (((k : Int) == AT) = true ∧ (v != AW) = false) := by
                  by_cases h : (k : Int) = AT
                  · right
                    exact ⟨by simpa using h, by simp [v2 h]⟩
                  · left
                    simpa using h
                clear hcell hv hi hd v1 v2 F
                go_wp2_with fail
                go_region_held3 (fun W => W.cell? ⟨gq, k, none⟩ = some (.slice ad zd.length cd) ∧ W.cell? ⟨w21.heap.size, 0, none⟩ = some (.slice A6 ts.length cap6))
                  (first | exact ⟨HC.out, ck_39⟩ | exact ⟨hc2, ck2⟩)
                  (first
                    | (go_at_call 48
                       refine (HV.out _ ?_ ?_).mono ?_
                       · exact HI.out.drew
                       · exact IT_39.out.drew
                       rintro e w' ⟨rfl, hb⟩
                       have hc2 := cell_kept (w := wn.drew) HC.out hb
                       have ck2 := cell_kept (w := wn.drew) ck_39 hb
                       have HW2 := Lib.hid (below_step HW.out.drew hb)
                       clear hb))
                all_goals
                  rcases he with he | ⟨he, he2⟩
                  all_goals
                    go_wp2
                    go_roundw
                    case rel => exact ⟨k + 1, by omega, by go_num, HW2⟩
                    case measure => simp [intOf]; omega
              · have hkn : k = nD := by omega
                have k1 : ¬ (k : Int) < (nD : Int) := by omega
                clear F hkn
                by_cases hE : E = 0
                · subst hE
                  go_wp2_with fail
                  refine (KZ.out _ (by simp) IA_39.out).mono ?_
                  rintro e w40 ⟨A17, cap17, rfl, hb, hi⟩
                  have B_40 := Lib.hid (below_step B_39.out hb)
                  have ca_40 := cell_kept ca_39 hb
                  have cb_40 := cell_kept cb_39 hb
                  have ck_40 := cell_kept ck_39 hb
                  have IA_40 := Lib.hid (IA_39.out.step hb)
                  have IB_40 := Lib.hid (IB_39.out.step hb)
                  have IT_40 := Lib.hid (IT_39.out.step hb)
                  have ID_40 := Lib.hid (deck_step ID_39.out hb)
                  have JZ_40 := Lib.hid hi
                  clear hb ca_39 cb_39 ck_39 IA_39 IB_39 IT_39 ID_39 B_39 hi
                  have hb := below_box w40 (.cells #[.slice A17 ys.length cap17] 26)
                  have B_41 := Lib.hid (below_step B_40.out hb)
                  have ca_41 := cell_kept ca_40 hb
                  have cb_41 := cell_kept cb_40 hb
                  have ck_41 := cell_kept ck_40 hb
                  have IA_41 := Lib.hid (IA_40.out.step hb)
                  have IB_41 := Lib.hid (IB_40.out.step hb)
                  have IT_41 := Lib.hid (IT_40.out.step hb)
                  have JZ_41 := Lib.hid (JZ_40.out.step hb)
                  have ID_41 := Lib.hid (deck_step ID_40.out hb)
                  have cz_41 : (w40.alloc (.cells #[.slice A17 ys.length cap17] 26)).cell? ⟨w40.heap.size, 0, none⟩ = some (.slice A17 ys.length cap17) := by simp [go_sem]
                  clear hb ca_40 cb_40 ck_40 IA_40 IB_40 IT_40 JZ_40 ID_40 B_40
                  go_wp2_with fail
                  refine (KS.out ys _ _ _ _ _ HY.out JZ_41.out IB_41.out).mono ?_
                  rintro e w42 ⟨rfl, hb⟩
                  have B_42 := Lib.hid (below_step B_41.out hb)
                  have ca_42 := cell_kept ca_41 hb
                  have cb_42 := cell_kept cb_41 hb
                  have ck_42 := cell_kept ck_41 hb
                  have cz_42 := cell_kept cz_41 hb
                  have IA_42 := Lib.hid (IA_41.out.step hb)
                  have IB_42 := Lib.hid (IB_41.out.step hb)
                  have IT_42 := Lib.hid (IT_41.out.step hb)
                  have JZ_42 := Lib.hid (JZ_41.out.step hb)
                  have ID_42 := Lib.hid (deck_step ID_41.out hb)
                  clear hb ca_41 cb_41 ck_41 cz_41 IA_41 IB_41 IT_41 JZ_41 ID_41 B_41 
                  go_wp2_with fail
                  go_ret
                  exact ⟨rfl, B_42.out⟩
                · have e1 : (E != 0) = true := by simpa using hE
                  go_wp2_with fail
                  go_ret
                  exact ⟨rfl, B_39.out⟩
          · have e4 : (C4 == 0) = false := by simpa using h4
            clear F4
            by_cases hE : E = 0
            · subst hE
              go_wp2_with fail
              refine (KZ.out _ (by simp) IA_38.out).mono ?_
              rintro e w39 ⟨A17, cap17, rfl, hb, hi⟩
              have B_39 := Lib.hid (below_step B_38.out hb)
              have ca_39 := cell_kept ca_38 hb
              have cb_39 := cell_kept cb_38 hb
              have ck_39 := cell_kept ck_38 hb
              have IA_39 := Lib.hid (IA_38.out.step hb)
              have IB_39 := Lib.hid (IB_38.out.step hb)
              have IT_39 := Lib.hid (IT_38.out.step hb)
              have ID_39 := Lib.hid (deck_step ID_38.out hb)
              have JZ_39 := Lib.hid hi
              clear hb ca_38 cb_38 ck_38 IA_38 IB_38 IT_38 ID_38 B_38 hi
              have hb := below_box w39 (.cells #[.slice A17 ys.length cap17] 26)
              have B_40 := Lib.hid (below_step B_39.out hb)
              have ca_40 := cell_kept ca_39 hb
              have cb_40 := cell_kept cb_39 hb
              have ck_40 := cell_kept ck_39 hb
              have IA_40 := Lib.hid (IA_39.out.step hb)
              have IB_40 := Lib.hid (IB_39.out.step hb)
              have IT_40 := Lib.hid (IT_39.out.step hb)
              have JZ_40 := Lib.hid (JZ_39.out.step hb)
              have ID_40 := Lib.hid (deck_step ID_39.out hb)
              have cz_40 : (w39.alloc (.cells #[.slice A17 ys.length cap17] 26)).cell? ⟨w39.heap.size, 0, none⟩ = some (.slice A17 ys.length cap17) := by simp [go_sem]
              clear hb ca_39 cb_39 ck_39 IA_39 IB_39 IT_39 JZ_39 ID_39 B_39
              go_wp2_with fail
              refine (KS.out ys _ _ _ _ _ HY.out JZ_40.out IB_40.out).mono ?_
              rintro e w41 ⟨rfl, hb⟩
              have B_41 := Lib.hid (below_step B_40.out hb)
              have ca_41 := cell_kept ca_40 hb
              have cb_41 := cell_kept cb_40 hb
              have ck_41 := cell_kept ck_40 hb
              have cz_41 := cell_kept cz_40 hb
              have IA_41 := Lib.hid (IA_40.out.step hb)
              have IB_41 := Lib.hid (IB_40.out.step hb)
              have IT_41 := Lib.hid (IT_40.out.step hb)
              have JZ_41 := Lib.hid (JZ_40.out.step hb)
              have ID_41 := Lib.hid (deck_step ID_40.out hb)
              clear hb ca_40 cb_40 ck_40 cz_40 IA_40 IB_40 IT_40 JZ_40 ID_40 B_40 
              go_wp2_with fail
              go_ret
              exact ⟨rfl, B_41.out⟩
            · have e1 : (E != 0) = true := by simpa using hE
              go_wp2_with fail
              go_ret
              exact ⟨rfl, B_38.out⟩
        · have e5 : (C5 == 0) = false := by simpa using h5
          clear J7_37 cn_37 cf0_37 cf1_37
          clear F5 HC5
          by_cases h4 : C4 = 0
          · subst h4
            have F := Lib.hid (F4.out rfl)
            have hnd : nD ≤ 41 := by
              have h1 := HDN.out
              have h2 := HND.out
              omega
            clear F4
            go_wp2_with fail
            go_loopw [46] (fun i wr => ∃ k : Nat, k ≤ nD ∧ i = .int .i64 k ∧ Hid (Below wl.heap.size wl wr)) (fun i _ => nD - (intOf i).toNat)
            case atStart => exact ⟨0, Nat.zero_le _, rfl, Below.refl _ _⟩
            case round =>
              obtain ⟨k, hk, rfl, HW⟩ := hrel
              rename World => wn
              have B_38 := Lib.hid (below_step B_37.out HW.out)
              have ca_38 := cell_kept ca_37 HW.out
              have cb_38 := cell_kept cb_37 HW.out
              have ck_38 := cell_kept ck_37 HW.out
              have IA_38 := Lib.hid (IA_37.out.step HW.out)
              have IB_38 := Lib.hid (IB_37.out.step HW.out)
              have IT_38 := Lib.hid (IT_37.out.step HW.out)
              have ID_38 := Lib.hid (deck_step ID_37.out HW.out)
              clear ca_37 cb_37 ck_37 IA_37 IB_37 IT_37 ID_37 B_37
              by_cases hlt : k < nD
              · obtain ⟨d, hd⟩ : ∃ d, D[k]? = some d := ⟨D[k]'(by rw [HND.out]; exact hlt), List.getElem?_eq_getElem _⟩
                obtain ⟨v, v1, v2, hv⟩ := F.out k d hd
                obtain ⟨bq, oq, eq, _, hcell⟩ := ID_38.out (by rw [HND.out]; omega)
                injection eq with eq
                injection eq with eq1 eq2
                subst eq1 eq2
                obtain ⟨hc, hi⟩ := hcell k d hd
                rw [Nat.zero_add] at hc
                unfold CardV.value at hc
                obtain ⟨ad, cd, zd, hde⟩ : ∃ a z c, d = ⟨a, z, c⟩ := ⟨_, _, _, rfl⟩
                subst hde
                simp only at hc hi hv v1 v2
                have HV := Lib.hid hv
                have HI := Lib.hid hi
                have HC := Lib.hid hc
                have k0 : (0 : Int) ≤ (k : Int) := Int.natCast_nonneg _
                have k1 : (k : Int) < (nD : Int) := by omega
                have v3 : ¬ v < AW := by omega
                have he : ((k : Int) == AT) = false ∨ (((k : Int) == AT) = true ∧ (v != AW) = false) := by
                  by_cases h : (k : Int) = AT
                  · right
                    exact ⟨by simpa using h, by simp [v2 h]⟩
                  · left
                    simpa using h
                clear hcell hv hi hd v1 v2 F
                go_wp2_with fail
                go_region_held3 (fun W => W.cell? ⟨gq, k, none⟩ = some (.slice ad zd.length cd) ∧ W.cell? ⟨w21.heap.size, 0, none⟩ = some (.slice A6 ts.length cap6))
                  (first | exact ⟨HC.out, ck_38⟩ | exact ⟨hc2, ck2⟩)
                  (first
                    | (go_at_call 48
                       refine (HV.out _ ?_ ?_).mono ?_
                       · exact HI.out.drew
                       · exact IT_38.out.drew
                       rintro e w' ⟨rfl, hb⟩
                       have hc2 := cell_kept (w := wn.drew) HC.out hb
                       have ck2 := cell_kept (w := wn.drew) ck_38 hb
                       have HW2 := Lib.hid (below_step HW.out.drew hb)
                       clear hb))
                all_goals
                  rcases he with he | ⟨he, he2⟩
                  all_goals
                    go_wp2
                    go_roundw
                    case rel => exact ⟨k + 1, by omega, by go_num, HW2⟩
                    case measure => simp [intOf]; omega
              · have hkn : k = nD := by omega
                have k1 : ¬ (k : Int) < (nD : Int) := by omega
                clear F hkn
                by_cases hE : E = 0
                · subst hE
                  go_wp2_with fail
                  refine (KZ.out _ (by simp) IA_38.out).mono ?_
                  rintro e w39 ⟨A17, cap17, rfl, hb, hi⟩
                  have B_39 := Lib.hid (below_step B_38.out hb)
                  have ca_39 := cell_kept ca_38 hb
                  have cb_39 := cell_kept cb_38 hb
                  have ck_39 := cell_kept ck_38 hb
                  have IA_39 := Lib.hid (IA_38.out.step hb)
                  have IB_39 := Lib.hid (IB_38.out.step hb)
                  have IT_39 := Lib.hid (IT_38.out.step hb)
                  have ID_39 := Lib.hid (deck_step ID_38.out hb)
                  have JZ_39 := Lib.hid hi
                  clear hb ca_38 cb_38 ck_38 IA_38 IB_38 IT_38 ID_38 B_38 hi
                  have hb := below_box w39 (.cells #[.slice A17 ys.length cap17] 26)
                  have B_40 := Lib.hid (below_step B_39.out hb)
                  have ca_40 := cell_kept ca_39 hb
                  have cb_40 := cell_kept cb_39 hb
                  have ck_40 := cell_kept ck_39 hb
                  have IA_40 := Lib.hid (IA_39.out.step hb)
                  have IB_40 := Lib.hid (IB_39.out.step hb)
                  have IT_40 := Lib.hid (IT_39.out.step hb)
                  have JZ_40 := Lib.hid (JZ_39.out.step hb)
                  have ID_40 := Lib.hid (deck_step ID_39.out hb)
                  have cz_40 : (w39.alloc (.cells #[.slice A17 ys.length cap17] 26)).cell? ⟨w39.heap.size, 0, none⟩ = some (.slice A17 ys.length cap17) := by simp [go_sem]
                  clear hb ca_39 cb_39 ck_39 IA_39 IB_39 IT_39 JZ_39 ID_39 B_39
                  go_wp2_with fail
                  refine (KS.out ys _ _ _ _ _ HY.out JZ_40.out IB_40.out).mono ?_
                  rintro e w41 ⟨rfl, hb⟩
                  have B_41 := Lib.hid (below_step B_40.out hb)
                  have ca_41 := cell_kept ca_40 hb
                  have cb_41 := cell_kept cb_40 hb
                  have ck_41 := cell_kept ck_40 hb
                  have cz_41 := cell_kept cz_40 hb
                  have IA_41 := Lib.hid (IA_40.out.step hb)
                  have IB_41 := Lib.hid (IB_40.out.step hb)
                  have IT_41 := Lib.hid (IT_40.out.step hb)
                  have JZ_41 := Lib.hid (JZ_40.out.step hb)
                  have ID_41 := Lib.hid (deck_step ID_40.out hb)
                  clear hb ca_40 cb_40 ck_40 cz_40 IA_40 IB_40 IT_40 JZ_40 ID_40 B_40 
                  go_wp2_with fail
                  go_ret
                  exact ⟨rfl, B_41.out⟩
                · have e1 : (E != 0) = true := by simpa using hE
                  go_wp2_with fail
                  go_ret
                  exact ⟨rfl, B_38.out⟩
          · have e4 : (C4 == 0) = false := by simpa using h4
            clear F4
            by_cases hE : E = 0
            · subst hE
              go_wp2_with fail
              refine (KZ.out _ (by simp) IA_37.out).mono ?_
              rintro e w38 ⟨A17, cap17, rfl, hb, hi⟩
              have B_38 := Lib.hid (below_step B_37.out hb)
              have ca_38 := cell_kept ca_37 hb
              have cb_38 := cell_kept cb_37 hb
              have ck_38 := cell_kept ck_37 hb
              have IA_38 := Lib.hid (IA_37.out.step hb)
              have IB_38 := Lib.hid (IB_37.out.step hb)
              have IT_38 := Lib.hid (IT_37.out.step hb)
              have ID_38 := Lib.hid (deck_step ID_37.out hb)
              have JZ_38 := Lib.hid hi
              clear hb ca_37 cb_37 ck_37 IA_37 IB_37 IT_37 ID_37 B_37 hi
              have hb := below_box w38 (.cells #[.slice A17 ys.length cap17] 26)
              have B_39 := Lib.hid (below_step B_38.out hb)
              have ca_39 := cell_kept ca_38 hb
              have cb_39 := cell_kept cb_38 hb
              have ck_39 := cell_kept ck_38 hb
              have IA_39 := Lib.hid (IA_38.out.step hb)
              have IB_39 := Lib.hid (IB_38.out.step hb)
              have IT_39 := Lib.hid (IT_38.out.step hb)
              have JZ_39 := Lib.hid (JZ_38.out.step hb)
              have ID_39 := Lib.hid (deck_step ID_38.out hb)
              have cz_39 : (w38.alloc (.cells #[.slice A17 ys.length cap17] 26)).cell? ⟨w38.heap.size, 0, none⟩ = some (.slice A17 ys.length cap17) := by simp [go_sem]
              clear hb ca_38 cb_38 ck_38 IA_38 IB_38 IT_38 JZ_38 ID_38 B_38
              go_wp2_with fail
              refine (KS.out ys _ _ _ _ _ HY.out JZ_39.out IB_39.out).mono ?_
              rintro e w40 ⟨rfl, hb⟩
              have B_40 := Lib.hid (below_step B_39.out hb)
              have ca_40 := cell_kept ca_39 hb
              have cb_40 := cell_kept cb_39 hb
              have ck_40 := cell_kept ck_39 hb
              have cz_40 := cell_kept cz_39 hb
              have IA_40 := Lib.hid (IA_39.out.step hb)
              have IB_40 := Lib.hid (IB_39.out.step hb)
              have IT_40 := Lib.hid (IT_39.out.step hb)
              have JZ_40 := Lib.hid (JZ_39.out.step hb)
              have ID_40 := Lib.hid (deck_step ID_39.out hb)
              clear hb ca_39 cb_39 ck_39 cz_39 IA_39 IB_39 IT_39 JZ_39 ID_39 B_39 
              go_wp2_with fail
              go_ret
              exact ⟨rfl, B_40.out⟩
            · have e1 : (E != 0) = true := by simpa using hE
              go_wp2_with fail
              go_ret
              exact ⟨rfl, B_37.out⟩
  · have e2 : (C2 == 0) = false := by simpa using h2
    clear J3_35 cu_35
    clear F2 L2
    by_cases h5 : C5 = 0
    · subst h5
      have F := Lib.hid (F5.out rfl)
      clear F5
      go_wp2_with fail
      refine (F.out A14 cap14 _ J7_35.out HC5.out).mono ?_
      rintro e w36 ⟨rfl, hb⟩
      have B_36 := Lib.hid (below_step B_35.out hb)
      have ca_36 := cell_kept ca_35 hb
      have cb_36 := cell_kept cb_35 hb
      have ck_36 := cell_kept ck_35 hb
      have cf0_36 := cell_kept cf0_35 hb
      have cf1_36 := cell_kept cf1_35 hb
      have cn_36 := cell_kept cn_35 hb
      have IA_36 := Lib.hid (IA_35.out.step hb)
      have IB_36 := Lib.hid (IB_35.out.step hb)
      have IT_36 := Lib.hid (IT_35.out.step hb)
      have J7_36 := Lib.hid (J7_35.out.step hb)
      have ID_36 := Lib.hid (deck_step ID_35.out hb)
      clear hb ca_35 cb_35 ck_35 cf0_35 cf1_35 cn_35 IA_35 IB_35 IT_35 J7_35 ID_35 B_35 
      clear J7_36 cn_36 cf0_36 cf1_36
      clear F HC5
      by_cases h4 : C4 = 0
      · subst h4
        have F := Lib.hid (F4.out rfl)
        have hnd : nD ≤ 41 := by
          have h1 := HDN.out
          have h2 := HND.out
          omega
        clear F4
        go_wp2_with fail
        go_loopw [46] (fun i wr => ∃ k : Nat, k ≤ nD ∧ i = .int .i64 k ∧ Hid (Below w36.heap.size w36 wr)) (fun i _ => nD - (intOf i).toNat)
        case atStart => exact ⟨0, Nat.zero_le _, rfl, Below.refl _ _⟩
        case round =>
          obtain ⟨k, hk, rfl, HW⟩ := hrel
          rename World => wn
          have B_37 := Lib.hid (below_step B_36.out HW.out)
          have ca_37 := cell_kept ca_36 HW.out
          have cb_37 := cell_kept cb_36 HW.out
          have ck_37 := cell_kept ck_36 HW.out
          have IA_37 := Lib.hid (IA_36.out.step HW.out)
          have IB_37 := Lib.hid (IB_36.out.step HW.out)
          have IT_37 := Lib.hid (IT_36.out.step HW.out)
          have ID_37 := Lib.hid (deck_step ID_36.out HW.out)
          clear ca_36 cb_36 ck_36 IA_36 IB_36 IT_36 ID_36 B_36
          by_cases hlt : k < nD
          · obtain ⟨d, hd⟩ : ∃ d, D[k]? = some d := ⟨D[k]'(by rw [HND.out]; exact hlt), List.getElem?_eq_getElem _⟩
            obtain ⟨v, v1, v2, hv⟩ := F.out k d hd
            obtain ⟨bq, oq, eq, _, hcell⟩ := ID_37.out (by rw [HND.out]; omega)
            injection eq with eq
            injection eq with eq1 eq2
            subst eq1 eq2
            obtain ⟨hc, hi⟩ := hcell k d hd
            rw [Nat.zero_add] at hc
            unfold CardV.value at hc
            obtain ⟨ad, cd, zd, hde⟩ : ∃ a z c, d = ⟨a, z, c⟩ := ⟨_, _, _, rfl⟩
            subst hde
            simp only at hc hi hv v1 v2
            have HV := Lib.hid hv
            have HI := Lib.hid hi
            have HC := Lib.hid hc
            have k0 : (0 : Int) ≤ (k : Int) := Int.natCast_nonneg _
            have k1 : (k : Int) < (nD : Int) := by omega
            have v3 : ¬ v < AW := by omega
            have he : ((k : Int) == AT) = false ∨ (((k : Int) == AT) = true ∧ (v != AW) = false) := by
              by_cases h : (k : Int) = AT
              · right
                exact ⟨by simpa using h, by simp [v2 h]⟩
              · left
                simpa using h
            clear hcell hv hi hd v1 v2 F
            go_wp2_with fail
            go_region_held3 (fun W => W.cell? ⟨gq, k, none⟩ = some (.slice ad zd.length cd) ∧ W.cell? ⟨w21.heap.size, 0, none⟩ = some (.slice A6 ts.length cap6))
              (first | exact ⟨HC.out, ck_37⟩ | exact ⟨hc2, ck2⟩)
              (first
                | (go_at_call 48
                   refine (HV.out _ ?_ ?_).mono ?_
                   · exact HI.out.drew
                   · exact IT_37.out.drew
                   rintro e w' ⟨rfl, hb⟩
                   have hc2 := cell_kept (w := wn.drew) HC.out hb
                   have ck2 := cell_kept (w := wn.drew) ck_37 hb
                   have HW2 := Lib.hid (below_step HW.out.drew hb)
                   clear hb))
            all_goals
              rcases he with he | ⟨he, he2⟩
              all_goals
                go_wp2
                go_roundw
                case rel => exact ⟨k + 1, by omega, by go_num, HW2⟩
                case measure => simp [intOf]; omega
          · have hkn : k = nD := by omega
            have k1 : ¬ (k : Int) < (nD : Int) := by omega
            clear F hkn
            by_cases hE : E = 0
            · subst hE
              go_wp2_with fail
              refine (KZ.out _ (by simp) IA_37.out).mono ?_
              rintro e w38 ⟨A17, cap17, rfl, hb, hi⟩
              have B_38 := Lib.hid (below_step B_37.out hb)
              have ca_38 := cell_kept ca_37 hb
              have cb_38 := cell_kept cb_37 hb
              have ck_38 := cell_kept ck_37 hb
              have IA_38 := Lib.hid (IA_37.out.step hb)
              have IB_38 := Lib.hid (IB_37.out.step hb)
              have IT_38 := Lib.hid (IT_37.out.step hb)
              have ID_38 := Lib.hid (deck_step ID_37.out hb)
              have JZ_38 := Lib.hid hi
              clear hb ca_37 cb_37 ck_37 IA_37 IB_37 IT_37 ID_37 B_37 hi
              have hb := below_box w38 (.cells #[.slice A17 ys.length cap17] 26)
              have B_39 := Lib.hid (below_step B_38.out hb)
              have ca_39 := cell_kept ca_38 hb
              have cb_39 := cell_kept cb_38 hb
              have ck_39 := cell_kept ck_38 hb
              have IA_39 := Lib.hid (IA_38.out.step hb)
              have IB_39 := Lib.hid (IB_38.out.step hb)
              have IT_39 := Lib.hid (IT_38.out.step hb)
              have JZ_39 := Lib.hid (JZ_38.out.step hb)
              have ID_39 := Lib.hid (deck_step ID_38.out hb)
              have cz_39 : (w38.alloc (.cells #[.slice A17 ys.length cap17] 26)).cell? ⟨w38.heap.size, 0, none⟩ = some (.slice A17 ys.length cap17) := by simp [go_sem]
              clear hb ca_38 cb_38 ck_38 IA_38 IB_38 IT_38 JZ_38 ID_38 B_38
              go_wp2_with fail
              refine (KS.out ys _ _ _ _ _ HY.out JZ_39.out IB_39.out).mono ?_
              rintro e w40 ⟨rfl, hb⟩
              have B_40 := Lib.hid (below_step B_39.out hb)
              have ca_40 := cell_kept ca_39 hb
              have cb_40 := cell_kept cb_39 hb
              have ck_40 := cell_kept ck_39 hb
              have cz_40 := cell_kept cz_39 hb
              have IA_40 := Lib.hid (IA_39.out.step hb)
              have IB_40 := Lib.hid (IB_39.out.step hb)
              have IT_40 := Lib.hid (IT_39.out.step hb)
              have JZ_40 := Lib.hid (JZ_39.out.step hb)
              have ID_40 := Lib.hid (deck_step ID_39.out hb)
              clear hb ca_39 cb_39 ck_39 cz_39 IA_39 IB_39 IT_39 JZ_39 ID_39 B_39 
              go_wp2_with fail
              go_ret
              exact ⟨rfl, B_40.out⟩
            · have e1 : (E != 0) = true := by simpa using hE
              go_wp2_with fail
              go_ret
              exact ⟨rfl, B_37.out⟩
      · have e4 : (C4 == 0) = false := by simpa using h4
        clear F4
        by_cases hE : E = 0
        · subst hE
          go_wp2_with fail
          refine (KZ.out _ (by simp) IA_36.out).mono ?_
          rintro e w37 ⟨A17, cap17, rfl, hb, hi⟩
          have B_37 := Lib.hid (below_step B_36.out hb)
          have ca_37 := cell_kept ca_36 hb
          have cb_37 := cell_kept cb_36 hb
          have ck_37 := cell_kept ck_36 hb
          have IA_37 := Lib.hid (IA_36.out.step hb)
          have IB_37 := Lib.hid (IB_36.out.step hb)
          have IT_37 := Lib.hid (IT_36.out.step hb)
          have ID_37 := Lib.hid (deck_step ID_36.out hb)
          have JZ_37 := Lib.hid hi
          clear hb ca_36 cb_36 ck_36 IA_36 IB_36 IT_36 ID_36 B_36 hi
          have hb := below_box w37 (.cells #[.slice A17 ys.length cap17] 26)
          have B_38 := Lib.hid (below_step B_37.out hb)
          have ca_38 := cell_kept ca_37 hb
          have cb_38 := cell_kept cb_37 hb
          have ck_38 := cell_kept ck_37 hb
          have IA_38 := Lib.hid (IA_37.out.step hb)
          have IB_38 := Lib.hid (IB_37.out.step hb)
          have IT_38 := Lib.hid (IT_37.out.step hb)
          have JZ_38 := Lib.hid (JZ_37.out.step hb)
          have ID_38 := Lib.hid (deck_step ID_37.out hb)
          have cz_38 : (w37.alloc (.cells #[.slice A17 ys.length cap17] 26)).cell? ⟨w37.heap.size, 0, none⟩ = some (.slice A17 ys.length cap17) := by simp [go_sem]
          clear hb ca_37 cb_37 ck_37 IA_37 IB_37 IT_37 JZ_37 ID_37 B_37
          go_wp2_with fail
          refine (KS.out ys _ _ _ _ _ HY.out JZ_38.out IB_38.out).mono ?_
          rintro e w39 ⟨rfl, hb⟩
          have B_39 := Lib.hid (below_step B_38.out hb)
          have ca_39 := cell_kept ca_38 hb
          have cb_39 := cell_kept cb_38 hb
          have ck_39 := cell_kept ck_38 hb
          have cz_39 := cell_kept cz_38 hb
          have IA_39 := Lib.hid (IA_38.out.step hb)
          have IB_39 := Lib.hid (IB_38.out.step hb)
          have IT_39 := Lib.hid (IT_38.out.step hb)
          have JZ_39 := Lib.hid (JZ_38.out.step hb)
          have ID_39 := Lib.hid (deck_step ID_38.out hb)
          clear hb ca_38 cb_38 ck_38 cz_38 IA_38 IB_38 IT_38 JZ_38 ID_38 B_38 
          go_wp2_with fail
          go_ret
          exact ⟨rfl, B_39.out⟩
        · have e1 : (E != 0) = true := by simpa using hE
          go_wp2_with fail
          go_ret
          exact ⟨rfl, B_36.out⟩
    · have e5 : (C5 == 0) = false := by simpa using h5
      clear J7_35 cn_35 cf0_35 cf1_35
      clear F5 HC5
      by_cases h4 : C4 = 0
      · subst h4
        have F := Lib.hid (F4.out rfl)
        have hnd : nD ≤ 41 := by
          have h1 := HDN.out
          have h2 := HND.out
          omega
        clear F4
        go_wp2_with fail
        go_loopw [46] (fun i wr => ∃ k : Nat, k ≤ nD ∧ i = .int .i64 k ∧ Hid (Below w35.heap.size w35 wr)) (fun i _ => nD - (intOf i).toNat)
        case atStart => exact ⟨0, Nat.zero_le _, rfl, Below.refl _ _⟩
        case round =>
          obtain ⟨k, hk, rfl, HW⟩ := hrel
          rename World => wn
          have B_36 := Lib.hid (below_step B_35.out HW.out)
          have ca_36 := cell_kept ca_35 HW.out
          have cb_36 := cell_kept cb_35 HW.out
          have ck_36 := cell_kept ck_35 HW.out
          have IA_36 := Lib.hid (IA_35.out.step HW.out)
          have IB_36 := Lib.hid (IB_35.out.step HW.out)
          have IT_36 := Lib.hid (IT_35.out.step HW.out)
          have ID_36 := Lib.hid (deck_step ID_35.out HW.out)
          clear ca_35 cb_35 ck_35 IA_35 IB_35 IT_35 ID_35 B_35
          by_cases hlt : k < nD
          · obtain ⟨d, hd⟩ : ∃ d, D[k]? = some d := ⟨D[k]'(by rw [HND.out]; exact hlt), List.getElem?_eq_getElem _⟩
            obtain ⟨v, v1, v2, hv⟩ := F.out k d hd
            obtain ⟨bq, oq, eq, _, hcell⟩ := ID_36.out (by rw [HND.out]; omega)
            injection eq with eq
            injection eq with eq1 eq2
            subst eq1 eq2
            obtain ⟨hc, hi⟩ := hcell k d hd
            rw [Nat.zero_add] at hc
            unfold CardV.value at hc
            obtain ⟨ad, cd, zd, hde⟩ : ∃ a z c, d = ⟨a, z, c⟩ := ⟨_, _, _, rfl⟩
            subst hde
            simp only at hc hi hv v1 v2
            have HV := Lib.hid hv
            have HI := Lib.hid hi
            have HC := Lib.hid hc
            have k0 : (0 : Int) ≤ (k : Int) := Int.natCast_nonneg _
            have k1 : (k : Int) < (nD : Int) := by omega
            have v3 : ¬ v < AW := by omega
            have he : ((k : Int) == AT) = false ∨ (((k : Int) == AT) = true ∧ (v != AW) = false) := by
              by_cases h : (k : Int) = AT
              · right
                exact ⟨by simpa using h, by simp [v2 h]⟩
              · left
                simpa using h
            clear hcell hv hi hd v1 v2 F
            go_wp2_with fail
            go_region_held3 (fun W => W.cell? ⟨gq, k, none⟩ = some (.slice ad zd.length cd) ∧ W.cell? ⟨w21.heap.size, 0, none⟩ = some (.slice A6 ts.length cap6))
              (first | exact ⟨HC.out, ck_36⟩ | exact ⟨hc2, ck2⟩)
              (first
                | (go_at_call 48
                   refine (HV.out _ ?_ ?_).mono ?_
                   · exact HI.out.drew
                   · exact IT_36.out.drew
                   rintro e w' ⟨rfl, hb⟩
                   have hc2 := cell_kept (w := wn.drew) HC.out hb
                   have ck2 := cell_kept (w := wn.drew) ck_36 hb
                   have HW2 := Lib.hid (below_step HW.out.drew hb)
                   clear hb))
            all_goals
              rcases he with he | ⟨he, he2⟩
              all_goals
                go_wp2
                go_roundw
                case rel => exact ⟨k + 1, by omega, by go_num, HW2⟩
                case measure => simp [intOf]; omega
          · have hkn : k = nD := by omega
            have k1 : ¬ (k : Int) < (nD : Int) := by omega
            clear F hkn
            by_cases hE : E = 0
            · subst hE
              go_wp2_with fail
              refine (KZ.out _ (by simp) IA_36.out).mono ?_
              rintro e w37 ⟨A17, cap17, rfl, hb, hi⟩
              have B_37 := Lib.hid (below_step B_36.out hb)
              have ca_37 := cell_kept ca_36 hb
              have cb_37 := cell_kept cb_36 hb
              have ck_37 := cell_kept ck_36 hb
              have IA_37 := Lib.hid (IA_36.out.step hb)
              have IB_37 := Lib.hid (IB_36.out.step hb)
              have IT_37 := Lib.hid (IT_36.out.step hb)
              have ID_37 := Lib.hid (deck_step ID_36.out hb)
              have JZ_37 := Lib.hid hi
              clear hb ca_36 cb_36 ck_36 IA_36 IB_36 IT_36 ID_36 B_36 hi
              have hb := below_box w37 (.cells #[.slice A17 ys.length cap17] 26)
              have B_38 := Lib.hid (below_step B_37.out hb)
              have ca_38 := cell_kept ca_37 hb
              have cb_38 := cell_kept cb_37 hb
              have ck_38 := cell_kept ck_37 hb
              have IA_38 := Lib.hid (IA_37.out.step hb)
              have IB_38 := Lib.hid (IB_37.out.step hb)
              have IT_38 := Lib.hid (IT_37.out.step hb)
              have JZ_38 := Lib.hid (JZ_37.out.step hb)
              have ID_38 := Lib.hid (deck_step ID_37.out hb)
              have cz_38 : (w37.alloc (.cells #[.slice A17 ys.length cap17] 26)).cell? ⟨w37.heap.size, 0, none⟩ = some (.slice A17 ys.length cap17) := by simp [go_sem]
              clear hb ca_37 cb_37 ck_37 IA_37 IB_37 IT_37 JZ_37 ID_37 B_37
              go_wp2_with fail
              refine (KS.out ys _ _ _ _ _ HY.out JZ_38.out IB_38.out).mono ?_
              rintro e w39 ⟨rfl, hb⟩
              have B_39 := Lib.hid (below_step B_38.out hb)
              have ca_39 := cell_kept ca_38 hb
              have cb_39 := cell_kept cb_38 hb
              have ck_39 := cell_kept ck_38 hb
              have cz_39 := cell_kept cz_38 hb
              have IA_39 := Lib.hid (IA_38.out.step hb)
              have IB_39 := Lib.hid (IB_38.out.step hb)
              have IT_39 := Lib.hid (IT_38.out.step hb)
              have JZ_39 := Lib.hid (JZ_38.out.step hb)
              have ID_39 := Lib.hid (deck_step ID_38.out hb)
              clear hb ca_38 cb_38 ck_38 cz_38 IA_38 IB_38 IT_38 JZ_38 ID_38 B_38 
              go_wp2_with fail
              go_ret
              exact ⟨rfl, B_39.out⟩
            · have e1 : (E != 0) = true := by simpa using hE
              go_wp2_with fail
              go_ret
              exact ⟨rfl, B_36.out⟩
      · have e4 : (C4 == 0) = false := by simpa using h4
        clear F4
        by_cases hE : E = 0
        · subst hE
          go_wp2_with fail
          refine (KZ.out _ (by simp) IA_35.out).mono ?_
          rintro e w36 ⟨A17, cap17, rfl, hb, hi⟩
          have B_36 := Lib.hid (below_step B_35.out hb)
          have ca_36 := cell_kept ca_35 hb
          have cb_36 := cell_kept cb_35 hb
          have ck_36 := cell_kept ck_35 hb
          have IA_36 := Lib.hid (IA_35.out.step hb)
          have IB_36 := Lib.hid (IB_35.out.step hb)
          have IT_36 := Lib.hid (IT_35.out.step hb)
          have ID_36 := Lib.hid (deck_step ID_35.out hb)
          have JZ_36 := Lib.hid hi
          clear hb ca_35 cb_35 ck_35 IA_35 IB_35 IT_35 ID_35 B_35 hi
          have hb := below_box w36 (.cells #[.slice A17 ys.length cap17] 26)
          have B_37 := Lib.hid (below_step B_36.out hb)
          have ca_37 := cell_kept ca_36 hb
          have cb_37 := cell_kept cb_36 hb
          have ck_37 := cell_kept ck_36 hb
          have IA_37 := Lib.hid (IA_36.out.step hb)
          have IB_37 := Lib.hid (IB_36.out.step hb)
          have IT_37 := Lib.hid (IT_36.out.step hb)
          have JZ_37 := Lib.hid (JZ_36.out.step hb)
          have ID_37 := Lib.hid (deck_step ID_36.out hb)
          have cz_37 : (w36.alloc (.cells #[.slice A17 ys.length cap17] 26)).cell? ⟨w36.heap.size, 0, none⟩ = some (.slice A17 ys.length cap17) := by simp [go_sem]
          clear hb ca_36 cb_36 ck_36 IA_36 IB_36 IT_36 JZ_36 ID_36 B_36
          go_wp2_with fail
          refine (KS.out ys _ _ _ _ _ HY.out JZ_37.out IB_37.out).mono ?_
          rintro e w38 ⟨rfl, hb⟩
          have B_38 := Lib.hid (below_step B_37.out hb)
          have ca_38 := cell_kept ca_37 hb
          have cb_38 := cell_kept cb_37 hb
          have ck_38 := cell_kept ck_37 hb
          have cz_38 := cell_kept cz_37 hb
          have IA_38 := Lib.hid (IA_37.out.step hb)
          have IB_38 := Lib.hid (IB_37.out.step hb)
          have IT_38 := Lib.hid (IT_37.out.step hb)
          have JZ_38 := Lib.hid (JZ_37.out.step hb)
          have ID_38 := Lib.hid (deck_step ID_37.out hb)
          clear hb ca_37 cb_37 ck_37 cz_37 IA_37 IB_37 IT_37 JZ_37 ID_37 B_37 
          go_wp2_with fail
          go_ret
          exact ⟨rfl, B_38.out⟩
        · have e1 : (E != 0) = true := by simpa using hE
          go_wp2_with fail
          go_ret
          exact ⟨rfl, B_35.out⟩

theorem walk (A : Option Addr) (n c : Nat) {w : World} (h0 : BytesAt w w.heap.size A n) (hn : n ≤ 9223372036854775807) (w1 : World) (e1 : w = w1) :
    Calls Try.prog 5 #[.slice A n c] w1 fun e w' => e = .returned (.bool true) ∧ Below w1.heap.size w1 w' := by
  subst e1
  by_cases h : 4096 < n
  · exact walk_long A n c w hn h
  · exact walk_short A n c w h0 (by omega)

set_option maxRecDepth 100000 in
theorem lifted (os : Os) (started : os.Started) (H : Type) (enc : TypeId × Value → H) :
    ReturnsInHanded {} Try.checked os 5 .any (Rows.fnShiftedSpec.pre6 enc Try.prog Try.f5 Rows.fnShiftedRow.domain false) (Rows.fnShiftedSpec.post enc Try.prog Try.f5 false true false false) := by
  refine returnsInHanded_of_change (C := Try.checked) own started (by kernel_rfl) Try.func5
    (ChangeSpec.witness6 (enc := enc) (C := Try.checked) false ⟨#[], #[.slice none 0 0], []⟩ 8 (by kernel_rfl) (by kernel_rfl) (by kernel_rfl) (by kernel_rfl)) ?_
  intro W base args ds gs before hval0 hW _ _
  have hval : ∀ (j : Nat) t v, Try.f5.params[j]? = some t → args[j]? = some v → Value.okWide Try.prog W .any base t v := hval0
  have hW' := hW
  obtain ⟨p, q, hA0, hV, rfl, _, _⟩ := hW
  have hA : DataW.TrodAll enc Try.prog W 0 (fun _ => true) true Try.f5.params.toList args.toList ds p := hA0
  rw [Try.params5] at hA hval
  obtain ⟨v0, vs0, d0, ds0, p0, q0, hargs, rfl, rfl, h0, r0⟩ := trodAll_cons hA
  obtain ⟨rfl, rfl, rfl⟩ := trodAll_nil r0
  obtain rfl : args = #[v0] := by cases args; simp_all
  obtain ⟨rfl, rfl⟩ := trodVars_none hV
  obtain ⟨A0, n0, c0, rfl, b0, l0⟩ := open_bytes (hval 0 22 v0 rfl rfl) h0
  refine (walk A0 n0 c0 b0 l0 W rfl).mono fun e W' ⟨he, hb⟩ => ?_
  subst he
  refine ⟨_, rfl, law_post hW' rfl rfl ?_ rfl rfl rfl hb⟩
  intro t ht
  rw [Try.params5] at ht
  obtain rfl : t = 22 := by simpa using ht
  exact ⟨by kernel_rfl, of_decide_eq_true (by kernel_rfl)⟩

theorem over : Rows.fnShiftedRow.holds Try.pinned (OpenSpec.ofChange Rows.fnShiftedSpec) :=
  OpenClaim.holds_of_wide 5 Try.f5 rfl rfl rfl rfl rfl rfl rfl ⟨rfl, rfl, rfl, rfl, rfl⟩ rfl rfl rfl rfl rfl (by kernel_rfl) Try.func5 (by kernel_rfl)
    (of_decide_eq_true (by kernel_rfl)) (by unfold Func.isWrapper; first | (rw [if_pos (by decide +kernel)]; kernel_rfl) | (rw [if_neg (by decide +kernel)]; exact ⟨rfl, rfl⟩))
    (fun os started H enc _ => lifted os started H enc)

theorem proved : Rows.FnShiftedSaid :=
  over
end Go.Proofs.Ytjfogadcedgndaa.fnShifted
