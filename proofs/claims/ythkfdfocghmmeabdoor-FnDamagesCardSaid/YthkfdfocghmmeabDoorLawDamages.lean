/- For every list of bytes, the law FnDamages returns true: distances, added and lost holes and repaired cards of drawn cards are as spec says, and fit together. Condition: the table of places holds what the program's text lays in it (the card ties that). -/
import Derived.Test.YthkfdfocghmmeabDoorDamAny
import Derived.Test.YthkfdfocghmmeabDoorDrawDam
import Derived.Test.YthkfdfocghmmeabDoorNearest
import Derived.Test.YthkfdfocghmmeabDoorBytes
import Derived.Deep.RegionHeld3
import Derived.Test.YthkfdfocghmmeabDoorCards
import Derived.Test.YthkfdfocghmmeabDoorTie
import Derived.LaidMore
import Derived.OpenVars
import Derived.Stop.Joined
namespace Go.Proofs.YthkfdfocghmmeabDoor.fnDamages
open Go.ChangeShapes Go.WideShapes Go.ChangeAt Go.RowKit

set_option maxRecDepth 100000 in
theorem walk_long (A : Option Addr) (n c : Nat) (w : World) (hn : n ≤ 9223372036854775807) (h : 4096 < n) :
    Calls Tryd.prog 3 #[.slice A n c] w fun e w' => e = .returned (.bool true) ∧ Below w.heap.size w w' := by
  have hL := f6big_any A n c w hn
  rw [decide_eq_true h] at hL
  have HL := Lib.hid hL
  clear hL h
  go_enter Tryd.func3, Tryd.ntmps3
  go_wp2_with fail
  refine HL.out.mono ?_
  rintro e w1 ⟨rfl, rfl⟩
  go_wp2
  go_ret
  exact ⟨rfl, Below.refl _ _⟩

set_option maxRecDepth 100000 in
set_option maxHeartbeats 8000000 in
theorem walk_short (A : Option Addr) (n c : Nat) (w : World) (h0 : BytesAt w w.heap.size A n) (hn : n ≤ 4096) (hP : Places w) :
    Calls Tryd.prog 3 #[.slice A n c] w fun e w' => e = .returned (.bool true) ∧ Below w.heap.size w w' := by
  have hL := f6big_any A n c w (by omega)
  rw [decide_eq_false (by omega)] at hL
  have HL := Lib.hid hL
  have HD := Lib.hid (drawDistance_any A n c w.heap.size w h0 (Nat.le_refl _) hn)
  have H0 := Lib.hid h0
  have HPL := Lib.hid hP
  clear hL h0 hP
  go_enter Tryd.func3, Tryd.ntmps3
  go_wp2_with fail
  refine HL.out.mono ?_
  rintro e w' ⟨rfl, rfl⟩
  go_wp2_with fail
  refine HD.out.mono ?_
  rintro e w1 ⟨A1, cap1, xs, A2, cap2, ys, rfl, hx, hy, cf1, cf2, hb⟩
  have hx' : xs.length ≤ 1048576 := by omega
  have hy' : ys.length ≤ 1048576 := by omega
  have kd := fun W h h' => implDist_any A1 A2 cap1 cap2 xs ys W.heap.size W.heap.size W h h' (Nat.le_refl _) (Nat.le_refl _) hx' hy'
  have kds := fun W h h' => specDist_any A1 A2 cap1 cap2 xs ys W.heap.size W.heap.size W h h' (Nat.le_refl _) (Nat.le_refl _) hx' hy'
  have kdb := fun W h h' => implDist_back A1 A2 cap1 cap2 xs ys W h h' hx' hy'
  have ka := fun W h h' => implAdded_any A1 A2 cap1 cap2 xs ys W h h' hx' hy'
  have kas := fun W h h' => specAdded_any A1 A2 cap1 cap2 xs ys W h h' hx' hy'
  have kl := fun W h h' => implLost_any A1 A2 cap1 cap2 xs ys W h h' hx' hy'
  have kls := fun W h h' => specLost_any A1 A2 cap1 cap2 xs ys W h h' hx' hy'
  have kab := fun W h h' => implAdded_back A1 A2 cap1 cap2 xs ys W h h' hx' hy'
  have hds := fun h => dist_sel (xs := xs) (ys := ys) h
  have hla : (addL xs ys).length ≤ 64 := by
    rw [addL]
    split
    · exact Nat.le_trans (selTo_length _ _) hy
    · simp
  have hll : (lostL xs ys).length ≤ 64 := by
    rw [lostL]
    split
    · exact Nat.le_trans (selTo_length _ _) hx
    · simp
  obtain ⟨P, eP⟩ : ∃ P, pairCode xs ys = P := ⟨_, rfl⟩
  obtain ⟨N, eN⟩ : ∃ N, distV xs ys = N := ⟨_, rfl⟩
  obtain ⟨LA, eA⟩ : ∃ LA, addL xs ys = LA := ⟨_, rfl⟩
  obtain ⟨LL, eL⟩ : ∃ LL, lostL xs ys = LL := ⟨_, rfl⟩
  simp only [eP, eN, eA, eL] at kd kds kdb ka kas kl kls kab hds hla hll
  have KD := Lib.hid kd
  have KDS := Lib.hid kds
  have KDB := Lib.hid kdb
  have KA := Lib.hid ka
  have KAS := Lib.hid kas
  have KL := Lib.hid kl
  have KLS := Lib.hid kls
  have KAB := Lib.hid kab
  have HDS := Lib.hid hds
  have HLA := Lib.hid hla
  have HLL := Lib.hid hll
  have KI : Hid (∀ (M : List Int) (W : World) (P P' : Option Addr) (k k' : Nat), M.length ≤ 64 → Ints W W.heap.size P M → Ints W W.heap.size P' M → Calls Tryd.prog 18 #[.slice P M.length k, .slice P' M.length k'] W fun e w' => e = .returned (.bool true) ∧ ∃ q, w' = W.drewN q) := fun M W P P' k k' hM h h' => by
    have := f6ints_any P P' k k' M M W.heap.size W.heap.size W h h' (by omega) (by omega)
    rwa [decide_eq_true rfl] at this
  have KS : Hid (∀ (M : List Int) (W : World) (P P' : Option Addr) (k k' : Nat), M.length ≤ 64 → Ints W W.heap.size P M → Ints W W.heap.size P' M → Calls Tryd.prog 19 #[.agg #[.slice P M.length k], .agg #[.slice P' M.length k']] W fun e w' => e = .returned (.bool true) ∧ Below W.heap.size W w') := fun M W P P' k k' hM h h' => by
    have := specSameCard_any P P' k k' M M W.heap.size W.heap.size W h h' (Nat.le_refl _) (Nat.le_refl _) (by omega) (by omega)
    rwa [decide_eq_true rfl] at this
  clear kd kds kdb ka kas kl kls kab hds hla hll eP eN eA eL hx hy

  have b2 := (below_box w1 (.cells #[.slice A1 xs.length cap1] 26)).alloc (by simp) (.cells #[.slice A2 ys.length cap2] 26)
  have B_2 := Lib.hid (below_step hb b2)
  have IA_2 := Lib.hid (cf1.ints.step b2)
  have IB_2 := Lib.hid (cf2.ints.step b2)
  have ca_2 : ((w1.alloc (.cells #[.slice A1 xs.length cap1] 26)).alloc (.cells #[.slice A2 ys.length cap2] 26)).cell? ⟨w1.heap.size, 0, none⟩ = some (.slice A1 xs.length cap1) := by simp [go_sem]
  have cb_2 : ((w1.alloc (.cells #[.slice A1 xs.length cap1] 26)).alloc (.cells #[.slice A2 ys.length cap2] 26)).cell? ⟨w1.heap.size + 1, 0, none⟩ = some (.slice A2 ys.length cap2) := by simp [go_sem]
  clear hb b2 cf1 cf2 HD HL
  go_wp2_with fail
  refine (KD.out _ IA_2.out IB_2.out).mono ?_
  rintro e w3 ⟨rfl, hb⟩
  have B_3 := Lib.hid (below_step B_2.out hb)
  have ca_3 := cell_kept ca_2 hb
  have cb_3 := cell_kept cb_2 hb
  have IA_3 := Lib.hid (IA_2.out.step hb)
  have IB_3 := Lib.hid (IB_2.out.step hb)
  clear hb ca_2 cb_2 B_2 
  go_wp2_with fail
  refine (KDS.out _ IA_3.out IB_3.out).mono ?_
  rintro e w4 ⟨rfl, hb⟩
  have B_4 := Lib.hid (below_step B_3.out hb)
  have ca_4 := cell_kept ca_3 hb
  have cb_4 := cell_kept cb_3 hb
  have IA_4 := Lib.hid (IA_3.out.step hb)
  have IB_4 := Lib.hid (IB_3.out.step hb)
  clear hb ca_3 cb_3 B_3 
  go_wp2_with fail
  refine (KDB.out _ IA_4.out IB_4.out).mono ?_
  rintro e w5 ⟨rfl, hb⟩
  have B_5 := Lib.hid (below_step B_4.out hb)
  have ca_5 := cell_kept ca_4 hb
  have cb_5 := cell_kept cb_4 hb
  have IA_5 := Lib.hid (IA_4.out.step hb)
  have IB_5 := Lib.hid (IB_4.out.step hb)
  clear hb ca_4 cb_4 B_4 
  go_wp2_with fail
  refine (KA.out _ IA_5.out IB_5.out).mono ?_
  rintro e w6 ⟨M1, q1, rfl, hb, hi⟩
  have B_6 := Lib.hid (below_step B_5.out hb)
  have ca_6 := cell_kept ca_5 hb
  have cb_6 := cell_kept cb_5 hb
  have IA_6 := Lib.hid (IA_5.out.step hb)
  have IB_6 := Lib.hid (IB_5.out.step hb)
  have I1_6 := Lib.hid hi
  clear hb ca_5 cb_5 B_5 hi
  go_wp2_with fail
  refine (KAS.out _ IA_6.out IB_6.out).mono ?_
  rintro e w7 ⟨M2, q2, rfl, hb, hi⟩
  have B_7 := Lib.hid (below_step B_6.out hb)
  have ca_7 := cell_kept ca_6 hb
  have cb_7 := cell_kept cb_6 hb
  have IA_7 := Lib.hid (IA_6.out.step hb)
  have IB_7 := Lib.hid (IB_6.out.step hb)
  have I1_7 := Lib.hid (I1_6.out.step hb)
  have I2_7 := Lib.hid hi
  clear hb ca_6 cb_6 B_6 hi
  go_wp2_with fail
  refine (KL.out _ IA_7.out IB_7.out).mono ?_
  rintro e w8 ⟨M3, q3, rfl, hb, hi⟩
  have B_8 := Lib.hid (below_step B_7.out hb)
  have ca_8 := cell_kept ca_7 hb
  have cb_8 := cell_kept cb_7 hb
  have IA_8 := Lib.hid (IA_7.out.step hb)
  have IB_8 := Lib.hid (IB_7.out.step hb)
  have I1_8 := Lib.hid (I1_7.out.step hb)
  have I2_8 := Lib.hid (I2_7.out.step hb)
  have I3_8 := Lib.hid hi
  clear hb ca_7 cb_7 B_7 hi
  go_wp2_with fail
  refine (KLS.out _ IA_8.out IB_8.out).mono ?_
  rintro e w9 ⟨M4, q4, rfl, hb, hi⟩
  have B_9 := Lib.hid (below_step B_8.out hb)
  have ca_9 := cell_kept ca_8 hb
  have cb_9 := cell_kept cb_8 hb
  have IA_9 := Lib.hid (IA_8.out.step hb)
  have IB_9 := Lib.hid (IB_8.out.step hb)
  have I1_9 := Lib.hid (I1_8.out.step hb)
  have I2_9 := Lib.hid (I2_8.out.step hb)
  have I3_9 := Lib.hid (I3_8.out.step hb)
  have I4_9 := Lib.hid hi
  clear hb ca_8 cb_8 B_8 hi
  go_wp2_with fail
  refine (KAB.out _ IA_9.out IB_9.out).mono ?_
  rintro e w10 ⟨M5, q5, rfl, hb, hi⟩
  have B_10 := Lib.hid (below_step B_9.out hb)
  have ca_10 := cell_kept ca_9 hb
  have cb_10 := cell_kept cb_9 hb
  have IA_10 := Lib.hid (IA_9.out.step hb)
  have IB_10 := Lib.hid (IB_9.out.step hb)
  have I1_10 := Lib.hid (I1_9.out.step hb)
  have I2_10 := Lib.hid (I2_9.out.step hb)
  have I3_10 := Lib.hid (I3_9.out.step hb)
  have I4_10 := Lib.hid (I4_9.out.step hb)
  have I5_10 := Lib.hid hi
  clear hb ca_9 cb_9 B_9 hi
  clear KD KDS KDB KA KAS KL KLS KAB IA_10 IB_10 ca_10 cb_10
  go_wp2_with fail
  refine (drawRepairCard_any A n c w.heap.size w10 (H0.out.below B_10.out) B_10.out.size hn).mono ?_
  rintro e w11 ⟨A3, cap3, zs, rfl, hz, cf, hb⟩
  have B_11 := Lib.hid (below_step B_10.out hb)
  have I1_11 := Lib.hid (I1_10.out.step hb)
  have I2_11 := Lib.hid (I2_10.out.step hb)
  have I3_11 := Lib.hid (I3_10.out.step hb)
  have I4_11 := Lib.hid (I4_10.out.step hb)
  have I5_11 := Lib.hid (I5_10.out.step hb)
  have IC_11 := Lib.hid cf.ints
  clear hb  B_10 cf
  have hz' : zs.length ≤ 1048576 := by omega
  have hb := below_box w11 (.cells #[.slice A3 zs.length cap3] 26)
  have B_12 := Lib.hid (below_step B_11.out hb)
  have I1_12 := Lib.hid (I1_11.out.step hb)
  have I2_12 := Lib.hid (I2_11.out.step hb)
  have I3_12 := Lib.hid (I3_11.out.step hb)
  have I4_12 := Lib.hid (I4_11.out.step hb)
  have I5_12 := Lib.hid (I5_11.out.step hb)
  have IC_12 := Lib.hid (IC_11.out.step hb)
  have cc_12 : (w11.alloc (.cells #[.slice A3 zs.length cap3] 26)).cell? ⟨w11.heap.size, 0, none⟩ = some (.slice A3 zs.length cap3) := by simp [go_sem]
  clear hb  B_11
  have kr := fun W h hp => implRep_any A3 cap3 zs W h hz' hp
  have krs := fun W h => specRep_any A3 cap3 zs W h hz'
  have kt := fun (e : okB zs = true) W A' c' h h' => repDist A3 A' cap3 c' zs W h h' hz' e
  have ku := fun (e : okB zs = true) W A' c' h => repIll A' c' zs W h hz' e
  have hvl : (repV zs).length ≤ 64 := by
    rw [repV]
    split
    · rw [repL_length]; exact hz
    · simp
  obtain ⟨V, eV⟩ : ∃ V, repV zs = V := ⟨_, rfl⟩
  obtain ⟨r, er⟩ : ∃ r, repN zs = r := ⟨_, rfl⟩
  obtain ⟨q, eq⟩ : ∃ q, repC zs = q := ⟨_, rfl⟩
  simp only [eV, er, eq] at kr krs hvl
  have KR := Lib.hid kr
  have KRS := Lib.hid krs
  have KT := Lib.hid kt
  have KU := Lib.hid ku
  have HVL := Lib.hid hvl
  have HV := Lib.hid eV
  have HR := Lib.hid er
  have HQ := Lib.hid eq
  clear kr krs kt ku hvl eV er eq hz hz'
  go_wp2_with fail
  refine (KR.out _ IC_12.out (HPL.out.below B_12.out)).mono ?_
  rintro e w13 ⟨X, capx, rfl, hb, hi⟩
  have B_13 := Lib.hid (below_step B_12.out hb)
  have cc_13 := cell_kept cc_12 hb
  have I1_13 := Lib.hid (I1_12.out.step hb)
  have I2_13 := Lib.hid (I2_12.out.step hb)
  have I3_13 := Lib.hid (I3_12.out.step hb)
  have I4_13 := Lib.hid (I4_12.out.step hb)
  have I5_13 := Lib.hid (I5_12.out.step hb)
  have IC_13 := Lib.hid (IC_12.out.step hb)
  have IX_13 := Lib.hid hi
  clear hb cc_12 B_12 hi
  have hb := below_box w13 (.cells #[.slice X V.length capx] 26)
  have B_14 := Lib.hid (below_step B_13.out hb)
  have cc_14 := cell_kept cc_13 hb
  have I1_14 := Lib.hid (I1_13.out.step hb)
  have I2_14 := Lib.hid (I2_13.out.step hb)
  have I3_14 := Lib.hid (I3_13.out.step hb)
  have I4_14 := Lib.hid (I4_13.out.step hb)
  have I5_14 := Lib.hid (I5_13.out.step hb)
  have IC_14 := Lib.hid (IC_13.out.step hb)
  have IX_14 := Lib.hid (IX_13.out.step hb)
  have cx_14 : (w13.alloc (.cells #[.slice X V.length capx] 26)).cell? ⟨w13.heap.size, 0, none⟩ = some (.slice X V.length capx) := by simp [go_sem]
  clear hb cc_13 B_13
  go_wp2_with fail
  refine (KRS.out _ IC_14.out).mono ?_
  rintro e w15 ⟨Y, capy, rfl, hb, hi⟩
  have B_15 := Lib.hid (below_step B_14.out hb)
  have cc_15 := cell_kept cc_14 hb
  have cx_15 := cell_kept cx_14 hb
  have I1_15 := Lib.hid (I1_14.out.step hb)
  have I2_15 := Lib.hid (I2_14.out.step hb)
  have I3_15 := Lib.hid (I3_14.out.step hb)
  have I4_15 := Lib.hid (I4_14.out.step hb)
  have I5_15 := Lib.hid (I5_14.out.step hb)
  have IC_15 := Lib.hid (IC_14.out.step hb)
  have IX_15 := Lib.hid (IX_14.out.step hb)
  have IY_15 := Lib.hid hi
  clear hb cc_14 cx_14 B_14 hi
  have hb := below_box w15 (.cells #[.slice Y V.length capy] 26)
  have B_16 := Lib.hid (below_step B_15.out hb)
  have cc_16 := cell_kept cc_15 hb
  have cx_16 := cell_kept cx_15 hb
  have I1_16 := Lib.hid (I1_15.out.step hb)
  have I2_16 := Lib.hid (I2_15.out.step hb)
  have I3_16 := Lib.hid (I3_15.out.step hb)
  have I4_16 := Lib.hid (I4_15.out.step hb)
  have I5_16 := Lib.hid (I5_15.out.step hb)
  have IC_16 := Lib.hid (IC_15.out.step hb)
  have IX_16 := Lib.hid (IX_15.out.step hb)
  have IY_16 := Lib.hid (IY_15.out.step hb)
  have cy_16 : (w15.alloc (.cells #[.slice Y V.length capy] 26)).cell? ⟨w15.heap.size, 0, none⟩ = some (.slice Y V.length capy) := by simp [go_sem]
  clear hb cc_15 cx_15 B_15
  go_wp2_with fail
  refine (drawRepairColumn_any A n c w.heap.size _ (H0.out.below B_16.out) B_16.out.size hn).mono ?_
  rintro e w17 ⟨m, rfl, hb⟩
  have B_17 := Lib.hid (below_step B_16.out hb)
  have cc_17 := cell_kept cc_16 hb
  have cx_17 := cell_kept cx_16 hb
  have cy_17 := cell_kept cy_16 hb
  have I1_17 := Lib.hid (I1_16.out.step hb)
  have I2_17 := Lib.hid (I2_16.out.step hb)
  have I3_17 := Lib.hid (I3_16.out.step hb)
  have I4_17 := Lib.hid (I4_16.out.step hb)
  have I5_17 := Lib.hid (I5_16.out.step hb)
  have IC_17 := Lib.hid (IC_16.out.step hb)
  have IX_17 := Lib.hid (IX_16.out.step hb)
  have IY_17 := Lib.hid (IY_16.out.step hb)
  clear hb cc_16 cx_16 cy_16 B_16 
  have kc := fun W hp => implRepairColumn_any m W hp
  have kcs := fun W => specRepairColumn_any m W
  obtain ⟨u1, e1⟩ : ∃ u, (if inB m 0 4095 = true then charR (nearK m) else 0) = u := ⟨_, rfl⟩
  obtain ⟨u2, e2⟩ : ∃ u, (if inB m 0 4095 = true then (df m (codeS (charR (nearK m))) : Int) else 0) = u := ⟨_, rfl⟩
  obtain ⟨u3, e3⟩ : ∃ u, (if inB m 0 4095 = true then (0 : Int) else 2) = u := ⟨_, rfl⟩
  simp only [e1, e2, e3] at kc kcs
  have KC := Lib.hid kc
  have KCS := Lib.hid kcs
  clear kc kcs e1 e2 e3 KR KRS
  go_wp2_with fail
  refine (KC.out _ (HPL.out.below B_17.out)).mono ?_
  rintro e w18 ⟨rfl, hb⟩
  have B_18 := Lib.hid (below_step B_17.out hb)
  have cc_18 := cell_kept cc_17 hb
  have cx_18 := cell_kept cx_17 hb
  have cy_18 := cell_kept cy_17 hb
  have I1_18 := Lib.hid (I1_17.out.step hb)
  have I2_18 := Lib.hid (I2_17.out.step hb)
  have I3_18 := Lib.hid (I3_17.out.step hb)
  have I4_18 := Lib.hid (I4_17.out.step hb)
  have I5_18 := Lib.hid (I5_17.out.step hb)
  have IC_18 := Lib.hid (IC_17.out.step hb)
  have IX_18 := Lib.hid (IX_17.out.step hb)
  have IY_18 := Lib.hid (IY_17.out.step hb)
  clear hb cc_17 cx_17 cy_17 B_17 
  go_wp2_with fail
  refine (KCS.out _).mono ?_
  rintro e w' ⟨rfl, rfl⟩
  clear KC KCS
  go_wp2_with fail
  refine (KI.out LA _ _ _ _ _ HLA.out I1_18.out I2_18.out).mono ?_
  rintro e w' ⟨rfl, d1, rfl⟩
  go_wp2_with fail
  refine (KI.out LL (w18.drewN d1) _ _ _ _ HLL.out I3_18.out I4_18.out).mono ?_
  rintro e w' ⟨rfl, d2, rfl⟩
  go_wp2_with fail
  refine (KI.out LL (w18.drewN (d1 + d2)) _ _ _ _ HLL.out I5_18.out I4_18.out).mono ?_
  rintro e w' ⟨rfl, d3, rfl⟩
  have cx_d : (w18.drewN (d1 + d2 + d3)).cell? ⟨w13.heap.size, 0, none⟩ = some (.slice X V.length capx) := cx_18
  have cy_d : (w18.drewN (d1 + d2 + d3)).cell? ⟨w15.heap.size, 0, none⟩ = some (.slice Y V.length capy) := cy_18
  go_wp2_with fail
  refine (KS.out V (w18.drewN (d1 + d2 + d3)) _ _ _ _ HVL.out IX_18.out IY_18.out).mono ?_
  rintro e wz ⟨rfl, hb⟩
  have kz : Below w18.heap.size w18 wz := ⟨hb.os, hb.tape, hb.output, hb.size, hb.block⟩
  have B_Z := Lib.hid (below_step B_18.out kz)
  have cc_Z := cell_kept cc_18 kz
  have cx_Z := cell_kept cx_18 kz
  have cy_Z := cell_kept cy_18 kz
  have IC_Z := Lib.hid (IC_18.out.step kz)
  have IX_Z := Lib.hid (IX_18.out.step kz)
  have kb := B_Z.out
  clear hb kz cx_d cy_d cc_18 cx_18 cy_18 I1_18 I2_18 I3_18 I4_18 I5_18 IC_18 IX_18 IY_18 B_18 KI KS
  have hcases : (¬ P = 0) ∨ (P = 0 ∧ N = 0 ∧ LA.length = 0 ∧ LL.length = 0) ∨ (P = 0 ∧ (¬ N = 0) ∧ ¬ LA.length = 0) ∨ (P = 0 ∧ (¬ N = 0) ∧ LA.length = 0 ∧ ¬ LL.length = 0) := by
    by_cases h1 : P = 0
    · have := HDS.out h1
      omega
    · exact Or.inl h1
  clear HDS HLA HLL HVL kb

  rcases hcases with hP | ⟨rfl, rfl, la, ll⟩ | ⟨rfl, hN, la⟩ | ⟨rfl, hN, la, ll⟩
  · cases ek : okB zs
    · obtain rfl : q = 1 := by rw [← HQ.out, repC, ek]; rfl
      have p1 : (P == 0) = false := by simpa using hP
      clear HV HR HQ KT KU IC_Z IX_Z ek
      go_wp2_with fail
      go_ret
      exact ⟨rfl, B_Z.out⟩
    · obtain rfl : q = 0 := by rw [← HQ.out, repC, ek]; rfl
      obtain rfl : V = repL zs := by rw [← HV.out, repV, ek]; rfl
      obtain rfl : r = (distN zs (repL zs) : Int) := by rw [← HR.out, repN, ek]; rfl
      have p1 : (P == 0) = false := by simpa using hP
      have HT := Lib.hid (KT.out ek wz X capx IC_Z.out IX_Z.out)
      have HU := Lib.hid (KU.out ek)
      clear HV HR HQ KT KU IC_Z ek
      go_wp2_with fail
      refine HT.out.mono ?_
      rintro e wy ⟨rfl, hb⟩
      have B_Y := Lib.hid (below_step B_Z.out hb)
      have cx_Y := cell_kept cx_Z hb
      have IX_Y := Lib.hid (IX_Z.out.step hb)
      clear hb cx_Z cc_Z cy_Z HT IX_Z B_Z
      go_wp2_with fail
      refine (HU.out wy X capx IX_Y.out).mono ?_
      rintro e wv ⟨⟨L9, q9, rfl⟩, hb⟩
      have B_V := Lib.hid (below_step B_Y.out hb)
      clear hb
      go_wp2_with fail
      go_ret
      exact ⟨rfl, B_V.out⟩
  · cases ek : okB zs
    · obtain rfl : q = 1 := by rw [← HQ.out, repC, ek]; rfl
      clear HV HR HQ KT KU IC_Z IX_Z ek
      go_wp2_with fail
      go_ret
      exact ⟨rfl, B_Z.out⟩
    · obtain rfl : q = 0 := by rw [← HQ.out, repC, ek]; rfl
      obtain rfl : V = repL zs := by rw [← HV.out, repV, ek]; rfl
      obtain rfl : r = (distN zs (repL zs) : Int) := by rw [← HR.out, repN, ek]; rfl
      have HT := Lib.hid (KT.out ek wz X capx IC_Z.out IX_Z.out)
      have HU := Lib.hid (KU.out ek)
      clear HV HR HQ KT KU IC_Z ek
      go_wp2_with fail
      refine HT.out.mono ?_
      rintro e wy ⟨rfl, hb⟩
      have B_Y := Lib.hid (below_step B_Z.out hb)
      have cx_Y := cell_kept cx_Z hb
      have IX_Y := Lib.hid (IX_Z.out.step hb)
      clear hb cx_Z cc_Z cy_Z HT IX_Z B_Z
      go_wp2_with fail
      refine (HU.out wy X capx IX_Y.out).mono ?_
      rintro e wv ⟨⟨L9, q9, rfl⟩, hb⟩
      have B_V := Lib.hid (below_step B_Y.out hb)
      clear hb
      go_wp2_with fail
      go_ret
      exact ⟨rfl, B_V.out⟩
  · cases ek : okB zs
    · obtain rfl : q = 1 := by rw [← HQ.out, repC, ek]; rfl
      have n1 : (N == 0) = false := by simpa using hN
      clear HV HR HQ KT KU IC_Z IX_Z ek
      go_wp2_with fail
      go_ret
      exact ⟨rfl, B_Z.out⟩
    · obtain rfl : q = 0 := by rw [← HQ.out, repC, ek]; rfl
      obtain rfl : V = repL zs := by rw [← HV.out, repV, ek]; rfl
      obtain rfl : r = (distN zs (repL zs) : Int) := by rw [← HR.out, repN, ek]; rfl
      have n1 : (N == 0) = false := by simpa using hN
      have HT := Lib.hid (KT.out ek wz X capx IC_Z.out IX_Z.out)
      have HU := Lib.hid (KU.out ek)
      clear HV HR HQ KT KU IC_Z ek
      go_wp2_with fail
      refine HT.out.mono ?_
      rintro e wy ⟨rfl, hb⟩
      have B_Y := Lib.hid (below_step B_Z.out hb)
      have cx_Y := cell_kept cx_Z hb
      have IX_Y := Lib.hid (IX_Z.out.step hb)
      clear hb cx_Z cc_Z cy_Z HT IX_Z B_Z
      go_wp2_with fail
      refine (HU.out wy X capx IX_Y.out).mono ?_
      rintro e wv ⟨⟨L9, q9, rfl⟩, hb⟩
      have B_V := Lib.hid (below_step B_Y.out hb)
      clear hb
      go_wp2_with fail
      go_ret
      exact ⟨rfl, B_V.out⟩
  · cases ek : okB zs
    · obtain rfl : q = 1 := by rw [← HQ.out, repC, ek]; rfl
      have n1 : (N == 0) = false := by simpa using hN
      clear HV HR HQ KT KU IC_Z IX_Z ek
      go_wp2_with fail
      go_ret
      exact ⟨rfl, B_Z.out⟩
    · obtain rfl : q = 0 := by rw [← HQ.out, repC, ek]; rfl
      obtain rfl : V = repL zs := by rw [← HV.out, repV, ek]; rfl
      obtain rfl : r = (distN zs (repL zs) : Int) := by rw [← HR.out, repN, ek]; rfl
      have n1 : (N == 0) = false := by simpa using hN
      have HT := Lib.hid (KT.out ek wz X capx IC_Z.out IX_Z.out)
      have HU := Lib.hid (KU.out ek)
      clear HV HR HQ KT KU IC_Z ek
      go_wp2_with fail
      refine HT.out.mono ?_
      rintro e wy ⟨rfl, hb⟩
      have B_Y := Lib.hid (below_step B_Z.out hb)
      have cx_Y := cell_kept cx_Z hb
      have IX_Y := Lib.hid (IX_Z.out.step hb)
      clear hb cx_Z cc_Z cy_Z HT IX_Z B_Z
      go_wp2_with fail
      refine (HU.out wy X capx IX_Y.out).mono ?_
      rintro e wv ⟨⟨L9, q9, rfl⟩, hb⟩
      have B_V := Lib.hid (below_step B_Y.out hb)
      clear hb
      go_wp2_with fail
      go_ret
      exact ⟨rfl, B_V.out⟩

theorem gPlaces : Tryd.prog.globalNamed "loop.example/g01012/impl.places" = some 0 := by kernel_rfl
theorem gPlacesType : (Tryd.prog.globals[0]?).map (·.type) = some 96 := by kernel_rfl
/-- What the row's list gives: each cell of the table. -/
theorem places_of {W : World} (h : laidMetH Tryd.prog Rows.fnDamagesRow.laid W) : Places W := by
  have h' : laidMet Tryd.prog (("loop.example/g01012/impl.places", Lib.tabData .i8 placesL) :: []) W := h
  have ht := Lib.tabIs_of_head gPlaces gPlacesType Tryd.underlying96 Tryd.underlying95 (by kernel_rfl) (by kernel_rfl) h'
  exact fun i hi => ht.cell gPlaces i hi

theorem walk (W : World) (A : Option Addr) (n c : Nat) (h0 : BytesAt W W.heap.size A n) (hn : n ≤ 9223372036854775807) (hL : laidMetH Tryd.prog Rows.fnDamagesRow.laid W) :
    Calls Tryd.prog 3 #[.slice A n c] W fun e w' => e = .returned (.bool true) ∧ Below W.heap.size W w' := by
  have hP := places_of hL
  by_cases h : 4096 < n
  · exact walk_long A n c W hn h
  · exact walk_short A n c W h0 (by omega) hP

/-- The door's own heap meets the condition: three closed facts. -/
theorem door_met (os : Os) (args : Array Value) : laidMetH Tryd.prog Rows.fnDamagesRow.laid ((World.doorLaid Tryd.prog 4000 os).forCall (fun _ _ => 0) ⟨#[], args, []⟩).memory :=
  laidMetH_of_parts3 (fuel := 8) (laidMet_of_run' 8 (by kernel_rfl) (by kernel_rfl)) (by kernel_rfl) (by kernel_rfl)

set_option maxRecDepth 100000 in
theorem lifted (os : Os) (started : os.Started) (H : Type) (enc : TypeId × Value → H) :
    ReturnsInHanded {} Tryd.checked os 3 .any (fun w args => (Rows.fnDamagesSpec.pre enc Tryd.prog Tryd.f3 [] false w args ∧ laidMetH Tryd.prog Rows.fnDamagesRow.laid w) ∧ sizedMet enc Tryd.prog Tryd.f3 (OpenSpec.ofChange Rows.fnDamagesSpec) false w args)
      (Rows.fnDamagesSpec.post enc Tryd.prog Tryd.f3 false true false false) := by
  refine returnsInHanded_of_change_and (C := Tryd.checked) (X := fun w _ => laidMetH Tryd.prog Rows.fnDamagesRow.laid w) (fun _ _ _ hh h => h.of_heap hh) own started (by kernel_rfl) Tryd.func3
    (ChangeSpec.witness_shaped (enc := enc) (C := Tryd.checked) (os := os) (X := fun w _ => laidMetH Tryd.prog Rows.fnDamagesRow.laid w) false (World.doorLaid Tryd.prog 4000 os) #[.slice none 0 0] 8 rfl (World.shaped_of_RefB (by kernel_rfl) (by kernel_rfl)) (by kernel_rfl) (by kernel_rfl) (by kernel_rfl) (door_met os _)) ?_
  intro W base args ds gs before hval0 hW _ _ hL _
  have hval : ∀ (j : Nat) t v, Tryd.f3.params[j]? = some t → args[j]? = some v → Value.okWide Tryd.prog W .any base t v := hval0
  have hW' := hW
  obtain ⟨p, q, hA0, hV, rfl, _, _⟩ := hW
  have hA : DataW.TrodAll enc Tryd.prog W 0 (fun _ => true) true Tryd.f3.params.toList args.toList ds p := hA0
  rw [Tryd.params3] at hA hval
  obtain ⟨v0, vs0, d0, ds0, p0, q0, hargs, rfl, rfl, h0, r0⟩ := trodAll_cons hA
  obtain ⟨rfl, rfl, rfl⟩ := trodAll_nil r0
  obtain rfl : args = #[v0] := by cases args; simp_all
  obtain ⟨g1, rfl⟩ : ∃ g1, gs = [g1] := by
    clear hL hW' hA hval
    match gs, hV with
    | [], h => exact h.elim
    | [g1], _ => exact ⟨g1, rfl⟩
    | _ :: _ :: _, ⟨_, _, _, _, _, _, _, _, _, _, h, _⟩ => exact h.elim
  obtain ⟨A0, n0, c0, rfl, b0, l0⟩ := open_bytes (hval 0 22 v0 rfl rfl) h0
  refine (walk W A0 n0 c0 b0 l0 hL).mono fun e W' ⟨he, hb⟩ => ?_
  subst he
  have hread : ∀ t ∈ Tryd.f3.params.toList, Tryd.prog.readableRec t = true ∧ t < Tryd.prog.types.size := by
    intro t ht
    rw [Tryd.params3] at ht
    obtain rfl : t = 22 := by simpa using ht
    exact ⟨by kernel_rfl, of_decide_eq_true (by kernel_rfl)⟩
  have hlt := fun x hx => hW'.lt x (List.mem_append_left q hx)
  refine ⟨_, rfl, _, [g1], _, [], _, q, hW', ?_, args_stay hread hA0 (fun x hx => hb.same (hlt x hx)) (fun x hx => by simpa using hlt x hx), ?_, ?_, fun h => by cases h⟩
  · exact trodAll_mk1 (shut_bool Tryd.underlying4 true)
  · exact Below.trodVars laidOut hb (by kernel_rfl) hV
  · exact World.keptBut_mono (fun x hx => ⟨hx, by rcases List.mem_append.1 hx with h' | h' <;> first | exact Or.inr (Or.inl h') | exact Or.inr (Or.inr h') | exact Or.inr (Or.inr (by simpa using h'))⟩) (hb.frame (· ∈ _))

theorem said : Rows.FnDamagesSaid :=
  OpenClaim.holds_of_wide 3 Tryd.f3 rfl rfl rfl rfl rfl rfl rfl ⟨rfl, rfl, rfl, rfl, rfl⟩ rfl rfl rfl rfl rfl (by kernel_rfl) Tryd.func3 (by kernel_rfl)
    (of_decide_eq_true (by kernel_rfl)) (by unfold Func.isWrapper; first | (rw [if_pos (by decide +kernel)]; kernel_rfl) | (rw [if_neg (by decide +kernel)]; exact ⟨rfl, rfl⟩))
    (fun os started H enc _ => lifted os started H enc)

/-- No parameter wants a stand-in; the program's own looks are as the card says. -/
theorem plain (f : FuncId) (fn : Func) (hf : Tryd.pinned.checked.prog.funcNamed "loop.example/g01012/laws.FnDamages" = some f) (hfn : Tryd.pinned.checked.prog.funcs[f]? = some fn) :
    Rows.fnDamagesCard.stood.looks = Tryd.pinned.checked.prog.looks [] ∧ ∀ (j : Nat) t, fn.params[j]? = some t → Tryd.pinned.checked.prog.wantsStandIn t = false := by
  obtain rfl : f = 3 := Option.some.inj ((show Tryd.prog.funcNamed "loop.example/g01012/laws.FnDamages" = some 3 by kernel_rfl).symm.trans hf) |>.symm
  obtain rfl : fn = Tryd.f3 := (Option.some.inj (Tryd.func3.symm.trans hfn)).symm
  refine ⟨by kernel_rfl, fun j t ht => ?_⟩
  rw [Tryd.params3] at ht
  have hm : t ∈ [22] := by simpa using Array.mem_of_getElem? ht
  have hall : ([22].all fun u => !Tryd.prog.wantsStandIn u) = true := by kernel_rfl
  exact (show Tryd.prog.wantsStandIn t = false by simpa using List.all_eq_true.1 hall t hm)

theorem proved : Rows.FnDamagesCardSaid :=
  Claim7.holds_tied_plain_at .later [] _ _ _ _ said (fun _ h => by cases h) (by kernel_rfl) (fun _ h => by cases h) fnDamages_row_tie rfl ⟨rfl, rfl⟩ (by kernel_rfl) rfl plain (by kernel_rfl)
end Go.Proofs.YthkfdfocghmmeabDoor.fnDamages
