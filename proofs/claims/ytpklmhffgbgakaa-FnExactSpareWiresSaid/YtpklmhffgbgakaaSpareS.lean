/- spec.SpareWires answers the wires that are spare: a contract. -/
import Derived.Test.YtpklmhffgbgakaaSpare
namespace Go.Proofs.Ytpklmhffgbgakaa
open Go.ChangeShapes Go.WideShapes Go.ChangeAt Go.RowKit Go.Maps Go.WideMaps

theorem append_other {wr w' : World} {o : Obj} {v : Value} (hgrow : (wr.alloc o).grownBy w' v.ownBlock) {i : Nat} (hi : i < wr.heap.size) (hne : v.ownBlock ≠ some i) : w'.heap[i]? = wr.heap[i]? := by
  rw [hgrow.block i (by simp; omega) (fun e => hne e.symm), Below.heap_alloc wr o i hi]

set_option maxRecDepth 100000 in
set_option maxHeartbeats 4000000 in
theorem specSpare_any (e n j : Int) (A : Option Addr) (c : Nat) (P : List (Int × Int)) (B : Nat) (w : World) (h : Wires w B A P) (hB : B ≤ w.heap.size) (hn : P.length ≤ 1048576) :
    Calls Try.prog 52 #[.agg #[.int .i64 e, .int .i64 n, .int .i64 j, .slice A P.length c]] w (GivesIC (spareA e n j P) (spareC e n j P) w) := by
  obtain ⟨i0, hi0, hz0, hz1, hz2⟩ := info_parts info_int64
  have hbx := below_box w (.cells #[.int .i64 e, .int .i64 n, .int .i64 j, .slice A P.length c] 29)
  obtain ⟨c0, c1, c2, c3⟩ := board_cells w e n j (.slice A P.length c) 29
  have hval := l12Ok_any e n j A c P B w.heap.size 0 _ c0 c1 c2 c3 (h.below (hbx.mono hB)) (Nat.le_trans hB hbx.size) hn
  unfold spareA spareC
  cases hb : boardB e n j P
  · rw [hb] at hval
    simp only [Bool.false_eq_true, if_false]
    obtain ⟨m, hN⟩ : ∃ m, P.length = m := ⟨_, rfl⟩
    rw [hN] at hval hbx ⊢
    have HC := Lib.hid hval
    have HX := Lib.hid hbx
    clear hval hbx c0 c1 c2 c3 h hN hn hb
    go_enter Try.func52, Try.ntmps52
    go_wp2_with (go_at_call 57; refine HC.out.mono ?_; rintro r w1 ⟨rfl, hb⟩; have HB := Lib.hid (below_step HX.out hb); clear hb)
    go_ret2
    exact ⟨none, 0, rfl, HB.out, IAt.nil (Nat.le_refl _)⟩
  · rw [hb] at hval
    simp only [if_true]
    obtain ⟨E, N, J, rfl, rfl, rfl, hE1, hE2, hN1, hN2, hH30, hP40, hv, hhub⟩ := board_facts hb
    have hto : ((E : Int) + (N : Int) + (J : Int)).toNat = E + N + J := by omega
    rw [hto]
    have hH0 : 0 < E + N + J := by omega
    have hh := fun (W : World) (hW : Below (w.alloc (.cells #[.int .i64 E, .int .i64 N, .int .i64 J, .slice A P.length c] 29)).heap.size (w.alloc (.cells #[.int .i64 E, .int .i64 N, .int .i64 J, .slice A P.length c] 29)) W) => l12Hubs_any E N J w.heap.size 0 W (cell_kept c0 hW) (cell_kept c1 hW) (cell_kept c2 hW)
    rw [hhub] at hh
    obtain ⟨H, hHH⟩ : ∃ H, E + N + J = H := ⟨_, rfl⟩
    rw [hHH] at hh hv hH0 hH30 ⊢
    have hlenR : ∀ k, (rootsW (startR H) (P.take k)).length = H := fun k => by rw [rootsW_length, startR_length]
    obtain ⟨m, hN⟩ : ∃ m, P.length = m := ⟨_, rfl⟩
    simp only [hN] at hval hbx hh hP40 c0 c1 c2 c3 ⊢
    have HC := Lib.hid hval
    have HX := Lib.hid hbx
    have HH := Lib.hid hh
    have HS := Lib.hid h
    have HN := Lib.hid hN
    have HV := Lib.hid hv
    have HL := Lib.hid hlenR
    clear hval hbx h hN hn hb hto hhub hh hv hlenR hHH
    go_enter Try.func52, Try.ntmps52
    go_wp2_with fail
    refine HC.out.mono ?_
    rintro r w1 ⟨rfl, hb⟩
    have HB := Lib.hid hb
    have HBX := Lib.hid (below_step HX.out hb)
    have x3 := cell_kept c3 hb
    have HE := Lib.hid (empty_owned w1)
    clear hb c0 c1 c2 c3
    go_wp2
    go_loopw [4, 5] (fun v i wr => ∃ k : Nat, ∃ vv : Value, k ≤ H ∧ i = .int .i64 k ∧ vv = v ∧ Hid (wr.ownsRow w1.heap.size 2 1 v (startR k).length ((startR k).map (Value.int .i64))) ∧ Hid (Below w1.heap.size w1 wr)) (fun _ i _ => H - (intOf i).toNat)
    case atStart => exact ⟨0, _, Nat.zero_le _, rfl, rfl, HE, below_box w1 _⟩
    case round =>
      obtain ⟨k, vv, hk, rfl, rfl, HW, HBR⟩ := hrel
      have k0 : (0 : Int) ≤ (k : Int) := Int.natCast_nonneg _
      have HBA := Lib.hid (below_step HB.out HBR.out)
      by_cases hlt : k < H
      · have k1 : (k : Int) < (H : Int) := by omega
        have hq := startR_succ k
        have hl := startR_length k
        obtain ⟨ys, hy⟩ : ∃ ys, startR k = ys := ⟨_, rfl⟩
        rw [hy] at HW hq hl
        have HI := Lib.hid hq
        clear hq hy
        go_wp2_with fail
        refine (HH.out _ HBA.out).mono ?_
        rintro r w2 ⟨rfl, hb⟩
        have HB2 := Lib.hid (below_step HBR.out hb)
        have HW2 : Hid (w2.ownsRow w1.heap.size 2 1 vv ys.length (ys.map (Value.int .i64))) := own_moved HW.out (fun i _ hi => hb.block i hi)
        have hw2 : w1.heap.size ≤ w2.heap.size := HB2.out.size
        clear hb HBR HW HBA
        go_wp2_with (at_builtin; refine wpList_append_own _ rfl _ _ 44 rfl w1.heap.size 2 i0 (.int .i64 0) 1 8 Try.underlying44 hi0 hz0 hz1 hz2 rfl (by decide) _ _ _ rfl (HW2.out.alloc _) ⟨w2.heap.size, 0, none⟩ 1 1 [.int .i64 k] rfl rfl (one_newsB w2 k) (one_onesB k) ?c3 ?c4 ?c5 ?_; rotate_left 3; intro v' w9 hown hgrow _; obtain ⟨ho, hbb⟩ := own_more hown hgrow HW2.out HB2.out (Nat.le_refl _) hw2; have HW9 := Lib.hid ho; have HB9 := Lib.hid hbb; clear hown hgrow ho hbb)
        case c3 => unfold maxLen; omega
        case c4 => omega
        case c5 => simp; omega
        go_roundw
        case rel => exact ⟨k + 1, _, by omega, by go_num, rfl, by rw [HI.out]; exact HW9, HB9⟩
        case measure => simp [intOf]; omega
      · obtain rfl : k = H := by omega
        have k1 : ¬ (k : Int) < (k : Int) := by omega
        obtain ⟨g, cap, ex, rfl, hg, hr⟩ := owned_row HW.out (by rw [startR_length]; exact hH0) rfl
        have hsl := startR_length k
        have HR0 := Lib.hid hr
        have HG := Lib.hid hg
        rw [hsl]
        clear HW hr hg hsl
        rename World => wo
        go_wp2_with fail
        refine (HH.out _ HBA.out).mono ?_
        rintro r w2 ⟨rfl, hb⟩
        have HB2 := Lib.hid (below_step HBR.out hb)
        have HR2 := Lib.hid (HR0.out.later hb)
        have HGL := Lib.hid (HR2.out.lt)
        have HE2 := Lib.hid (empty_owned w2)
        have HRX := Lib.hid (HR2.out.alloc (.cells #[] 2))
        clear hb HBR HR0 HBA HE
        go_wp2
        go_loopw [4, 6, 7] (fun v4 v i wr => ∃ t : Nat, ∃ vv : Value, t ≤ m ∧ i = .int .i64 t ∧ v4 = .slice (some ⟨g, 0, none⟩) k cap ∧ vv = v ∧ Hid (Row wr g (rootsW (startR k) (P.take t)) ex) ∧ Hid (Below w1.heap.size w1 wr) ∧ Hid (w2.heap.size ≤ wr.heap.size) ∧ Hid (wr.ownsRow w2.heap.size 2 1 v (spareW (startR k) P t).length ((spareW (startR k) P t).map (Value.int .i64)))) (fun _ _ i _ => m - (intOf i).toNat)
        case atStart => exact ⟨0, _, Nat.zero_le _, rfl, rfl, rfl, HRX, HB2.out.alloc HB2.out.size _, by show _ ≤ _; simp, HE2⟩
        case round =>
          obtain ⟨t, vv, ht, rfl, rfl, rfl, HR, HBR, HSZ, HO⟩ := hrel
          have y3 := cell_kept x3 HBR.out
          have t0 : (0 : Int) ≤ (t : Int) := Int.natCast_nonneg _
          by_cases hlt : t < m
          · obtain ⟨d, hd⟩ : ∃ d, P[t]? = some d := ⟨P[t]'(by rw [HN.out]; exact hlt), List.getElem?_eq_getElem _⟩
            obtain ⟨b, off, rfl, hb, hcell⟩ := (HS.out.below ((below_step HBX.out HBR.out).mono hB)) (by rw [HN.out]; omega)
            obtain ⟨d1, d2⟩ := hcell t d hd
            have hw := HV.out d (List.mem_of_getElem? hd)
            rw [wireB_iff] at hw
            have hst := rootsW_take (startR k) hd
            have hll := HL.out t
            have hsp : spareB (startR k) P t = (rt (rootsW (startR k) (P.take t)) d.1 == rt (rootsW (startR k) (P.take t)) d.2) := by unfold spareB; rw [hd]
            obtain ⟨x, hx⟩ : ∃ x : Nat, d.1 = x := ⟨d.1.toNat, by omega⟩
            obtain ⟨y, hy⟩ : ∃ y : Nat, d.2 = y := ⟨d.2.toNat, by omega⟩
            rw [hx] at d1
            rw [hy] at d2
            rw [hx, hy] at hw hsp
            unfold stepR at hst
            rw [hx, hy] at hst
            obtain ⟨R, hR⟩ : ∃ R, rootsW (startR k) (P.take t) = R := ⟨_, rfl⟩
            rw [hR] at hst hll hsp HR
            have r1 := HR.out.cell (i := x) (by rw [hll]; omega)
            have r2 := HR.out.cell (i := y) (by rw [hll]; omega)
            have e1 : R[x]?.getD 0 = rt R (x : Int) := by simp [rt]
            have e2 : R[y]?.getD 0 = rt R (y : Int) := by simp [rt]
            rw [e1] at r1
            rw [e2] at r2
            obtain ⟨a, ha⟩ : ∃ a, rt R (x : Int) = a := ⟨_, rfl⟩
            obtain ⟨b2, hb2⟩ : ∃ b2, rt R (y : Int) = b2 := ⟨_, rfl⟩
            rw [ha] at r1 hst hsp
            rw [hb2] at r2 hst hsp
            have hbw := below_box wr (.cells #[.int .i64 x, .int .i64 y] 38)
            have s0 : (wr.alloc (.cells #[.int .i64 x, .int .i64 y] 38)).cell? ⟨wr.heap.size, 0, none⟩ = some (.int .i64 x) := by simp
            have s1 : (wr.alloc (.cells #[.int .i64 x, .int .i64 y] 38)).cell? ⟨wr.heap.size, 1, none⟩ = some (.int .i64 y) := by simp
            obtain ⟨W1, hW1⟩ : ∃ W1, wr.alloc (.cells #[.int .i64 x, .int .i64 y] 38) = W1 := ⟨_, rfl⟩
            rw [hW1] at hbw s0 s1
            have HR1 := Lib.hid (HR.out.later hbw)
            have q1 := cell_kept r1 hbw
            have q2 := cell_kept r2 hbw
            have HB1 := Lib.hid (below_step HBR.out hbw)
            have HSZ1 : Hid (w2.heap.size ≤ W1.heap.size) := Nat.le_trans HSZ.out hbw.size
            have HO1 : Hid (W1.ownsRow w2.heap.size 2 1 vv (spareW (startR k) P t).length ((spareW (startR k) P t).map (Value.int .i64))) := own_moved HO.out (fun i _ hi => hbw.block i hi)
            have hj : ∀ (W : World), Row W g R ex → Calls Try.prog 89 #[.slice (some ⟨g, 0, none⟩) k cap, .int .i64 a, .int .i64 b2] W fun e w' => e = .returned (.slice (some ⟨g, 0, none⟩) k cap) ∧ W.grownBy w' (some g) ∧ Row w' g (joinL R a b2) ex := fun W hrow => by
              have := l12Join_any g cap R ex a b2 W hrow (by rw [hll]; omega)
              rw [hll] at this
              exact this
            rw [← hst] at hj
            have HJ := Lib.hid hj
            have HSP := Lib.hid hsp
            have t1 : (t : Int) < (m : Int) := by omega
            have a0 : (0 : Int) ≤ (x : Int) := Int.natCast_nonneg _
            have a1 : (x : Int) < (k : Int) := by omega
            have b0 : (0 : Int) ≤ (y : Int) := Int.natCast_nonneg _
            have b1 : (y : Int) < (k : Int) := by omega
            have HOW := HO
            have HBS : Hid (w1.heap.size ≤ w2.heap.size) := HB2.out.size
            clear hcell hd hw hst hll hx hy hR e1 e2 ha hb2 hj hb hsp r1 r2 hbw HR HBR HSZ HO
            cases hm : (a == b2)
            · have HI : Hid (spareW (startR k) P (t + 1) = spareW (startR k) P t) := selTo_no _ _ (by rw [HSP.out, hm])
              go_wp2
              go_region
              all_goals
                have HR3 : Hid (Row W1.drew.drew g R ex) := HR1
                have HO3 : Hid (W1.drew.drew.ownsRow w2.heap.size 2 1 vv (spareW (startR k) P t).length ((spareW (startR k) P t).map (Value.int .i64))) := HO1
                go_wp2
                go_region_with (go_at_call 89; with_reducible refine (HJ.out _ HR3.out).mono ?_; rintro r w3 ⟨rfl, hg3, hr3⟩; have HR4 := Lib.hid hr3; have HB4 := Lib.hid (HB1.out.drew.drew.grown hg3 HB1.out.drew.drew.size (fun q hq => by have e : g = q := Option.some.inj hq; rw [← e]; exact HG.out)); have HO4 := Lib.hid (own_only HO3.out hg3 HGL.out); have HSZ4 : Hid (w2.heap.size ≤ w3.heap.size) := Nat.le_trans HSZ1.out hg3.size; clear hg3 hr3)
                all_goals
                  go_wp2
                  go_roundw
                  case rel => exact ⟨t + 1, _, by omega, by go_num, rfl, rfl, HR4, HB4, HSZ4, by rw [HI.out]; exact HO4⟩
                  case measure => simp [intOf]; omega
            · have HI : Hid (spareW (startR k) P (t + 1) = spareW (startR k) P t ++ [(t : Int)]) := selTo_yes _ _ (by rw [HSP.out, hm])
              have hlen := selTo_length (spareB (startR k) P) t
              obtain ⟨ys, hy⟩ : ∃ ys, spareW (startR k) P t = ys := ⟨_, rfl⟩
              have hlen2 : ys.length ≤ t := by rw [← hy]; exact hlen
              rw [hy] at HI HO1
              clear hlen hy
              go_wp2
              go_region
              all_goals
                have HR3 : Hid (Row W1.drew g R ex) := HR1
                have HO3 : Hid (W1.drew.ownsRow w2.heap.size 2 1 vv ys.length (ys.map (Value.int .i64))) := HO1
                have HB3 : Hid (Below w1.heap.size w1 W1.drew) := HB1.out.drew
                have hs3 : w2.heap.size ≤ W1.drew.heap.size := HSZ1.out
                go_wp2_with (at_builtin; refine wpList_append_own _ rfl _ _ 44 rfl w2.heap.size 2 i0 (.int .i64 0) 1 8 Try.underlying44 hi0 hz0 hz1 hz2 rfl (by decide) _ _ _ rfl (HO3.out.alloc _) ⟨W1.heap.size, 0, none⟩ 1 1 [.int .i64 t] rfl rfl (one_newsB W1.drew t) (one_onesB t) ?c3 ?c4 ?c5 ?_; rotate_left 3; intro v' w9 hown hgrow _; go_loud (
                  have hgrow2 := (show (W1.drew.alloc (.cells #[.int .i64 (t : Int)] 2)).grownBy w9 vv.ownBlock from hgrow)
                  obtain ⟨ho, hbb⟩ := own_more (w := W1.drew) hown hgrow2 HO3.out HB3.out HBS.out HB3.out.size
                  have hfg := append_block hgrow2 HO3.out (i := g) HR3.out.lt HGL.out
                  have q3 := cell_block (w := W1.drew) (p := ⟨g, x, none⟩) hfg q1
                  have q4 := cell_block (w := W1.drew) (p := ⟨g, y, none⟩) hfg q2
                  have hfb := append_other hgrow2 (i := wr.heap.size) (World.block_lt_of_cell? _ _ s0) (fun e => Nat.lt_irrefl _ (HOW.out.lt _ e).2)
                  have u0 := cell_block (w := W1.drew) (p := ⟨wr.heap.size, 0, none⟩) hfb s0
                  have u1 := cell_block (w := W1.drew) (p := ⟨wr.heap.size, 1, none⟩) hfb s1
                  have HR9 : Hid (Row w9 g R ex) := hfg.trans HR3.out
                  have HSZ9 : Hid (w2.heap.size ≤ w9.heap.size) := Nat.le_trans hs3 (append_size hgrow2)
                  have HO9 := Lib.hid ho
                  have HB9 := Lib.hid hbb
                  clear hown hgrow hgrow2 ho hbb hfg hfb))
                case c3 => unfold maxLen; omega
                case c4 => omega
                case c5 => have := HSZ1.out; simp; omega
                have HR10 : Hid (Row w9.drew g R ex) := HR9
                have HO10 : Hid (w9.drew.ownsRow w2.heap.size 2 1 _ (ys ++ [(t : Int)]).length ((ys ++ [(t : Int)]).map (Value.int .i64))) := HO9
                go_region_with (go_at_call 89; with_reducible refine (HJ.out _ HR10.out).mono ?_; rintro r w3 ⟨rfl, hg3, hr3⟩; have HR4 := Lib.hid hr3; have HB4 := Lib.hid (HB9.out.drew.grown hg3 HB9.out.drew.size (fun q hq => by have e : g = q := Option.some.inj hq; rw [← e]; exact HG.out)); have HO4 := Lib.hid (own_only HO10.out hg3 HGL.out); have HSZ4 : Hid (w2.heap.size ≤ w3.heap.size) := Nat.le_trans HSZ9.out hg3.size; clear hg3 hr3)
                all_goals
                  go_wp2
                  go_roundw
                  case rel => exact ⟨t + 1, _, by omega, by go_num, rfl, rfl, HR4, HB4, HSZ4, by rw [HI.out]; exact HO4⟩
                  case measure => simp [intOf]; omega
          · obtain rfl : t = m := by omega
            have t1 : ¬ (t : Int) < (t : Int) := by omega
            have HLE : Hid (w.heap.size ≤ w2.heap.size) := Nat.le_trans HBX.out.size HB2.out.size
            have HGV := Lib.hid (gives_nn (W := w) HO.out (below_step HBX.out HBR.out) HLE.out)
            clear HO HR
            go_wp2
            go_ret2
            obtain ⟨A9, cap9, hv9, hb9, hi9⟩ := HGV.out
            have hv9 := Ending.returned.inj hv9
            exact ⟨A9, cap9, by rw [← hv9]; rfl, hb9, hi9⟩
end Go.Proofs.Ytpklmhffgbgakaa
