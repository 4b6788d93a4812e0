/- spec.l12Roots gives the least hubs with which the hubs of a board are joined: a contract. -/
import Derived.Test.YtpklmhffgbgakaaBrdRoots
namespace Go.Proofs.Ytpklmhffgbgakaa
open Go.ChangeShapes Go.WideShapes Go.ChangeAt Go.RowKit

set_option maxRecDepth 100000 in
set_option maxHeartbeats 4000000 in
theorem l12Roots_any (e n j : Int) (H : Nat) (hH : hubV e n j = H) (A : Option Addr) (c : Nat) (P : List (Int × Int)) (B p o : Nat) (w : World) (h0 : w.cell? ⟨p, o, none⟩ = some (.int .i64 e)) (h1 : w.cell? ⟨p, o + 1, none⟩ = some (.int .i64 n)) (h2 : w.cell? ⟨p, o + 2, none⟩ = some (.int .i64 j)) (h3 : w.cell? ⟨p, o + 3, none⟩ = some (.slice A P.length c))
    (h : Wires w B A P) (hB : B ≤ w.heap.size) (hn : P.length ≤ 40) (hH0 : 0 < H) (hH1 : H ≤ 100) (hv : ∀ d ∈ P, wireB H d = true) :
    Calls Try.prog 74 #[.pointer (some ⟨p, o, none⟩), .slice none 0 0] w (GivesInts (rootsW (startR H) P) w) := by
  obtain ⟨i0, hi0, hz0, hz1, hz2⟩ := info_parts info_int64
  have hh := fun (W : World) (hW : Below w.heap.size w W) => l12Hubs_any e n j p o W (cell_kept h0 hW) (cell_kept h1 hW) (cell_kept h2 hW)
  rw [hH] at hh
  have hlenR : ∀ k, (rootsW (startR H) (P.take k)).length = H := fun k => by rw [rootsW_length, startR_length]
  obtain ⟨m, hN⟩ : ∃ m, P.length = m := ⟨_, rfl⟩
  rw [hN] at hn h3
  have HS := Lib.hid h
  have HN := Lib.hid hN
  have HH := Lib.hid hh
  have HV := Lib.hid hv
  have HL := Lib.hid hlenR
  have HE := Lib.hid (empty_owned w)
  have HNIL := Lib.hid l00HasNil_any
  clear h hN hh hv hlenR hH
  go_enter Try.func74, Try.ntmps74
  go_wp2
  go_loopw [5, 6] (fun v i wr => ∃ k : Nat, ∃ vv : Value, k ≤ H ∧ i = .int .i64 k ∧ vv = v ∧ Hid (wr.ownsRow w.heap.size 2 1 v (startR k).length ((startR k).map (Value.int .i64))) ∧ Hid (Below w.heap.size w wr)) (fun _ i _ => H - (intOf i).toNat)
  case atStart => exact ⟨0, _, Nat.zero_le _, rfl, rfl, HE, below_box w _⟩
  case round =>
    obtain ⟨k, vv, hk, rfl, rfl, HW, HB⟩ := hrel
    have k0 : (0 : Int) ≤ (k : Int) := Int.natCast_nonneg _
    by_cases hlt : k < H
    · have k1 : (k : Int) < (H : Int) := by omega
      have hq := startR_succ k
      have hl := startR_length k
      obtain ⟨ys, hy⟩ : ∃ ys, startR k = ys := ⟨_, rfl⟩
      rw [hy] at HW hq hl
      have HI := Lib.hid hq
      clear hq hy
      go_wp2_with fail
      refine (HH.out _ HB.out).mono ?_
      rintro r w1 ⟨rfl, hb⟩
      have HB1 := Lib.hid (below_step HB.out hb)
      have HW1 : Hid (w1.ownsRow w.heap.size 2 1 vv ys.length (ys.map (Value.int .i64))) := own_moved HW.out (fun i _ hi => hb.block i hi)
      have hw1 : w.heap.size ≤ w1.heap.size := HB1.out.size
      clear hb HB HW
      go_wp2_with (at_builtin; refine wpList_append_own _ rfl _ _ 44 rfl w.heap.size 2 i0 (.int .i64 0) 1 8 Try.underlying44 hi0 hz0 hz1 hz2 rfl (by decide) _ _ _ rfl (HW1.out.alloc _) ⟨w1.heap.size, 0, none⟩ 1 1 [.int .i64 k] rfl rfl (one_newsB w1 k) (one_onesB k) ?c3 ?c4 ?c5 ?_; rotate_left 3; intro v' w9 hown hgrow _; obtain ⟨ho, hbb⟩ := own_more hown hgrow HW1.out HB1.out (Nat.le_refl _) hw1; have HW2 := Lib.hid ho; have HB2 := Lib.hid hbb; clear hown hgrow ho hbb)
      case c3 => unfold maxLen; omega
      case c4 => omega
      case c5 => simp; omega
      go_roundw
      case rel => exact ⟨k + 1, _, by omega, by go_num, rfl, by rw [HI.out]; exact HW2, HB2⟩
      case measure => simp [intOf]; omega
    · obtain rfl : k = H := by omega
      have k1 : ¬ (k : Int) < (k : Int) := by omega
      obtain ⟨g, cap, ex, rfl, hg, hr⟩ := owned_row HW.out (by rw [startR_length]; exact hH0) rfl
      have hsl := startR_length k
      have HR0 := Lib.hid hr
      have HG := Lib.hid hg
      rw [hsl]
      clear HW hr hg hsl
      rename World => wo
      go_wp2_with fail
      refine (HH.out _ HB.out).mono ?_
      rintro r w1 ⟨rfl, hb⟩
      have HB1 := Lib.hid (below_step HB.out hb)
      have HR1 := Lib.hid (HR0.out.later hb)
      clear hb HB HR0
      go_wp2
      go_loopw [5, 7] (fun v i wr => ∃ t : Nat, t ≤ m ∧ i = .int .i64 t ∧ v = .slice (some ⟨g, 0, none⟩) k cap ∧ Hid (Row wr g (rootsW (startR k) (P.take t)) ex) ∧ Hid (Below w.heap.size w wr)) (fun _ i _ => m - (intOf i).toNat)
      case atStart => exact ⟨0, Nat.zero_le _, rfl, rfl, HR1, HB1⟩
      case round =>
        obtain ⟨t, ht, rfl, rfl, HR, HB⟩ := hrel
        have x3 := cell_kept h3 HB.out
        have t0 : (0 : Int) ≤ (t : Int) := Int.natCast_nonneg _
        by_cases hlt : t < m
        · obtain ⟨d, hd⟩ : ∃ d, P[t]? = some d := ⟨P[t]'(by rw [HN.out]; exact hlt), List.getElem?_eq_getElem _⟩
          obtain ⟨b, off, rfl, hb, hcell⟩ := (HS.out.below (HB.out.mono hB)) (by rw [HN.out]; omega)
          obtain ⟨c1, c2⟩ := hcell t d hd
          have hw := HV.out d (List.mem_of_getElem? hd)
          rw [wireB_iff] at hw
          have hst := rootsW_take (startR k) hd
          have hll := HL.out t
          obtain ⟨x, hx⟩ : ∃ x : Nat, d.1 = x := ⟨d.1.toNat, by omega⟩
          obtain ⟨y, hy⟩ : ∃ y : Nat, d.2 = y := ⟨d.2.toNat, by omega⟩
          rw [hx] at c1 hw
          rw [hy] at c2 hw
          unfold stepR at hst
          rw [hx, hy] at hst
          obtain ⟨R, hR⟩ : ∃ R, rootsW (startR k) (P.take t) = R := ⟨_, rfl⟩
          rw [hR] at hst hll HR
          have r1 := HR.out.cell (i := x) (by rw [hll]; omega)
          have r2 := HR.out.cell (i := y) (by rw [hll]; omega)
          have e1 : R[x]?.getD 0 = rt R (x : Int) := by simp [rt]
          have e2 : R[y]?.getD 0 = rt R (y : Int) := by simp [rt]
          rw [e1] at r1
          rw [e2] at r2
          obtain ⟨a, ha⟩ : ∃ a, rt R (x : Int) = a := ⟨_, rfl⟩
          obtain ⟨b2, hb2⟩ : ∃ b2, rt R (y : Int) = b2 := ⟨_, rfl⟩
          rw [ha] at r1 hst
          rw [hb2] at r2 hst
          have hj := l12Join_any g cap R ex a b2 wr.drew HR.out.drew (by rw [hll]; omega)
          rw [hll, ← hst] at hj
          have HJ := Lib.hid hj
          have HBd : Hid (Below w.heap.size w wr.drew) := HB.out.drew
          have t1 : (t : Int) < (m : Int) := by omega
          have x0 : (0 : Int) ≤ (x : Int) := Int.natCast_nonneg _
          have x1 : (x : Int) < (k : Int) := by omega
          have y0 : (0 : Int) ≤ (y : Int) := Int.natCast_nonneg _
          have y1 : (y : Int) < (k : Int) := by omega
          clear hcell hd hw hst hll hx hy hR e1 e2 ha hb2 hj hb
          go_wp2_with (go_at_call 100; refine (HNIL.out _ _).mono ?_; rintro r w2 ⟨rfl, rfl⟩)
          go_region_with (go_at_call 89; refine HJ.out.mono ?_; rintro r w3 ⟨rfl, hg3, hr3⟩; have HR2 := Lib.hid hr3; have HB2 := Lib.hid (HBd.out.grown hg3 HBd.out.size (fun q hq => by have e : g = q := Option.some.inj hq; rw [← e]; exact HG.out)); clear hg3 hr3)
          all_goals
            go_wp2
            go_roundw
            case rel => exact ⟨t + 1, by omega, by go_num, rfl, HR2, HB2⟩
            case measure => simp [intOf]; omega
        · obtain rfl : t = m := by omega
          have t1 : ¬ (t : Int) < (t : Int) := by omega
          have HRE : Hid (Row wr g (rootsW (startR k) P) ex) := by
            have := HR.out
            rw [List.take_of_length_le (by rw [HN.out]; exact Nat.le_refl _)] at this
            exact this
          have hlk : (rootsW (startR k) P).length = k := by rw [rootsW_length, startR_length]
          have HLK := Lib.hid hlk
          clear hlk HR
          go_wp2
          go_ret
          exact ⟨g, cap, ex, by rw [HLK.out]; rfl, HG.out, HB.out, HRE.out⟩
end Go.Proofs.Ytpklmhffgbgakaa
