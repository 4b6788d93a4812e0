/- impl's pair.punched: the columns that copies punch: a contract. -/
import Derived.Test.YtamookdlbmbncaaPunchC
import Derived.Test.YtamookdlbmbncaaBoxed
namespace Go.Proofs.Ytamookdlbmbncaa
open Go.ChangeShapes Go.WideShapes Go.ChangeAt Go.RowKit

theorem copy_box (W : World) (p q : Int) : (W.alloc (.cells #[.int .i64 p, .int .i64 q] 70)).cell? ⟨W.heap.size, 0, none⟩ = some (.int .i64 p) ∧ (W.alloc (.cells #[.int .i64 p, .int .i64 q] 70)).cell? ⟨W.heap.size, 1, none⟩ = some (.int .i64 q) := by simp

theorem frozen_onlyP {w w' : World} {g : Nat} (h : w.grownBy w' (some g)) {p : Addr} {v : Value} (hc : w.cell? p = some v) (f : w.frozen? p = false) (hne : p.block ≠ g) : w'.frozen? p = false := by
  rw [World.frozen?_of_block (h.block p.block (World.block_lt_of_cell? _ _ hc) (fun e => hne (by injection e)))]
  exact f

set_option maxHeartbeats 2000000 in
theorem pairPunched_any (A A' : Option Addr) (c c' : Nat) (xs ys : List Int) (B B' : Nat) (AP : Option Addr) (cP : Nat) (P : List (Int × Int)) (BP : Nat) (w : World)
    (hI : Ints w B A xs) (hI' : Ints w B' A' ys) (hP : Copies w BP AP P) (hB : B ≤ w.heap.size) (hB' : B' ≤ w.heap.size) (hBP : BP ≤ w.heap.size)
    (l : Int) (hv : validTo xs.length ys.length P l = true) (hn : P.length ≤ 20) (hxl : xs.length ≤ 20) (hy0 : 0 < ys.length) (hyl : ys.length ≤ 20) :
    Calls Try.prog 79 #[.agg #[.slice A xs.length c, .slice A' ys.length c'], .slice AP P.length cP] w (GivesOwnC (xferTo xs ys P) w) := by
  have b0 := (below_box w (.cells #[.slice A xs.length c, .slice A' ys.length c'] 94)).alloc (by simp) (.cells #[.slice none 0 0] 33)
  have hc := copyNew_any A' c' ys B' ((w.alloc (.cells #[.slice A xs.length c, .slice A' ys.length c'] 94)).alloc (.cells #[.slice none 0 0] 33)) (hI'.below (b0.mono hB')) (by simp; omega) hy0 (by omega)
  have hl := xferTo_length xs ys P
  obtain ⟨n, hN⟩ : ∃ n, P.length = n := ⟨_, rfl⟩
  obtain ⟨m, hM⟩ : ∃ m, ys.length = m := ⟨_, rfl⟩
  obtain ⟨z, hZ⟩ : ∃ z, xs.length = z := ⟨_, rfl⟩
  obtain ⟨Y, hY⟩ : ∃ Y, xferTo xs ys P = Y := ⟨_, rfl⟩
  rw [hM] at hv hyl hy0 b0
  rw [hZ] at hv hxl b0
  rw [hM, hY] at hl
  rw [hN] at hn
  unfold GivesOwnC at hc
  rw [hN, hM, hZ, hY]
  rw [hM, hZ] at hc
  have HC := Lib.hid hc
  have HI := Lib.hid hI
  have HP := Lib.hid hP
  have HN := Lib.hid hN
  have HM := Lib.hid hM
  have HZ := Lib.hid hZ
  have HY := Lib.hid hY
  have HV := Lib.hid hv
  have B0 := Lib.hid b0
  clear hc hI hI' hP hN hM hZ hY hv b0 hl
  go_enter Try.func79, Try.ntmps79
  go_wp2_with fail
  refine HC.out.mono ?_
  rintro e w1 ⟨g, cap, ex, rfl, hc1, hc2, hg, hb, hr⟩
  have hg2 : w.heap.size + 2 ≤ g := by simpa using hg
  have p0 := cell_kept (p := ⟨w.heap.size, 0, none⟩) (v := .slice A z c) (by simp [go_sem]) hb
  have p1 := cell_kept (p := ⟨w.heap.size + 1, 0, none⟩) (v := .slice none 0 0) (by simp [go_sem]) hb
  have f1 : w1.frozen? ⟨w.heap.size + 1, 0, none⟩ = false := by rw [hb.frozen (by simp)]; simp [go_sem]
  have B1 := Lib.hid (below_step B0.out hb)
  have gl := hr.lt
  obtain ⟨W2, hW2⟩ : ∃ W2, w1.alloc (.cells #[.slice (some ⟨g, 0, none⟩) m cap] 33) = W2 := ⟨_, rfl⟩
  have bx := below_box w1 (.cells #[.slice (some ⟨g, 0, none⟩) m cap] 33)
  have q0 := cell_kept p0 bx
  have q1 := cell_kept p1 bx
  have q2 := new_cell w1 (.slice (some ⟨g, 0, none⟩) m cap) 33
  have hr2 := hr.alloc (.cells #[.slice (some ⟨g, 0, none⟩) m cap] 33)
  have f2 : (w1.alloc (.cells #[.slice (some ⟨g, 0, none⟩) m cap] 33)).frozen? ⟨w.heap.size + 1, 0, none⟩ = false := frozen_kept p1 f1 bx
  rw [hW2] at q0 q1 q2 hr2 f2
  have B2 : Hid (Below w.heap.size w W2) := by rw [← hW2]; exact below_step B1.out bx
  have HR2 := Lib.hid hr2
  have HW2 := Lib.hid hW2
  clear hb hr hg bx hr2 p0 p1 f1 hW2
  go_wp2
  go_loopw [13] (fun i wr => ∃ t : Nat, ∃ zs : List Int, t ≤ n ∧ i = .int .i64 t ∧ Hid (zs.length = m) ∧ Hid (xferTo xs zs (P.drop t) = Y) ∧ Hid (W2.grownBy wr (some g)) ∧ Hid (Row wr g zs ex)) (fun i _ => n - (intOf i).toNat)
  case atStart => exact ⟨0, ys, Nat.zero_le _, rfl, HM, HY, by rw [HW2.out]; exact (⟨rfl, rfl, rfl, Nat.le_refl _, fun _ _ _ => rfl⟩ : World.grownBy _ _ _), by rw [HW2.out]; exact HR2⟩
  case round =>
    obtain ⟨t, zs, ht, rfl, HL, HK, HG, HR⟩ := hrel
    have r0 := cell_only HG.out q0 (by show w.heap.size ≠ g; omega)
    have r2 := cell_only HG.out q2 (by show w1.heap.size ≠ g; omega)
    by_cases hlt : t < n
    · obtain ⟨x, hx⟩ : ∃ x, P[t]? = some x := ⟨P[t]'(by rw [HN.out]; exact hlt), List.getElem?_eq_getElem _⟩
      obtain ⟨x1, x2, x3, x4⟩ := validTo_at HV.out hx
      obtain ⟨b, off, rfl, hb, hcell⟩ := (((HP.out.below (B2.out.mono hBP)).only HG.out (by omega))) (by rw [HN.out]; omega)
      obtain ⟨c1, c2⟩ := hcell t x hx
      obtain ⟨p, hp⟩ : ∃ p : Nat, x.1 = p := ⟨x.1.toNat, by omega⟩
      obtain ⟨q, hq⟩ : ∃ q : Nat, x.2 = q := ⟨x.2.toNat, by omega⟩
      rw [hp] at c1 x2
      rw [hq] at c2 x4
      have bw := below_box wr (.cells #[.int .i64 p, .int .i64 q] 70)
      obtain ⟨b2, off2, rfl, hb2, hcell2⟩ := (((HI.out.below (B2.out.mono hB)).only HG.out (by omega))) (by rw [HZ.out]; omega)
      have r3 := cell_kept (hcell2 p (by rw [HZ.out]; omega)) bw
      have r4 := (HR.out.alloc (.cells #[.int .i64 p, .int .i64 q] 70)).cell (i := q) (by rw [HL.out]; omega)
      have f4 := (HR.out.alloc (.cells #[.int .i64 p, .int .i64 q] 70)).frozen q
      have s0 := cell_kept r0 bw
      have s2 := cell_kept r2 bw
      obtain ⟨s5, s6⟩ := copy_box wr p q
      have hk := HK.out
      rw [punch_one hx hp hq] at hk
      have HS := Lib.hid ((HR.out.alloc (.cells #[.int .i64 p, .int .i64 q] 70)).set (i := q) (by rw [HL.out]; omega) (bits .or .i64 (zs[q]?.getD 0) (xs[p]?.getD 0)))
      obtain ⟨u, hu⟩ : ∃ u, zs[q]?.getD 0 = u := ⟨_, rfl⟩
      obtain ⟨v, hv⟩ : ∃ v, xs[p]?.getD 0 = v := ⟨_, rfl⟩
      rw [hu] at r4 hk HS
      rw [hv] at r3 hk HS
      have HK1 := Lib.hid hk
      have HL1 : Hid ((zs.set q (bits .or .i64 u v)).length = m) := by show _ = _; rw [List.length_set]; exact HL.out
      have HG1 : Hid (W2.grownBy ((wr.alloc (.cells #[.int .i64 p, .int .i64 q] 70)).setCell ⟨g, q, none⟩ (.int .i64 (bits .or .i64 u v))) (some g)) := only_step HG.out (only_step (only_box _ _ _) (only_set _ _ _ _))
      obtain ⟨W1, hW1⟩ : ∃ W1, wr.alloc (.cells #[.int .i64 p, .int .i64 q] 70) = W1 := ⟨_, rfl⟩
      rw [hW1] at r3 r4 f4 s0 s2 s5 s6 HS HG1
      have k0 : (0 : Int) ≤ (t : Int) := Int.natCast_nonneg _
      have k1 : (t : Int) < (n : Int) := by omega
      have k2 : (0 : Int) ≤ (p : Int) := Int.natCast_nonneg _
      have k3 : (0 : Int) ≤ (q : Int) := Int.natCast_nonneg _
      have k4 : p < z := by omega
      have k5 : q < m := by omega
      clear hcell hcell2 hx hk hu hv x1 x3 hp hq hb hb2 bw r0 r2
      go_wp2
      go_region
      all_goals
        go_wp2
        go_roundw
        case rel => exact ⟨t + 1, _, by omega, by go_num, HL1, HK1, drewOnly HG1.out, HS.out.drew⟩
        case measure => simp [intOf]; omega
    · have k1 : ¬ (t : Int) < (n : Int) := by omega
      have hz := HK.out
      rw [punch_end (by rw [HN.out]; omega)] at hz
      have HR3 := HR
      rw [hz] at HR3
      have HLY : Hid (Y.length = m) := by rw [← hz]; exact HL
      have c1 := cell_only HG.out q1 (by show w.heap.size + 1 ≠ g; omega)
      have f3 := frozen_onlyP HG.out q1 f2 (by show w.heap.size + 1 ≠ g; omega)
      have B3 := Lib.hid (below_only B2.out HG.out (by omega))
      clear hz HR r0
      go_wp2
      refine bodyPost_ret (v := .agg #[.slice (some ⟨g, 0, none⟩) m cap]) (by simp [results, Try.results79, go_sem, c1]) rfl ⟨g, cap, ex, by rw [HLY.out], by rw [HLY.out]; exact hc1, hc2, by omega, ?_, ?_⟩
      · exact B3.out.setCell (by simp) _
      · exact HR3.out.far (by simp; omega) _
end Go.Proofs.Ytamookdlbmbncaa
