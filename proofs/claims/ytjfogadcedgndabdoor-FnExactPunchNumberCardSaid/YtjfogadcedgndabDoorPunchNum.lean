/- spec.PunchNumber and impl.PunchNumber give the card with a number in a field, or the code, for every card of at most 1048576 columns, every field and number: contracts. -/
import Derived.Test.YtjfogadcedgndabDoorWriteNum
import Derived.Test.YtjfogadcedgndabDoorPart
import Derived.Test.YtjfogadcedgndabDoorOwnCard
import Derived.Test.YtjfogadcedgndabDoorBoxed
import Derived.RegionTactic
import Derived.ChangeAlike
namespace Go.Proofs.YtjfogadcedgndabDoor
open Go.ChangeShapes Go.WideShapes Go.ChangeAt Go.RowKit

theorem only_drewP {a w : World} {row : Option Nat} (h : a.grownBy w row) : a.grownBy w.drew row := ⟨h.os, h.tape, h.output, h.size, h.block⟩
theorem three_below (w : World) (o1 o2 o3 : Obj) {w1 : World} (h : Below ((w.alloc o1).alloc o2 |>.alloc o3).heap.size ((w.alloc o1).alloc o2 |>.alloc o3) w1) : Below w.heap.size w w1 :=
  below_step (((below_box w _).alloc (by simp) _).alloc (by simp; omega) _) h

theorem specPutN_bad (A : Option Addr) (c : Nat) (xs : List Int) (B : Nat) (a b n : Int) (w : World) (h : Ints w B A xs) (hB : B ≤ w.heap.size) (hn : xs.length ≤ 1048576) (e : partCode xs a b ≠ 0) :
    Calls Tryd.prog 6 #[.agg #[.slice A xs.length c], .agg #[.int .i64 a, .int .i64 b], .int .i64 n] w (GivesCode (partCode xs a b) w) := by
  have hc := l02Code_any A c xs B w.heap.size 0 a b (((w.alloc (.cells #[.slice A xs.length c] 28)).alloc (.cells #[.int .i64 a, .int .i64 b] 32)).alloc (.cells #[.slice none 0 0] 28)) (by simp [go_sem]) (((h.alloc hB _).alloc (by simp; omega) _).alloc (by simp; omega) _) (by simp; omega) hn
  obtain ⟨k, hk⟩ : ∃ k, partCode xs a b = k := ⟨_, rfl⟩
  rw [hk] at hc e ⊢
  have hne : (k != 0) = true := by simpa using e
  have heq : (k == 0) = false := by simpa using e
  have HC := Lib.hid hc
  clear hc h hk e
  go_enter Tryd.func6, Tryd.ntmps6
  go_wp2_with fail
  refine HC.out.mono ?_
  rintro e w1 ⟨rfl, hb1⟩
  have B1 := Lib.hid (three_below w _ _ _ hb1)
  have c1 := cell_kept (p := ⟨w.heap.size + 1 + 1, 0, none⟩) (v := .slice none 0 0) (by simp [go_sem]) hb1
  have f1 : w1.frozen? ⟨w.heap.size + 1 + 1, 0, none⟩ = false := by rw [hb1.frozen (by simp)]; simp [go_sem]
  clear hb1 HC
  go_wp2
  exact bodyPost_ret (v := .tuple #[.agg #[.slice none 0 0], .int .i64 k]) (by simp [results, Tryd.results6, go_sem, c1]) rfl ⟨rfl, B1.out.setCell (by simp; omega) _⟩

theorem specPutN_range (A : Option Addr) (c : Nat) (xs : List Int) (B : Nat) (a b n : Int) (w : World) (h : Ints w B A xs) (hB : B ≤ w.heap.size) (hn : xs.length ≤ 1048576) (e : partCode xs a b = 0) (hr : inB n (-999999999999) 999999999999 = false) :
    Calls Tryd.prog 6 #[.agg #[.slice A xs.length c], .agg #[.int .i64 a, .int .i64 b], .int .i64 n] w (GivesCode 2 w) := by
  have hc := l02Code_any A c xs B w.heap.size 0 a b (((w.alloc (.cells #[.slice A xs.length c] 28)).alloc (.cells #[.int .i64 a, .int .i64 b] 32)).alloc (.cells #[.slice none 0 0] 28)) (by simp [go_sem]) (((h.alloc hB _).alloc (by simp; omega) _).alloc (by simp; omega) _) (by simp; omega) hn
  rw [e] at hc
  have hi := in_any n (-999999999999) 999999999999
  rw [hr] at hi
  have HI := Lib.hid hi
  have HC := Lib.hid hc
  clear hc h e hi hr
  go_enter Tryd.func6, Tryd.ntmps6
  go_wp2_with fail
  refine HC.out.mono ?_
  rintro e w1 ⟨rfl, hb1⟩
  have B1 := Lib.hid (three_below w _ _ _ hb1)
  have c1 := cell_kept (p := ⟨w.heap.size + 1 + 1, 0, none⟩) (v := .slice none 0 0) (by simp [go_sem]) hb1
  have f1 : w1.frozen? ⟨w.heap.size + 1 + 1, 0, none⟩ = false := by rw [hb1.frozen (by simp)]; simp [go_sem]
  clear hb1 HC
  go_wp2_with (go_at_call 17; refine (HI.out _).mono ?_; rintro e w' ⟨rfl, rfl⟩)
  exact bodyPost_ret (v := .tuple #[.agg #[.slice none 0 0], .int .i64 2]) (by simp [results, Tryd.results6, go_sem, c1]) rfl ⟨rfl, B1.out.setCell (by simp; omega) _⟩

theorem specPutN_full (A : Option Addr) (c : Nat) (xs : List Int) (B i j : Nat) (n : Int) (w : World) (h : Ints w B A xs) (hB : B ≤ w.heap.size) (hn : xs.length ≤ 1048576) (e : partCode xs i j = 0) (hij : i < j) (hj20 : j ≤ 20) (hr : inB n (-999999999999) 999999999999 = true) (hf : 10 ^ (j - i) ≤ n.natAbs) :
    Calls Tryd.prog 6 #[.agg #[.slice A xs.length c], .agg #[.int .i64 i, .int .i64 j], .int .i64 n] w (GivesCode 5 w) := by
  have hc := l02Code_any A c xs B w.heap.size 0 i j (((w.alloc (.cells #[.slice A xs.length c] 28)).alloc (.cells #[.int .i64 i, .int .i64 j] 32)).alloc (.cells #[.slice none 0 0] 28)) (by simp [go_sem]) (((h.alloc hB _).alloc (by simp; omega) _).alloc (by simp; omega) _) (by simp; omega) hn
  rw [e] at hc
  have hi := in_any n (-999999999999) 999999999999
  have hr' : -999999999999 ≤ n ∧ n ≤ 999999999999 := by simpa [inB] using hr
  rw [hr] at hi
  have hb : decide (n.natAbs / 10 ^ (j - i) = 0) = false := by
    rw [decide_eq_false_iff_not]
    intro h0
    have := Nat.div_pos hf (Nat.pow_pos (by omega))
    omega
  have hp := fun W => l03Put_any n (j - i) (by omega) (by omega) hr'.1 hr'.2 W
  rw [hb, show (((j - i : Nat)) : Int) = (j : Int) - (i : Int) by omega] at hp
  have HP := Lib.hid hp
  have HI := Lib.hid hi
  have HC := Lib.hid hc
  have s0 : (0 : Int) ≤ (i : Int) := Int.natCast_nonneg _
  have s1 : (j : Int) ≤ 20 := by omega
  have s2 : (i : Int) < (j : Int) := by omega
  clear hc h e hi hr hp hb hf hr'
  go_enter Tryd.func6, Tryd.ntmps6
  go_wp2_with fail
  refine HC.out.mono ?_
  rintro e w1 ⟨rfl, hb1⟩
  have B1 := Lib.hid (three_below w _ _ _ hb1)
  have c1 := cell_kept (p := ⟨w.heap.size + 1 + 1, 0, none⟩) (v := .slice none 0 0) (by simp [go_sem]) hb1
  have f1 : w1.frozen? ⟨w.heap.size + 1 + 1, 0, none⟩ = false := by rw [hb1.frozen (by simp)]; simp [go_sem]
  have q0 := cell_kept (p := ⟨w.heap.size + 1, 0, none⟩) (v := .int .i64 i) (by simp [go_sem]) hb1
  have q1 := cell_kept (p := ⟨w.heap.size + 1, 1, none⟩) (v := .int .i64 j) (by simp [go_sem]) hb1
  clear hb1 HC
  go_wp2_with (go_at_call 17; refine (HI.out _).mono ?_; rintro e w' ⟨rfl, rfl⟩)
  refine (HP.out _).mono ?_
  rintro e w2 ⟨g, rfl, hg, hb2, hrow⟩
  have B2 := Lib.hid (below_step B1.out hb2)
  have c2 := cell_kept c1 hb2
  have f2 := frozen_kept c1 f1 hb2
  clear hb2 hg hrow B1 c1 f1 q0 q1 HP
  go_wp2
  exact bodyPost_ret (v := .tuple #[.agg #[.slice none 0 0], .int .i64 5]) (by simp [results, Tryd.results6, go_sem, c2]) rfl ⟨rfl, B2.out.setCell (by simp; omega) _⟩

set_option maxHeartbeats 1000000 in
theorem specPutN_good (A : Option Addr) (c : Nat) (xs : List Int) (B i j : Nat) (n : Int) (w : World) (h : Ints w B A xs) (hB : B ≤ w.heap.size) (hn : xs.length ≤ 1048576) (e : partCode xs i j = 0) (hij : i < j) (hj : j ≤ xs.length) (hj20 : j ≤ 20) (hr : inB n (-999999999999) 999999999999 = true) (hf : n.natAbs < 10 ^ (j - i)) :
    Calls Tryd.prog 6 #[.agg #[.slice A xs.length c], .agg #[.int .i64 i, .int .i64 j], .int .i64 n] w (GivesCard (putAt xs i (numW n (j - i))) w) := by
  have hc := l02Code_any A c xs B w.heap.size 0 i j (((w.alloc (.cells #[.slice A xs.length c] 28)).alloc (.cells #[.int .i64 i, .int .i64 j] 32)).alloc (.cells #[.slice none 0 0] 28)) (by simp [go_sem]) (((h.alloc hB _).alloc (by simp; omega) _).alloc (by simp; omega) _) (by simp; omega) hn
  rw [e] at hc
  have hi := in_any n (-999999999999) 999999999999
  have hr' : -999999999999 ≤ n ∧ n ≤ 999999999999 := by simpa [inB] using hr
  rw [hr] at hi
  have hb : decide (n.natAbs / 10 ^ (j - i) = 0) = true := by
    rw [decide_eq_true_iff]
    exact Nat.div_eq_of_lt hf
  have hp := fun W => l03Put_any n (j - i) (by omega) (by omega) hr'.1 hr'.2 W
  rw [hb, show (((j - i : Nat)) : Int) = (j : Int) - (i : Int) by omega] at hp
  have HP := Lib.hid hp
  have HI := Lib.hid hi
  have HC := Lib.hid hc
  have H := Lib.hid h
  have s0 : (0 : Int) ≤ (i : Int) := Int.natCast_nonneg _
  have s1 : (j : Int) ≤ 20 := by omega
  have s2 : (i : Int) < (j : Int) := by omega
  obtain ⟨wd, hwd⟩ : ∃ wd, j - i = wd := ⟨_, rfl⟩
  obtain ⟨ys, hys⟩ : ∃ ys, numW n wd = ys := ⟨_, rfl⟩
  have hyl : ys.length = wd := by rw [← hys]; exact numW_length n wd
  have hiw : i + wd ≤ xs.length := by omega
  rw [hwd] at HP ⊢
  rw [hys]
  have HY := Lib.hid hys
  have HYL := Lib.hid hyl
  have HIW := Lib.hid hiw
  have hw20 : wd ≤ 20 := by omega
  have hw1 : 1 ≤ wd := by omega
  have hi20 : i ≤ 20 := by omega
  obtain ⟨m, hm⟩ : ∃ m, xs.length = m := ⟨_, rfl⟩
  have HM := Lib.hid hm
  have hfin := putAt_length xs i ys (by rw [hyl]; exact hiw)
  have HFL := Lib.hid hfin
  have him : (i : Int) + (wd : Int) ≤ (m : Int) := by omega
  clear hc h e hi hr hp hb hf hr' hys hyl hiw hwd hfin hj hij
  rw [hm] at HC hn
  rw [hm]
  clear hm
  go_enter Tryd.func6, Tryd.ntmps6
  go_wp2_with fail
  refine HC.out.mono ?_
  rintro e w1 ⟨rfl, hb1⟩
  have B1 := Lib.hid (three_below w _ _ _ hb1)
  have c1 := cell_kept (p := ⟨w.heap.size + 1 + 1, 0, none⟩) (v := .slice none 0 0) (by simp [go_sem]) hb1
  have f1 : w1.frozen? ⟨w.heap.size + 1 + 1, 0, none⟩ = false := by rw [hb1.frozen (by simp)]; simp [go_sem]
  have q0 := cell_kept (p := ⟨w.heap.size + 1, 0, none⟩) (v := .int .i64 i) (by simp [go_sem]) hb1
  have q1 := cell_kept (p := ⟨w.heap.size + 1, 1, none⟩) (v := .int .i64 j) (by simp [go_sem]) hb1
  have p0 := cell_kept (p := ⟨w.heap.size, 0, none⟩) (v := .slice A m c) (by simp [go_sem]) hb1
  clear hb1 HC
  go_wp2_with (go_at_call 17; refine (HI.out _).mono ?_; rintro e w' ⟨rfl, rfl⟩)
  refine (HP.out _).mono ?_
  rintro e w2 ⟨g1, rfl, hg1, hb2, hrow⟩
  rw [HY.out] at hrow
  have hs1 := B1.out.size
  have B2 := Lib.hid (below_step B1.out hb2)
  have c2 := cell_kept c1 hb2
  have f2 := frozen_kept c1 f1 hb2
  have q2 := cell_kept q0 hb2
  have p2 := cell_kept p0 hb2
  have R2 := Lib.hid hrow
  have gl1 := hrow.lt
  clear hb2 hrow B1 c1 f1 q0 q1 HP p0 hg1
  have ho := l02OwnC_any A c xs B w.heap.size 0 w2 (by rw [HM.out]; exact p2) (H.out.below (B2.out.mono hB)) (Nat.le_trans hB B2.out.size) (by rw [HM.out]; omega) (by rw [HM.out]; exact hn)
  rw [HM.out] at ho
  have HO := Lib.hid ho
  clear ho p2
  go_wp2_with fail
  refine HO.out.mono ?_
  rintro e w3 ⟨g, cap, ex, rfl, hg, hb3, hrow⟩
  have hs2 := B2.out.size
  have gl := hrow.lt
  have B3 := Lib.hid (below_step B2.out hb3)
  have hbx := below_box w3 (.cells #[.slice (some ⟨g, 0, none⟩) m cap] 28)
  have c4 := Lib.hid (cell_kept (cell_kept c2 hb3) hbx)
  have f4 := Lib.hid (frozen_kept (cell_kept c2 hb3) (frozen_kept c2 f2 hb3) hbx)
  have q4 := Lib.hid (cell_kept (cell_kept q2 hb3) hbx)
  have Y4 := Lib.hid ((R2.out.later hb3).later hbx)
  have R4 := Lib.hid (hrow.later hbx)
  have b4 : Hid ((w3.alloc (.cells #[.slice (some ⟨g, 0, none⟩) m cap] 28)).cell? ⟨w3.heap.size, 0, none⟩ = some (.slice (some ⟨g, 0, none⟩) m cap)) := by
    show _ = _
    simp
  have B4 := Lib.hid (below_step B3.out hbx)
  have n1 : Hid (w3.heap.size ≠ g) := Nat.ne_of_gt gl
  have n2 : Hid (g1 ≠ g) := Nat.ne_of_lt (Nat.lt_of_lt_of_le gl1 hg)
  have n3 : Hid (w.heap.size + 1 ≠ g) := by
    have := World.block_lt_of_cell? _ _ q2
    exact Nat.ne_of_lt (Nat.lt_of_lt_of_le this hg)
  have n4 : Hid (w.heap.size + 1 + 1 ≠ g) := by
    have := World.block_lt_of_cell? _ _ c2
    exact Nat.ne_of_lt (Nat.lt_of_lt_of_le this hg)
  have hwg : Hid (w.heap.size ≤ g) := Nat.le_trans hs2 hg
  clear hb3 hrow hg hbx c2 f2 q2 R2 B2 B3 HO gl gl1
  go_wp2
  generalize (w3.alloc (.cells #[.slice (some ⟨g, 0, none⟩) m cap] 28)) = w4 at *
  go_loopw [12] (fun k wr => ∃ t : Nat, t ≤ wd ∧ k = .int .i64 t ∧ Hid (w4.grownBy wr (some g)) ∧ Hid (Row wr g (putAt xs i (ys.take t)) ex)) (fun k _ => wd - (intOf k).toNat)
  case atStart => exact ⟨0, Nat.zero_le _, rfl, World.grownBy.refl _ _, by show Row _ _ _ _; rw [List.take_zero, putAt_nil]; exact R4.out⟩
  case round =>
    obtain ⟨t, ht, rfl, HG, HR⟩ := hrel
    have e1 := cell_only HG.out b4.out n1.out
    have e2 := cell_only HG.out q4.out n3.out
    by_cases hlt : t < wd
    · have y1 := cell_only HG.out (Y4.out.cell (i := t) (by rw [HYL.out]; exact hlt)) n2.out
      have htl : Hid ((ys.take t).length = t) := by show _ = _; rw [List.length_take, HYL.out]; omega
      have hll := Lib.hid (putAt_length xs i (ys.take t) (by rw [htl.out]; have := HIW.out; omega))
      obtain ⟨x1, hx1⟩ : ∃ x1, (putAt xs i (ys.take t))[i + t]?.getD 0 = x1 := ⟨_, rfl⟩
      have x2 := HR.out.cell (i := i + t) (by rw [hll.out]; have := HIW.out; omega)
      rw [hx1] at x2
      have z1 := HR.out.frozen (i + t)
      have hset := putAt_set xs i (ys.take t) (ys[t]?.getD 0) (by rw [htl.out]; have := HIW.out; omega)
      rw [htl.out, List.getElem?_eq_getElem (by rw [HYL.out]; exact hlt)] at hset
      have htk := List.take_succ_eq_append_getElem (l := ys) (i := t) (by rw [HYL.out]; exact hlt)
      obtain ⟨y, hy⟩ : ∃ y, ys[t]?.getD 0 = y := ⟨_, rfl⟩
      have hy' : ys[t]'(by rw [HYL.out]; exact hlt) = y := by rw [← hy, List.getElem?_eq_getElem (by rw [HYL.out]; exact hlt)]; rfl
      rw [hy] at y1
      have HSET : Hid ((putAt xs i (ys.take t)).set (i + t) y = putAt xs i (ys.take (t + 1))) := by
        show _ = _
        rw [htk, hy', ← hy']
        exact hset
      have hk0 : (0 : Int) ≤ (t : Int) := Int.natCast_nonneg _
      have hk1 : (t : Int) < (wd : Int) := by omega
      have hk2 : (i : Int) + (t : Int) < (m : Int) := by omega
      have hk3 : (0 : Int) ≤ (i : Int) + (t : Int) := by omega
      clear hx1 hset htk hy hy'
      go_wp2
      go_region
      all_goals
        go_wp2
        go_roundw
        case rel =>
          refine ⟨t + 1, by omega, by go_num, only_drewP (only_step HG.out (only_set _ _ _ _)), ?_⟩
          show Row _ _ _ _
          rw [← HSET.out]
          exact (HR.out.set (by rw [hll.out]; have := HIW.out; omega) _).drew
        case measure => simp [intOf]; omega
    · obtain rfl : t = wd := by omega
      have hrow : Row wr g (putAt xs i ys) ex := by
        have := HR.out
        rwa [List.take_of_length_le (by rw [HYL.out]; exact Nat.le_refl _)] at this
      have c5 := cell_only HG.out c4.out n4.out
      have f5 := frozen_only' HG.out c4.out f4.out n4.out
      have B5 := Lib.hid (below_only B4.out HG.out hwg.out)
      have HRW := Lib.hid hrow
      have hk1 : ¬ (t : Int) < (t : Int) := by omega
      clear hrow HR e2
      go_wp2
      refine bodyPost_ret (v := .tuple #[.agg #[.slice (some ⟨g, 0, none⟩) m cap], .int .i64 0]) (by simp [results, Tryd.results6, go_sem, c5]) rfl ⟨g, cap, ex, by rw [HFL.out, HM.out], hwg.out, ?_, ?_⟩
      · exact B5.out.setCell (by simp; omega) _
      · exact HRW.out.far (fun e => n4.out e.symm) _

end Go.Proofs.YtjfogadcedgndabDoor
