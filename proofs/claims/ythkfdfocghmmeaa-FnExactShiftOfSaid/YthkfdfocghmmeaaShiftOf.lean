/- spec.ShiftOf answers by how many columns a card has been shifted, or the code, for all cards of at most 1048576 columns: a contract. -/
import Derived.Test.YthkfdfocghmmeaaShift
import Derived.Test.YthkfdfocghmmeaaDist
import Derived.Test.YthkfdfocghmmeaaShifts
namespace Go.Proofs.Ythkfdfocghmmeaa
open Go.ChangeShapes Go.WideShapes Go.ChangeAt Go.RowKit

/-- the first shift that gives a card -/
def findS (xs ys : List Int) (l : List Int) : Option Int := l.find? fun b => decide (shiftL xs b = ys)
theorem findS_at {xs ys l pre : List Int} {x : Int} (hp : pre ++ [x] <+: l) (h : ∀ y ∈ pre, shiftL xs y ≠ ys) (hx : shiftL xs x = ys) : findS xs ys l = some x := by
  obtain ⟨post, rfl⟩ := hp
  have h1 : pre.find? (fun b => decide (shiftL xs b = ys)) = none := by
    rw [List.find?_eq_none]
    intro y hy
    simpa using h y hy
  rw [findS, List.find?_append, List.find?_append, h1]
  simp [hx]
theorem findS_none {xs ys l : List Int} (h : ∀ y ∈ l, shiftL xs y ≠ ys) : findS xs ys l = none := by
  rw [findS, List.find?_eq_none]
  intro y hy
  simpa using h y hy
theorem mem_seqS (b : Int) : ∀ k, b ∈ seqS k → ∃ j, j ≤ k ∧ (b = (j : Int) ∨ b = -(j : Int))
  | 0, h => by
    simp only [seqS, List.mem_singleton] at h
    exact ⟨0, Nat.le_refl _, Or.inl (by simpa using h)⟩
  | k + 1, h => by
    simp only [seqS, List.mem_append, List.mem_singleton] at h
    rcases h with (h | h) | h
    · obtain ⟨j, hj, h⟩ := mem_seqS b k h
      exact ⟨j, by omega, h⟩
    · exact ⟨k + 1, Nat.le_refl _, Or.inl h⟩
    · exact ⟨k + 1, Nat.le_refl _, Or.inr h⟩
/-- None of the shifts by less than k columns gives the card. -/
def NoShift (xs ys : List Int) (k : Nat) : Prop := ∀ j : Nat, j < k → shiftL xs (j : Int) ≠ ys ∧ shiftL xs (-(j : Int)) ≠ ys
theorem noShift_seq {xs ys : List Int} {k : Nat} (h : NoShift xs ys (k + 1)) : ∀ y ∈ seqS k, shiftL xs y ≠ ys := fun y hy => by
  obtain ⟨j, hj, rfl | rfl⟩ := mem_seqS y k hy
  · exact (h j (by omega)).1
  · exact (h j (by omega)).2
theorem find_right {xs ys : List Int} {k n : Nat} (h : NoShift xs ys k) (hx : shiftL xs (k : Int) = ys) (hk : k < n) : findS xs ys (seqS (n - 1)) = some (k : Int) := by
  cases k with
  | zero =>
    refine findS_at (pre := []) ?_ (by simp) hx
    have := seqS_prefix 0 (n - 1)
    rwa [Nat.zero_add] at this
  | succ k =>
    refine findS_at (pre := seqS k) ?_ (noShift_seq h) hx
    have := seqS_prefix (k + 1) (n - 1 - (k + 1))
    rw [show k + 1 + (n - 1 - (k + 1)) = n - 1 by omega] at this
    exact (List.prefix_append _ _).trans this
theorem find_left {xs ys : List Int} {k n : Nat} (h : NoShift xs ys k) (h1 : shiftL xs (k : Int) ≠ ys) (hx : shiftL xs (-(k : Int)) = ys) (hk : k < n) : findS xs ys (seqS (n - 1)) = some (-(k : Int)) := by
  cases k with
  | zero => exact absurd (by simpa using hx) h1
  | succ k =>
    refine findS_at (pre := seqS k ++ [((k + 1 : Nat) : Int)]) ?_ ?_ hx
    · have := seqS_prefix (k + 1) (n - 1 - (k + 1))
      rwa [show k + 1 + (n - 1 - (k + 1)) = n - 1 by omega] at this
    · intro y hy
      rcases List.mem_append.1 hy with hy | hy
      · exact noShift_seq h y hy
      · rw [List.mem_singleton] at hy
        rw [hy]
        exact h1
theorem find_none {xs ys : List Int} {n : Nat} (h : NoShift xs ys n) (hn : 1 ≤ n) : findS xs ys (seqS (n - 1)) = none :=
  findS_none (noShift_seq (by rwa [show n - 1 + 1 = n by omega]))

/-- what the two functions answer -/
def shiftVal (xs ys : List Int) : Int := if pairCode xs ys = 0 then (findS xs ys (seqS (xs.length - 1))).getD 0 else 0
def shiftErr (xs ys : List Int) : Int := if pairCode xs ys = 0 then (if (findS xs ys (seqS (xs.length - 1))).isSome = true then 0 else 3) else pairCode xs ys

theorem find_val {xs ys l : List Int} {b : Int} (h : findS xs ys l = some b) : (findS xs ys l).getD 0 = b ∧ (if (findS xs ys l).isSome = true then (0 : Int) else 3) = 0 := by
  rw [h]
  exact ⟨rfl, rfl⟩
theorem find_no {xs ys l : List Int} (h : findS xs ys l = none) : (findS xs ys l).getD 0 = 0 ∧ (if (findS xs ys l).isSome = true then (0 : Int) else 3) = 3 := by
  rw [h]
  exact ⟨rfl, rfl⟩

theorem specShiftOf_bad (A A' : Option Addr) (c c' : Nat) (xs ys : List Int) (B B' : Nat) (w : World) (h : Ints w B A xs) (h' : Ints w B' A' ys) (hB : B ≤ w.heap.size) (hB' : B' ≤ w.heap.size) (hn : xs.length ≤ 1048576) (hn' : ys.length ≤ 1048576) (e : pairCode xs ys ≠ 0) :
    Calls Try.prog 29 #[.agg #[.slice A xs.length c], .agg #[.slice A' ys.length c']] w fun e w' => e = .returned (.tuple #[.int .i64 (shiftVal xs ys), .int .i64 (shiftErr xs ys)]) ∧ Below w.heap.size w w' := by
  have i1 := (h.alloc hB (.cells #[.slice A xs.length c] 28)).alloc (by simp; omega) (.cells #[.slice A' ys.length c'] 28)
  have i2 := (h'.alloc hB' (.cells #[.slice A xs.length c] 28)).alloc (by simp; omega) (.cells #[.slice A' ys.length c'] 28)
  have o1 := l06Two_any A A' c c' xs ys B B' w.heap.size 0 (w.heap.size + 1) 0 _ (by simp [go_sem]) (by simp [go_sem]) i1 i2 hn hn'
  rw [shiftVal, shiftErr, if_neg e, if_neg e]
  obtain ⟨a, ha⟩ : ∃ a, pairCode xs ys = a := ⟨_, rfl⟩
  rw [ha] at o1 e ⊢
  have ha' : (a == 0) = false := by simpa using e
  have H1 := Lib.hid o1
  clear o1 i1 i2 h h' e ha
  go_enter Try.func29, Try.ntmps29
  go_wp2_with fail
  refine H1.out.mono ?_
  rintro e w1 ⟨rfl, hb⟩
  have B1 := Lib.hid (below_step ((below_box w _).alloc (by simp) _) hb)
  clear hb H1
  go_wp2
  go_ret2
  exact ⟨rfl, B1.out⟩

theorem specShiftOf_good (A A' : Option Addr) (c c' : Nat) (xs ys : List Int) (B B' : Nat) (w : World) (h : Ints w B A xs) (h' : Ints w B' A' ys) (hB : B ≤ w.heap.size) (hB' : B' ≤ w.heap.size) (hn : xs.length ≤ 1048576) (hn' : ys.length ≤ 1048576) (e : pairCode xs ys = 0) :
    Calls Try.prog 29 #[.agg #[.slice A xs.length c], .agg #[.slice A' ys.length c']] w fun e w' => e = .returned (.tuple #[.int .i64 (shiftVal xs ys), .int .i64 (shiftErr xs ys)]) ∧ Below w.heap.size w w' := by
  obtain ⟨hv, hv', hl⟩ := pairCode_zero e
  have h0 : 0 < xs.length := by
    have := hv
    simp [okB, inB] at this
    omega
  have i1 := (h.alloc hB (.cells #[.slice A xs.length c] 28)).alloc (by simp; omega) (.cells #[.slice A' ys.length c'] 28)
  have i2 := (h'.alloc hB' (.cells #[.slice A xs.length c] 28)).alloc (by simp; omega) (.cells #[.slice A' ys.length c'] 28)
  have o1 := l06Two_any A A' c c' xs ys B B' w.heap.size 0 (w.heap.size + 1) 0 _ (by simp [go_sem]) (by simp [go_sem]) i1 i2 hn hn'
  rw [e] at o1
  rw [shiftVal, shiftErr, if_pos e, if_pos e]
  have HFAR : Hid (∀ (b : Int) (W : World) (g cap p : Nat) (ex : List Value), W.cell? ⟨p, 0, none⟩ = some (.slice (some ⟨g, 0, none⟩) (shiftL xs b).length cap) → W.cell? ⟨w.heap.size + 1, 0, none⟩ = some (.slice A' ys.length c') → Row W g (shiftL xs b) ex → Ints W B' A' ys → B' ≤ W.heap.size →
      Calls Try.prog 47 #[.pointer (some ⟨p, 0, none⟩), .pointer (some ⟨w.heap.size + 1, 0, none⟩)] W fun e w' => e = .returned (.int .i64 (distN (shiftL xs b) ys)) ∧ Below W.heap.size W w') := fun b W g cap p ex hp hq hr hI hb =>
    l06Far_any (some ⟨g, 0, none⟩) A' cap c' (shiftL xs b) ys (g + 1) B' p 0 (w.heap.size + 1) 0 W hp hq hr.ints hI hr.lt hb (by rw [shiftL_length]; exact hn) (by rw [shiftL_length]; exact hl) (shiftL_mask xs b (okB_parts hv).1) (okB_parts hv').1
  have HYES : Hid (∀ b : Int, shiftL xs b = ys → distN (shiftL xs b) ys = 0) := fun b hc => (distN_zero (shiftL xs b) ys (shiftL_mask xs b (okB_parts hv).1) (okB_parts hv').1 (by rw [shiftL_length]; exact hl)).2 hc
  have HNOT : Hid (∀ b : Int, shiftL xs b ≠ ys → ¬ distN (shiftL xs b) ys = 0) := fun b hc e => hc ((distN_zero (shiftL xs b) ys (shiftL_mask xs b (okB_parts hv).1) (okB_parts hv').1 (by rw [shiftL_length]; exact hl)).1 e)
  have HSL := Lib.hid (fun b => shiftL_length xs b)
  obtain ⟨n, hN⟩ : ∃ n, xs.length = n := ⟨_, rfl⟩
  have hN20 : n ≤ 20 := by rw [← hN]; exact (okB_parts hv).2
  rw [hN] at o1 h0 ⊢
  have HSH : Hid (∀ (b : Int) (W : World), -1048576 ≤ b ∧ b ≤ 1048576 → W.cell? ⟨w.heap.size, 0, none⟩ = some (.slice A n c) → Ints W B A xs → B ≤ W.heap.size → Calls Try.prog 57 #[.pointer (some ⟨w.heap.size, 0, none⟩), .int .i64 b] W (GivesC (shiftL xs b) W)) := fun b W hb hp hI hB => by
    rw [← hN] at hp
    exact l06Shift_any A c xs B w.heap.size 0 b W hp hI hB (by rw [hN]; exact h0) hn hb
  obtain ⟨rv, hrv⟩ : ∃ v, (findS xs ys (seqS (n - 1))).getD 0 = v := ⟨_, rfl⟩
  obtain ⟨rc, hrc⟩ : ∃ v, (if (findS xs ys (seqS (n - 1))).isSome = true then (0 : Int) else 3) = v := ⟨_, rfl⟩
  rw [hrv, hrc]
  have HRV := Lib.hid hrv
  have HRC := Lib.hid hrc
  clear hrv hrc
  have H1 := Lib.hid o1
  have HN := Lib.hid hN
  have I1 := Lib.hid i1
  have I2 := Lib.hid i2
  clear o1 i1 i2 h h' e hv hv' hN hl
  go_enter Try.func29, Try.ntmps29
  go_wp2_with fail
  refine H1.out.mono ?_
  rintro e w1 ⟨rfl, hb⟩
  have B1 := Lib.hid (below_step ((below_box w _).alloc (by simp) _) hb)
  have c1 := cell_kept (p := ⟨w.heap.size, 0, none⟩) (v := .slice A n c) (by simp [go_sem]) hb
  have d1 := cell_kept (p := ⟨w.heap.size + 1, 0, none⟩) (v := .slice A' ys.length c') (by simp [go_sem]) hb
  have hle : B ≤ ((w.alloc (.cells #[.slice A n c] 28)).alloc (.cells #[.slice A' ys.length c'] 28)).heap.size := by simp; omega
  have hle' : B' ≤ ((w.alloc (.cells #[.slice A n c] 28)).alloc (.cells #[.slice A' ys.length c'] 28)).heap.size := by simp; omega
  have J1 : Hid (Ints w1 B A xs) := (HN.out ▸ I1.out).below (hb.mono hle)
  have J2 : Hid (Ints w1 B' A' ys) := (HN.out ▸ I2.out).below (hb.mono hle')
  have C1 := Lib.hid c1
  have D1 := Lib.hid d1
  have hBw := Nat.le_trans hB B1.out.size
  have hBw' := Nat.le_trans hB' B1.out.size
  clear hb H1 I1 I2
  go_wp2
  clear c1 d1
  go_loopw [8] (fun i wr => ∃ k : Nat, k ≤ n ∧ i = .int .i64 k ∧ Hid (Below w1.heap.size w1 wr) ∧ Hid (NoShift xs ys k)) (fun i _ => n - (intOf i).toNat)
  case atStart => exact ⟨0, Nat.zero_le _, rfl, Below.refl _ _, fun j hj => absurd hj (by omega)⟩
  case round =>
    obtain ⟨k, hk, rfl, HB, HNO⟩ := hrel
    by_cases hlt : k < n
    · have c2 := cell_kept C1.out HB.out
      have d2 := cell_kept D1.out HB.out
      have K1 := Lib.hid (J1.out.below (HB.out.mono hBw))
      have K2 := Lib.hid (J2.out.below (HB.out.mono hBw'))
      have s1 := HSH.out (k : Int) wr (by omega) c2 K1.out (Nat.le_trans hBw HB.out.size)
      have S1 := Lib.hid s1
      have j0 : (0 : Int) ≤ (k : Int) := Int.natCast_nonneg _
      have j1 : (k : Int) < (n : Int) := by omega
      have hw : IntKind.i64.wrap (-(k : Int)) = -(k : Int) := IntWalk.i64_in _ (by omega)
      clear s1
      go_wp2_with fail
      refine S1.out.mono ?_
      rintro e w2 ⟨g, cap, ex, rfl, hg, hb2, hr⟩
      have hbx := below_box w2 (.cells #[.slice (some ⟨g, 0, none⟩) (shiftL xs k).length cap] 28)
      have B2 := Lib.hid (below_step (below_step HB.out hb2) hbx)
      have c3 := Lib.hid (cell_kept (cell_kept c2 hb2) hbx)
      have d3 := Lib.hid (cell_kept (cell_kept d2 hb2) hbx)
      have r3 := Lib.hid (hr.later hbx)
      have L1 := Lib.hid ((K1.out.below (hb2.mono (Nat.le_trans hBw HB.out.size))).below (hbx.mono (Nat.le_trans (Nat.le_trans hBw HB.out.size) hb2.size)))
      have L2 := Lib.hid ((K2.out.below (hb2.mono (Nat.le_trans hBw' HB.out.size))).below (hbx.mono (Nat.le_trans (Nat.le_trans hBw' HB.out.size) hb2.size)))
      have b3 : Hid ((w2.alloc (.cells #[.slice (some ⟨g, 0, none⟩) (shiftL xs k).length cap] 28)).cell? ⟨w2.heap.size, 0, none⟩ = some (.slice (some ⟨g, 0, none⟩) (shiftL xs k).length cap)) := by
        show _ = _
        simp
      clear hb2 hr hbx S1 K1 K2 c2 d2
      go_wp2_with fail
      have f1 := HFAR.out (k : Int) _ g cap w2.heap.size ex b3.out d3.out r3.out L2.out (Nat.le_trans hBw' B2.out.size)
      obtain ⟨d1, hd1⟩ : ∃ d, distN (shiftL xs (k : Int)) ys = d := ⟨_, rfl⟩
      have HD1 := Lib.hid hd1
      rw [hd1] at f1
      clear hd1
      refine f1.mono ?_
      rintro e w3 ⟨rfl, hb3⟩
      have B3 := Lib.hid (below_step B2.out hb3)
      have c4 := cell_kept c3.out hb3
      have d4 := cell_kept d3.out hb3
      have M1 := Lib.hid (L1.out.below (hb3.mono (Nat.le_trans hBw B2.out.size)))
      have M2 := Lib.hid (L2.out.below (hb3.mono (Nat.le_trans hBw' B2.out.size)))
      clear hb3 f1 b3 d3 c3 r3 L1 L2
      by_cases hyes : shiftL xs (k : Int) = ys
      · obtain rfl : d1 = 0 := by rw [← HD1.out]; exact HYES.out _ hyes
        have HF := Lib.hid (find_val (find_right HNO.out hyes hlt))
        clear hyes HD1
        go_wp2
        refine bodyPost_ret (v := .tuple #[.int .i64 (k : Int), .int .i64 0]) (by simp [results, Try.results29, go_sem]) rfl ⟨by rw [← HRV.out, ← HRC.out, HF.out.1, HF.out.2], B1.out.trans (B3.out.mono B1.out.size)⟩
      · have hz1 : ¬ d1 = 0 := by rw [← HD1.out]; exact HNOT.out _ hyes
        have HY := Lib.hid hyes
        have s2 := HSH.out (-(k : Int)) w3 (by omega) c4 M1.out (Nat.le_trans hBw B3.out.size)
        have S2 := Lib.hid s2
        clear hyes s2
        go_wp2_with fail
        refine S2.out.mono ?_
        rintro e w4 ⟨g', cap', ex', rfl, hg', hb4, hr'⟩
        have hbx := below_box w4 (.cells #[.slice (some ⟨g', 0, none⟩) (shiftL xs (-(k : Int))).length cap'] 28)
        have B4 := Lib.hid (below_step (below_step B3.out hb4) hbx)
        have d5 := Lib.hid (cell_kept (cell_kept d4 hb4) hbx)
        have r5 := Lib.hid (hr'.later hbx)
        have N2 := Lib.hid ((M2.out.below (hb4.mono (Nat.le_trans hBw' B3.out.size))).below (hbx.mono (Nat.le_trans (Nat.le_trans hBw' B3.out.size) hb4.size)))
        have b5 : Hid ((w4.alloc (.cells #[.slice (some ⟨g', 0, none⟩) (shiftL xs (-(k : Int))).length cap'] 28)).cell? ⟨w4.heap.size, 0, none⟩ = some (.slice (some ⟨g', 0, none⟩) (shiftL xs (-(k : Int))).length cap')) := by
          show _ = _
          simp
        clear hb4 hr' hbx S2 M1 M2 c4 d4
        go_wp2_with fail
        have f2 := HFAR.out (-(k : Int)) _ g' cap' w4.heap.size ex' b5.out d5.out r5.out N2.out (Nat.le_trans hBw' B4.out.size)
        obtain ⟨d2, hd2⟩ : ∃ d, distN (shiftL xs (-(k : Int))) ys = d := ⟨_, rfl⟩
        have HD2 := Lib.hid hd2
        rw [hd2] at f2
        clear hd2
        refine f2.mono ?_
        rintro e w5 ⟨rfl, hb5⟩
        have B5 := Lib.hid (below_step B4.out hb5)
        clear hb5 f2 b5 d5 r5 N2
        by_cases hyes2 : shiftL xs (-(k : Int)) = ys
        · obtain rfl : d2 = 0 := by rw [← HD2.out]; exact HYES.out _ hyes2
          have HF := Lib.hid (find_val (find_left HNO.out HY.out hyes2 hlt))
          clear hyes2 HD2
          go_wp2
          refine bodyPost_ret (v := .tuple #[.int .i64 (-(k : Int)), .int .i64 0]) (by simp [results, Try.results29, go_sem]) rfl ⟨by rw [← HRV.out, ← HRC.out, HF.out.1, HF.out.2], B1.out.trans (B5.out.mono B1.out.size)⟩
        · have hz2 : ¬ d2 = 0 := by rw [← HD2.out]; exact HNOT.out _ hyes2
          have HY2 := Lib.hid hyes2
          clear hyes2
          go_wp2
          go_roundw
          case rel => exact ⟨k + 1, by omega, by go_num, B5, fun j hj => by
            by_cases e : j = k
            · rw [e]; exact ⟨HY.out, HY2.out⟩
            · exact HNO.out j (by omega)⟩
          case measure => simp [intOf]; omega
    · obtain rfl : k = n := by omega
      have HF := Lib.hid (find_no (find_none HNO.out (by omega)))
      have j1 : ¬ (k : Int) < (k : Int) := by omega
      go_wp2
      refine bodyPost_ret (v := .tuple #[.int .i64 0, .int .i64 3]) (by simp [results, Try.results29, go_sem]) rfl ⟨by rw [← HRV.out, ← HRC.out, HF.out.1, HF.out.2], B1.out.trans (HB.out.mono B1.out.size)⟩
end Go.Proofs.Ythkfdfocghmmeaa
