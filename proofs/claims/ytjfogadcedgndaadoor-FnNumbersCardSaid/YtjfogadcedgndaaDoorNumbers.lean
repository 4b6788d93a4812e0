/- impl.PunchNumber's card, with the bounds of its room; the number that is punched is read again; and the columns stay those of a card: contract and plain facts. -/
import Derived.Test.YtjfogadcedgndaaDoorPunchNumI
import Derived.Test.YtjfogadcedgndaaDoorNumberIn
namespace Go.Proofs.YtjfogadcedgndaaDoor
open Go.ChangeShapes Go.WideShapes Go.ChangeAt Go.RowKit

/-- A card of new memory with the numbers ys, with no less room, and OK. -/
def GivesCardC (ys : List Int) (w : World) (e : Ending) (w' : World) : Prop :=
  ∃ g cap ex, e = .returned (.tuple #[.agg #[.slice (some ⟨g, 0, none⟩) ys.length cap], .int .i64 0]) ∧ ys.length ≤ cap ∧ cap ≤ 9223372036854775807 ∧ w.heap.size ≤ g ∧ Below w.heap.size w w' ∧ Row w' g ys ex

set_option maxHeartbeats 1000000 in
theorem implPutN_C (b off c : Nat) (xs : List Int) (B i j : Nat) (n : Int) (w : World) (h : Ints w B (some ⟨b, off, none⟩) xs) (hB : B ≤ w.heap.size) (hc : xs.length ≤ c) (hcm : xs.length ≤ 1048576 ∧ c ≤ 9223372036854775807) (hij : i < j) (hj : j ≤ xs.length) (e : partCode xs i j = 0) (hr : inB n (-999999999999) 999999999999 = true) {aL aF : Addr} (S : Sents2 w aL aF) (hP : Pow10 w) :
    Calls Tryd.prog 9 #[.agg #[.slice (some ⟨b, off, none⟩) xs.length c], .agg #[.int .i64 i, .int .i64 j], .int .i64 n] w fun e w' => (10 ^ (j - i) ≤ n.natAbs ∧ GivesCode 5 w e w') ∨ (n.natAbs < 10 ^ (j - i) ∧ GivesCardC (putAt xs i (numW n (j - i))) w e w') := by
  have hci := columnsIn_good b off c xs B i j (((w.alloc (.cells #[.slice (some ⟨b, off, none⟩) xs.length c] 26)).alloc (.cells #[.int .i64 i, .int .i64 j] 29)).alloc (.cells #[.slice none 0 0] 26)) (((h.alloc hB _).alloc (by simp; omega) _).alloc (by simp; omega) _) (by simp; omega) hc hcm hij hj e
  have hi := isCardNumber_any n
  have hr' : -999999999999 ≤ n ∧ n ≤ 999999999999 := by simpa [inB] using hr
  rw [hr] at hi
  have HI := Lib.hid hi
  have HC := Lib.hid hci
  have HS := Lib.hid S
  have HP := Lib.hid hP
  have hne : ∀ (w : World), (binOp .neq 60 (.iface 168 (.pointer (some aL))) .nilIface).run Tryd.prog w = .ok (.bool true) w := fun w => run_neq_iface_nil w 60 (by kernel_rfl) _ _
  have hjm : j ≤ 1048576 := by omega
  have h0 : 0 < xs.length := by omega
  have hcl := fun (W : World) (h2 : Below w.heap.size w W) => cloneC_any (some ⟨b, off, none⟩) c xs B W (h.below (h2.mono hB)) (Nat.le_trans hB h2.size) h0 hcm.1
  have HCL := Lib.hid hcl
  obtain ⟨m, hm⟩ : ∃ m, xs.length = m := ⟨_, rfl⟩
  have HM := Lib.hid hm
  rw [hm] at HC HCL hc hcm hj h0
  rw [hm]
  obtain ⟨hm1, _⟩ := hcm
  have hfl := World.block_lt_of_cell? _ _ HS.out.foreign.1
  clear hci h e hi hr hm hP S hcl
  go_enter Tryd.func9, Tryd.ntmps9
  go_wp2_with fail
  refine HC.out.mono ?_
  rintro e w1 ⟨rfl, hb1⟩
  have B1 := Lib.hid (three_below w _ _ _ hb1)
  have c1 := cell_kept (p := ⟨w.heap.size + 1 + 1, 0, none⟩) (v := .slice none 0 0) (by simp [go_sem]) hb1
  have f1 : w1.frozen? ⟨w.heap.size + 1 + 1, 0, none⟩ = false := by rw [hb1.frozen (by simp)]; simp [go_sem]
  have q0 := cell_kept (p := ⟨w.heap.size + 1, 0, none⟩) (v := .int .i64 i) (by simp [go_sem]) hb1
  have q1 := cell_kept (p := ⟨w.heap.size + 1, 1, none⟩) (v := .int .i64 j) (by simp [go_sem]) hb1
  have p0 := cell_kept (p := ⟨w.heap.size, 0, none⟩) (v := .slice (some ⟨b, off, none⟩) m c) (by simp [go_sem]) hb1
  clear hb1 HC
  go_wp2_with (go_at_call 24; refine (HI.out _).mono ?_; rintro e w' ⟨rfl, rfl⟩)
  refine (HCL.out w1 B1.out).mono ?_
  rintro e w2 ⟨g, cap, ex, rfl, hcp, hcx, hg, hb2, hrow⟩
  rw [HM.out] at hcp ⊢
  unfold maxLen at hcx
  have hs1 := B1.out.size
  have B2 := Lib.hid (below_step B1.out hb2)
  have c2 := cell_kept c1 hb2
  have f2 := frozen_kept c1 f1 hb2
  have q2 := cell_kept q0 hb2
  have q3 := cell_kept q1 hb2
  have R2 := Lib.hid hrow
  have n4 : Hid (w.heap.size + 1 + 1 ≠ g) := by
    have := World.block_lt_of_cell? _ _ c1
    exact Nat.ne_of_lt (Nat.lt_of_lt_of_le this hg)
  have HFG : Hid (1 ≠ g) := by
    have h' : 1 < w.heap.size := hfl
    have h'' : w1.heap.size ≤ g := hg
    show _ ≠ _
    omega
  have hwg : Hid (w.heap.size ≤ g) := Nat.le_trans hs1 hg
  have S2 := Lib.hid (HS.out.below B2.out)
  have P2 := Lib.hid (HP.out.below B2.out)
  have i0 : (0 : Int) ≤ (i : Int) := Int.natCast_nonneg _
  have i1 : (i : Int) ≤ (j : Int) := by omega
  have i2 : (j : Int) ≤ (cap : Int) := by omega
  have i3 : ¬ cap = i := by omega
  have hji : Hid (0 < j - i) := Nat.sub_pos_of_lt hij
  have hjx : Hid (i + (j - i) ≤ xs.length) := by show _ ≤ _; rw [HM.out]; omega
  have HR' := Lib.hid hr'
  clear hb2 hrow B1 c1 f1 q0 q1 p0 HCL HI hfl hg hr' HS HP
  by_cases hf : n.natAbs < 10 ^ (j - i)
  · have HWN := Lib.hid (writeNumber_fits g i (j - i) (cap - i) n xs ex hji.out hjx.out (by rw [HM.out]; exact hm1) hf HR'.out.1 HR'.out.2 w2 R2.out S2.out HFG.out P2.out)
    have HF := Lib.hid hf
    have hfin := putAt_length xs i (numW n (j - i)) (by rw [numW_length]; exact hjx.out)
    have HFL := Lib.hid hfin
    clear hf hfin
    go_wp2_with fail
    refine HWN.out.mono ?_
    rintro e w3 ⟨rfl, hgr, hrow⟩
    have c3 := cell_only hgr c2 n4.out
    have f3 := frozen_only' hgr c2 f2 n4.out
    have B3 := Lib.hid (below_only B2.out hgr hwg.out)
    have HRW := Lib.hid hrow
    clear hgr hrow c2 f2 q2 q3 B2 R2 HWN
    go_wp2
    refine bodyPost_ret (v := .tuple #[.agg #[.slice (some ⟨g, 0, none⟩) m cap], .int .i64 0]) (by simp [results, Tryd.results9, go_sem, c3]) rfl (Or.inr ⟨HF.out, g, cap, ex, by rw [HFL.out, HM.out], by rw [HFL.out, HM.out]; exact hcp, hcx, hwg.out, ?_, ?_⟩)
    · exact B3.out.setCell (by simp; omega) _
    · exact HRW.out.far (fun e => n4.out e.symm) _
  · have hf' : 10 ^ (j - i) ≤ n.natAbs := by omega
    have HWN := Lib.hid (writeNumber_long (some ⟨g, i, none⟩) (j - i) (cap - i) n hf' (by omega) HR'.out.1 HR'.out.2 w2 S2.out P2.out)
    have HF := Lib.hid hf'
    clear hf hf'
    go_wp2_with fail
    refine HWN.out.mono ?_
    rintro e w3 ⟨rfl, hb⟩
    have c3 := cell_kept c2 hb
    have f3 := frozen_kept c2 f2 hb
    have B3 := Lib.hid (below_step B2.out hb)
    have S3 := Lib.hid (S2.out.below hb)
    clear hb c2 f2 q2 q3 B2 R2 HWN S2
    go_wp2_with fail
    refine (codeFor_long2 _ S3.out).mono ?_
    rintro e w4 ⟨rfl, rfl⟩
    go_wp2
    exact bodyPost_ret (v := .tuple #[.agg #[.slice none 0 0], .int .i64 5]) (by simp [results, Tryd.results9, go_sem, c3]) rfl (Or.inl ⟨HF.out, rfl, B3.out.setCell (by simp; omega) _⟩)

theorem digM_bits : ∀ d : Fin 10, digM (rowBit ((d.val : Nat) : Int)) = some d.val ∧ bits .and .i64 (rowBit ((d.val : Nat) : Int)) 2 = 0 ∧ bits .andNot .i64 (rowBit ((d.val : Nat) : Int)) 2 = rowBit ((d.val : Nat) : Int) ∧
    bits .and .i64 (bits .or .i64 (rowBit ((d.val : Nat) : Int)) 2) 2 = 2 ∧ bits .andNot .i64 (bits .or .i64 (rowBit ((d.val : Nat) : Int)) 2) 2 = rowBit ((d.val : Nat) : Int) ∧
    (0 ≤ rowBit ((d.val : Nat) : Int) ∧ rowBit ((d.val : Nat) : Int) ≤ 4095) ∧ (0 ≤ bits .or .i64 (rowBit ((d.val : Nat) : Int)) 2 ∧ bits .or .i64 (rowBit ((d.val : Nat) : Int)) 2 ≤ 4095) := by decide +kernel
theorem fold_digW (u : Nat) : ∀ (w : Nat) (v : Nat) (b : Bool), (digW u w).foldl numStep (some ((v : Int), b)) = some (((v * 10 ^ w + u % 10 ^ w : Nat) : Int), b || decide (0 < w))
  | 0, v, b => by simp [digW, Nat.mod_one]
  | j + 1, v, b => by
    have hd := (digM_bits ⟨u / 10 ^ j % 10, by omega⟩).1
    rw [digW, List.foldl_cons, numStep_digit hd]
    have e : (10 * (v : Int) + ((u / 10 ^ j % 10 : Nat) : Int)) = ((10 * v + u / 10 ^ j % 10 : Nat) : Int) := by omega
    rw [e, fold_digW u j]
    have h1 : (10 * v + u / 10 ^ j % 10) * 10 ^ j + u % 10 ^ j = v * 10 ^ (j + 1) + u % 10 ^ (j + 1) := by
      rw [Nat.mod_pow_succ, Nat.pow_succ, Nat.add_mul, Nat.mul_comm (10 ^ j) (u / 10 ^ j % 10)]
      have : 10 * v * 10 ^ j = v * (10 ^ j * 10) := by rw [Nat.mul_comm 10 v, Nat.mul_assoc, Nat.mul_comm 10 (10 ^ j)]
      omega
    rw [h1]
    simp
theorem fold_low (u j : Nat) (h : u < 10 ^ j) : (digW u j).foldl numStep (some (0, false)) = some ((u : Int), decide (0 < j)) := by
  have := fold_digW u j 0 false
  rw [Nat.zero_mul, Nat.zero_add, Nat.mod_eq_of_lt h, Bool.false_or] at this
  exact this
/-- the number that is punched is read again -/
theorem numOf_numW (n : Int) (w : Nat) (hw : 0 < w) (h : n.natAbs < 10 ^ w) : numOf (numW n w) = some n := by
  obtain ⟨j, rfl⟩ : ∃ j, w = j + 1 := ⟨w - 1, by omega⟩
  obtain ⟨u, hu⟩ : ∃ u, n.natAbs = u := ⟨_, rfl⟩
  have hq : u / 10 < 10 ^ j := by rw [hu, Nat.pow_succ] at h; omega
  have hb := digM_bits ⟨u % 10, by omega⟩
  obtain ⟨b1, b2, b3, b4, b5, _, _⟩ := hb
  have hl := digW_length (u / 10) j
  have hnum : (10 * ((u / 10 : Nat) : Int) + ((u % 10 : Nat) : Int)) = (u : Int) := by omega
  by_cases hn : n < 0
  · have e : numW n (j + 1) = digW (u / 10) j ++ [bits .or .i64 (rowBit ((u % 10 : Nat) : Int)) 2] := by
      rw [numW_neg n _ hn, hu, digW_last, Nat.add_sub_cancel, List.getElem?_append_right (by omega), hl, Nat.sub_self, List.set_append_right _ _ (by omega), hl, Nat.sub_self]
      rfl
    have ht : numTo (numW n (j + 1)) j = some (((u / 10 : Nat) : Int), decide (0 < j)) := by
      rw [numTo, e, List.take_append_of_le_length (by omega), List.take_of_length_le (by omega), fold_low _ _ hq]
    rw [numOf_last (k := j) (by rw [numW_length]), ht, e, List.getElem?_append_right (by omega), hl, Nat.sub_self]
    show numEnd _ (bits .or .i64 (rowBit ((u % 10 : Nat) : Int)) 2) = _
    have h0 : ¬ (u : Int) = 0 := by omega
    rw [numEnd, b5, numStep_digit b1, b4]
    simp only [hnum]
    rw [if_neg (by decide), if_neg h0]
    congr 1
    omega
  · have e : numW n (j + 1) = digW (u / 10) j ++ [rowBit ((u % 10 : Nat) : Int)] := by rw [numW_pos n _ hn, hu, digW_last]
    have ht : numTo (numW n (j + 1)) j = some (((u / 10 : Nat) : Int), decide (0 < j)) := by
      rw [numTo, e, List.take_append_of_le_length (by omega), List.take_of_length_le (by omega), fold_low _ _ hq]
    rw [numOf_last (k := j) (by rw [numW_length]), ht, e, List.getElem?_append_right (by omega), hl, Nat.sub_self]
    show numEnd _ (rowBit ((u % 10 : Nat) : Int)) = _
    rw [numEnd, b3, numStep_digit b1, b2]
    simp only [hnum]
    rw [if_pos trivial]
    congr 1
    omega
theorem digW_mask (u : Nat) : ∀ w x, x ∈ digW u w → 0 ≤ x ∧ x ≤ 4095
  | 0, x, h => by cases h
  | j + 1, x, h => by
    rw [digW, List.mem_cons] at h
    rcases h with rfl | h
    · exact (digM_bits ⟨u / 10 ^ j % 10, by omega⟩).2.2.2.2.2.1
    · exact digW_mask u j x h
theorem numW_mask (n : Int) (w : Nat) (hw : 0 < w) : ∀ x ∈ numW n w, 0 ≤ x ∧ x ≤ 4095 := by
  intro x hx
  by_cases hn : n < 0
  · rw [numW_neg n w hn] at hx
    rcases List.mem_or_eq_of_mem_set hx with h | rfl
    · exact digW_mask _ _ _ h
    · obtain ⟨j, rfl⟩ : ∃ j, w = j + 1 := ⟨w - 1, by omega⟩
      have hl := digW_length (n.natAbs / 10) j
      rw [digW_last, Nat.add_sub_cancel, List.getElem?_append_right (by omega), hl, Nat.sub_self]
      exact (digM_bits ⟨n.natAbs % 10, by omega⟩).2.2.2.2.2.2
  · rw [numW_pos n w hn] at hx
    exact digW_mask _ _ _ hx
theorem partOf_putAt (xs : List Int) (i : Nat) (l : List Int) (h : i + l.length ≤ xs.length) : partOf (putAt xs i l) i (i + l.length) = l := by
  have h1 : (xs.take i).length = i := by simp; omega
  rw [partOf, putAt, List.append_assoc, List.drop_append_of_le_length (by omega), List.drop_of_length_le (by omega), List.nil_append, Nat.add_sub_cancel_left, List.take_append_of_le_length (Nat.le_refl _), List.take_length]
theorem putAt_mask (xs : List Int) (i : Nat) (l : List Int) (h : ∀ x ∈ xs, 0 ≤ x ∧ x ≤ 4095) (hl : ∀ x ∈ l, 0 ≤ x ∧ x ≤ 4095) : ∀ x ∈ putAt xs i l, 0 ≤ x ∧ x ≤ 4095 := by
  intro x hx
  rw [putAt, List.mem_append, List.mem_append] at hx
  rcases hx with (hx | hx) | hx
  · exact h x (List.mem_of_mem_take hx)
  · exact hl x hx
  · exact h x (List.mem_of_mem_drop hx)
end Go.Proofs.YtjfogadcedgndaaDoor
