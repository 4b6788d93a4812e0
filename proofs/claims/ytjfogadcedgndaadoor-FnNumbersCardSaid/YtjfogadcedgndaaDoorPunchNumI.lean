/- impl.PunchNumber gives the card with a number in a field, or the code, for every card of at most 1048576 columns, every field and number: contracts. -/
import Derived.Test.YtjfogadcedgndaaDoorPunchNum
namespace Go.Proofs.YtjfogadcedgndaaDoor
open Go.ChangeShapes Go.WideShapes Go.ChangeAt Go.RowKit

theorem isCardNumber_any (n : Int) (w : World) :
    Calls Tryd.prog 24 #[.int .i64 n] w fun e w' => e = .returned (.bool (inB n (-999999999999) 999999999999)) ∧ w = w' := by
  by_cases h1 : -999999999999 ≤ n
  · by_cases h2 : n ≤ 999999999999
    · have e : inB n (-999999999999) 999999999999 = true := by simp [inB, h1, h2]
      rw [e]
      clear e
      go_enter Tryd.func24, Tryd.ntmps24
      go_wp2
      go_ret
      exact ⟨rfl, rfl⟩
    · have e : inB n (-999999999999) 999999999999 = false := by simp [inB, h2]
      rw [e]
      clear e
      go_enter Tryd.func24, Tryd.ntmps24
      go_wp2
      go_ret
      exact ⟨rfl, rfl⟩
  · have e : inB n (-999999999999) 999999999999 = false := by simp [inB, h1]
    rw [e]
    clear e
    go_enter Tryd.func24, Tryd.ntmps24
    go_wp2
    go_ret
    exact ⟨rfl, rfl⟩

theorem implPutN_bad (A : Option Addr) (c : Nat) (xs : List Int) (B : Nat) (a b n : Int) (w : World) (h : Ints w B A xs) (hB : B ≤ w.heap.size) (hn : xs.length ≤ 1048576) (e : partCode xs a b ≠ 0) :
    Calls Tryd.prog 9 #[.agg #[.slice A xs.length c], .agg #[.int .i64 a, .int .i64 b], .int .i64 n] w (GivesCode (partCode xs a b) w) := by
  have hc := columnsIn_bad A c xs B a b (((w.alloc (.cells #[.slice A xs.length c] 26)).alloc (.cells #[.int .i64 a, .int .i64 b] 29)).alloc (.cells #[.slice none 0 0] 26)) (((h.alloc hB _).alloc (by simp; omega) _).alloc (by simp; omega) _) (by simp; omega) hn e
  obtain ⟨k, hk⟩ : ∃ k, partCode xs a b = k := ⟨_, rfl⟩
  rw [hk] at hc e ⊢
  have hne : (k != 0) = true := by simpa using e
  have HC := Lib.hid hc
  clear hc h hk e
  go_enter Tryd.func9, Tryd.ntmps9
  go_wp2_with fail
  refine HC.out.mono ?_
  rintro e w1 ⟨rfl, hb1⟩
  have B1 := Lib.hid (three_below w _ _ _ hb1)
  have c1 := cell_kept (p := ⟨w.heap.size + 1 + 1, 0, none⟩) (v := .slice none 0 0) (by simp [go_sem]) hb1
  have f1 : w1.frozen? ⟨w.heap.size + 1 + 1, 0, none⟩ = false := by rw [hb1.frozen (by simp)]; simp [go_sem]
  clear hb1 HC
  go_wp2
  exact bodyPost_ret (v := .tuple #[.agg #[.slice none 0 0], .int .i64 k]) (by simp [results, Tryd.results9, go_sem, c1]) rfl ⟨rfl, B1.out.setCell (by simp; omega) _⟩

theorem implPutN_range (b off c : Nat) (xs : List Int) (B i j : Nat) (n : Int) (w : World) (h : Ints w B (some ⟨b, off, none⟩) xs) (hB : B ≤ w.heap.size) (hc : xs.length ≤ c) (hcm : xs.length ≤ 1048576 ∧ c ≤ 9223372036854775807) (hij : i < j) (hj : j ≤ xs.length) (e : partCode xs i j = 0) (hr : inB n (-999999999999) 999999999999 = false) :
    Calls Tryd.prog 9 #[.agg #[.slice (some ⟨b, off, none⟩) xs.length c], .agg #[.int .i64 i, .int .i64 j], .int .i64 n] w (GivesCode 2 w) := by
  have hci := columnsIn_good b off c xs B i j (((w.alloc (.cells #[.slice (some ⟨b, off, none⟩) xs.length c] 26)).alloc (.cells #[.int .i64 i, .int .i64 j] 29)).alloc (.cells #[.slice none 0 0] 26)) (((h.alloc hB _).alloc (by simp; omega) _).alloc (by simp; omega) _) (by simp; omega) hc hcm hij hj e
  have hi := isCardNumber_any n
  rw [hr] at hi
  have HI := Lib.hid hi
  have HC := Lib.hid hci
  clear hci h e hi hr
  go_enter Tryd.func9, Tryd.ntmps9
  go_wp2_with fail
  refine HC.out.mono ?_
  rintro e w1 ⟨rfl, hb1⟩
  have B1 := Lib.hid (three_below w _ _ _ hb1)
  have c1 := cell_kept (p := ⟨w.heap.size + 1 + 1, 0, none⟩) (v := .slice none 0 0) (by simp [go_sem]) hb1
  have f1 : w1.frozen? ⟨w.heap.size + 1 + 1, 0, none⟩ = false := by rw [hb1.frozen (by simp)]; simp [go_sem]
  clear hb1 HC
  go_wp2_with (go_at_call 24; refine (HI.out _).mono ?_; rintro e w' ⟨rfl, rfl⟩)
  exact bodyPost_ret (v := .tuple #[.agg #[.slice none 0 0], .int .i64 2]) (by simp [results, Tryd.results9, go_sem, c1]) rfl ⟨rfl, B1.out.setCell (by simp; omega) _⟩

set_option maxHeartbeats 1000000 in
theorem implPutN_some (b off c : Nat) (xs : List Int) (B i j : Nat) (n : Int) (w : World) (h : Ints w B (some ⟨b, off, none⟩) xs) (hB : B ≤ w.heap.size) (hc : xs.length ≤ c) (hcm : xs.length ≤ 1048576 ∧ c ≤ 9223372036854775807) (hij : i < j) (hj : j ≤ xs.length) (e : partCode xs i j = 0) (hr : inB n (-999999999999) 999999999999 = true) {aL aF : Addr} (S : Sents2 w aL aF) (hP : Pow10 w) :
    Calls Tryd.prog 9 #[.agg #[.slice (some ⟨b, off, none⟩) xs.length c], .agg #[.int .i64 i, .int .i64 j], .int .i64 n] w fun e w' => (10 ^ (j - i) ≤ n.natAbs ∧ GivesCode 5 w e w') ∨ (n.natAbs < 10 ^ (j - i) ∧ GivesCard (putAt xs i (numW n (j - i))) w e w') := by
  have hci := columnsIn_good b off c xs B i j (((w.alloc (.cells #[.slice (some ⟨b, off, none⟩) xs.length c] 26)).alloc (.cells #[.int .i64 i, .int .i64 j] 29)).alloc (.cells #[.slice none 0 0] 26)) (((h.alloc hB _).alloc (by simp; omega) _).alloc (by simp; omega) _) (by simp; omega) hc hcm hij hj e
  have hi := isCardNumber_any n
  have hr' : -999999999999 ≤ n ∧ n ≤ 999999999999 := by simpa [inB] using hr
  rw [hr] at hi
  have HI := Lib.hid hi
  have HC := Lib.hid hci
  have HS := Lib.hid S
  have HP := Lib.hid hP
  have hne : ∀ (w : World), (binOp .neq 60 (.iface 168 (.pointer (some aL))) .nilIface).run Tryd.prog w = .ok (.bool true) w := fun w => run_neq_iface_nil w 60 (by kernel_rfl) _ _
  have hjm : j ≤ 1048576 := by omega
  have h0 : 0 < xs.length := by omega
  have hcl := fun (W : World) (h2 : Below w.heap.size w W) => cloneC_any (some ⟨b, off, none⟩) c xs B W (h.below (h2.mono hB)) (Nat.le_trans hB h2.size) h0 hcm.1
  have HCL := Lib.hid hcl
  obtain ⟨m, hm⟩ : ∃ m, xs.length = m := ⟨_, rfl⟩
  have HM := Lib.hid hm
  rw [hm] at HC HCL hc hcm hj h0
  rw [hm]
  obtain ⟨hm1, _⟩ := hcm
  have hfl := World.block_lt_of_cell? _ _ HS.out.foreign.1
  clear hci h e hi hr hm hP S hcl
  go_enter Tryd.func9, Tryd.ntmps9
  go_wp2_with fail
  refine HC.out.mono ?_
  rintro e w1 ⟨rfl, hb1⟩
  have B1 := Lib.hid (three_below w _ _ _ hb1)
  have c1 := cell_kept (p := ⟨w.heap.size + 1 + 1, 0, none⟩) (v := .slice none 0 0) (by simp [go_sem]) hb1
  have f1 : w1.frozen? ⟨w.heap.size + 1 + 1, 0, none⟩ = false := by rw [hb1.frozen (by simp)]; simp [go_sem]
  have q0 := cell_kept (p := ⟨w.heap.size + 1, 0, none⟩) (v := .int .i64 i) (by simp [go_sem]) hb1
  have q1 := cell_kept (p := ⟨w.heap.size + 1, 1, none⟩) (v := .int .i64 j) (by simp [go_sem]) hb1
  have p0 := cell_kept (p := ⟨w.heap.size, 0, none⟩) (v := .slice (some ⟨b, off, none⟩) m c) (by simp [go_sem]) hb1
  clear hb1 HC
  go_wp2_with (go_at_call 24; refine (HI.out _).mono ?_; rintro e w' ⟨rfl, rfl⟩)
  refine (HCL.out w1 B1.out).mono ?_
  rintro e w2 ⟨g, cap, ex, rfl, hcp, hcx, hg, hb2, hrow⟩
  rw [HM.out] at hcp ⊢
  unfold maxLen at hcx
  have hs1 := B1.out.size
  have B2 := Lib.hid (below_step B1.out hb2)
  have c2 := cell_kept c1 hb2
  have f2 := frozen_kept c1 f1 hb2
  have q2 := cell_kept q0 hb2
  have q3 := cell_kept q1 hb2
  have R2 := Lib.hid hrow
  have n4 : Hid (w.heap.size + 1 + 1 ≠ g) := by
    have := World.block_lt_of_cell? _ _ c1
    exact Nat.ne_of_lt (Nat.lt_of_lt_of_le this hg)
  have HFG : Hid (1 ≠ g) := by
    have h' : 1 < w.heap.size := hfl
    have h'' : w1.heap.size ≤ g := hg
    show _ ≠ _
    omega
  have hwg : Hid (w.heap.size ≤ g) := Nat.le_trans hs1 hg
  have S2 := Lib.hid (HS.out.below B2.out)
  have P2 := Lib.hid (HP.out.below B2.out)
  have i0 : (0 : Int) ≤ (i : Int) := Int.natCast_nonneg _
  have i1 : (i : Int) ≤ (j : Int) := by omega
  have i2 : (j : Int) ≤ (cap : Int) := by omega
  have i3 : ¬ cap = i := by omega
  have hji : Hid (0 < j - i) := Nat.sub_pos_of_lt hij
  have hjx : Hid (i + (j - i) ≤ xs.length) := by show _ ≤ _; rw [HM.out]; omega
  have HR' := Lib.hid hr'
  clear hb2 hrow B1 c1 f1 q0 q1 p0 HCL HI hfl hg hr' HS HP
  by_cases hf : n.natAbs < 10 ^ (j - i)
  · have HWN := Lib.hid (writeNumber_fits g i (j - i) (cap - i) n xs ex hji.out hjx.out (by rw [HM.out]; exact hm1) hf HR'.out.1 HR'.out.2 w2 R2.out S2.out HFG.out P2.out)
    have HF := Lib.hid hf
    have hfin := putAt_length xs i (numW n (j - i)) (by rw [numW_length]; exact hjx.out)
    have HFL := Lib.hid hfin
    clear hf hfin
    go_wp2_with fail
    refine HWN.out.mono ?_
    rintro e w3 ⟨rfl, hgr, hrow⟩
    have c3 := cell_only hgr c2 n4.out
    have f3 := frozen_only' hgr c2 f2 n4.out
    have B3 := Lib.hid (below_only B2.out hgr hwg.out)
    have HRW := Lib.hid hrow
    clear hgr hrow c2 f2 q2 q3 B2 R2 HWN
    go_wp2
    refine bodyPost_ret (v := .tuple #[.agg #[.slice (some ⟨g, 0, none⟩) m cap], .int .i64 0]) (by simp [results, Tryd.results9, go_sem, c3]) rfl (Or.inr ⟨HF.out, g, cap, ex, by rw [HFL.out, HM.out], hwg.out, ?_, ?_⟩)
    · exact B3.out.setCell (by simp; omega) _
    · exact HRW.out.far (fun e => n4.out e.symm) _
  · have hf' : 10 ^ (j - i) ≤ n.natAbs := by omega
    have HWN := Lib.hid (writeNumber_long (some ⟨g, i, none⟩) (j - i) (cap - i) n hf' (by omega) HR'.out.1 HR'.out.2 w2 S2.out P2.out)
    have HF := Lib.hid hf'
    clear hf hf'
    go_wp2_with fail
    refine HWN.out.mono ?_
    rintro e w3 ⟨rfl, hb⟩
    have c3 := cell_kept c2 hb
    have f3 := frozen_kept c2 f2 hb
    have B3 := Lib.hid (below_step B2.out hb)
    have S3 := Lib.hid (S2.out.below hb)
    clear hb c2 f2 q2 q3 B2 R2 HWN S2
    go_wp2_with fail
    refine (codeFor_long2 _ S3.out).mono ?_
    rintro e w4 ⟨rfl, rfl⟩
    go_wp2
    exact bodyPost_ret (v := .tuple #[.agg #[.slice none 0 0], .int .i64 5]) (by simp [results, Tryd.results9, go_sem, c3]) rfl (Or.inl ⟨HF.out, rfl, B3.out.setCell (by simp; omega) _⟩)
end Go.Proofs.YtjfogadcedgndaaDoor
