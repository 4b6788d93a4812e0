/- spec.VerifyCard and impl.VerifyCard: contracts (see XVerify). Conditions: the tables of unicode/utf8 and the errors lie in memory. -/
import Derived.Test.YtjlgfgekiekenaaDoorVerify
namespace Go.Proofs.YtjlgfgekiekenaaDoor
open Go.ChangeShapes Go.WideShapes Go.ChangeAt Go.RowKit

theorem verC_zero {s : ByteArray} {bs cs : List Int} {K : ByteArray} (h : verC s bs cs K = 0) : twoC s bs cs = 0 ∧ keysC s K = 0 := by
  unfold verC at h
  by_cases a : twoC s bs cs = 0
  · rw [if_pos a] at h; exact ⟨a, h⟩
  · rw [if_neg a] at h; exact absurd h a

set_option maxHeartbeats 1000000 in
theorem specVerify_any (s K : ByteArray) (A A' : Option Addr) (c c' B : Nat) (bs cs : List Int) (hs : s.size ≤ 1048576) (hK : K.size ≤ 1048576) (w : World) (h : Ints w B A bs) (h' : Ints w B A' cs) (hB : B ≤ w.heap.size) (hn : bs.length ≤ 1048576) (hn' : cs.length ≤ 1048576) :
    Calls Tryd.prog 30 #[.string s, .agg #[.slice A bs.length c], .agg #[.slice A' cs.length c'], .string K] w fun e w' => e = .returned (.tuple #[.int .i64 (verV s bs cs K), .int .i64 (verC s bs cs K)]) ∧ Below w.heap.size w w' := by
  have b0 := (below_box w (.cells #[.slice A bs.length c] 29)).alloc (by simp) (.cells #[.slice A' cs.length c'] 29)
  have I1 := h.below (b0.mono hB)
  have I2 := h'.below (b0.mono hB)
  have k1 : ((w.alloc (.cells #[.slice A bs.length c] 29)).alloc (.cells #[.slice A' cs.length c'] 29)).cell? ⟨w.heap.size, 0, none⟩ = some (.slice A bs.length c) := by simp [go_sem]
  have k2 : ((w.alloc (.cells #[.slice A bs.length c] 29)).alloc (.cells #[.slice A' cs.length c'] 29)).cell? ⟨w.heap.size + 1, 0, none⟩ = some (.slice A' cs.length c') := by simp [go_sem]
  have ho := l05Two_any s hs A A' c c' bs cs B w.heap.size 0 (w.heap.size + 1) 0 ((w.alloc (.cells #[.slice A bs.length c] 29)).alloc (.cells #[.slice A' cs.length c'] 29)) k1 k2 I1 I2 hn hn'
  have hk := fun W => l05Check_any s K hs hK W
  have B0 := Lib.hid b0
  by_cases h1 : twoC s bs cs = 0
  · by_cases h2 : keysC s K = 0
    · obtain ⟨p1, p2, p3, p4, p5⟩ := twoC_zero h1
      obtain ⟨q1, q2⟩ := keysC_zero h2
      have e1 : verC s bs cs K = 0 := by rw [verC, if_pos h1, h2]
      have e2 : verV s bs cs K = diffTo (punL s bs K s.size) cs s.size := by rw [verV, if_pos e1]
      have hw := l05Wrong_any s K A A' c c' B w.heap.size 0 (w.heap.size + 1) 0 bs cs p1 hK q1 ((w.alloc (.cells #[.slice A bs.length c] 29)).alloc (.cells #[.slice A' cs.length c'] 29)) k1 k2 I1 I2 (Nat.le_trans hB b0.size) p4 p5
      rw [e1, e2]
      obtain ⟨d, hd⟩ : ∃ d, diffTo (punL s bs K s.size) cs s.size = d := ⟨_, rfl⟩
      rw [hd] at hw ⊢
      rw [h1] at ho
      rw [h2] at hk
      have HO := Lib.hid ho
      have HK := Lib.hid hk
      have HW := Lib.hid hw
      clear ho hk hw h1 h2 p1 p2 p3 p4 p5 q1 q2 e1 e2 hd I1 I2 b0 k1 k2 h h'
      go_enter Tryd.func30, Tryd.ntmps30
      go_wp2_with (first | (go_at_call 51; refine HO.out.mono ?_; rintro e w' ⟨rfl, rfl⟩) | (go_at_call 42; refine (HK.out _).mono ?_; rintro e w' ⟨rfl, rfl⟩))
      refine HW.out.mono ?_
      rintro e w1 ⟨rfl, hb⟩
      have B1 := Lib.hid (below_step B0.out hb)
      clear hb
      go_wp2
      go_ret2
      exact ⟨rfl, B1.out⟩
    · have e1 : verC s bs cs K = keysC s K := by rw [verC, if_pos h1]
      have e2 : verV s bs cs K = 0 := by rw [verV, e1, if_neg h2]
      rw [e1, e2]
      obtain ⟨a, ha⟩ : ∃ a, keysC s K = a := ⟨_, rfl⟩
      rw [ha] at hk h2 ⊢
      rw [h1] at ho
      have HO := Lib.hid ho
      have HK := Lib.hid hk
      have hne : ((a : Int) != 0) = true := by rw [bne_iff_ne]; omega
      clear ho hk h1 h2 e1 e2 ha I1 I2 b0 k1 k2 h h'
      go_enter Tryd.func30, Tryd.ntmps30
      go_wp2_with (first | (go_at_call 51; refine HO.out.mono ?_; rintro e w' ⟨rfl, rfl⟩) | (go_at_call 42; refine (HK.out _).mono ?_; rintro e w' ⟨rfl, rfl⟩))
      go_ret2
      exact ⟨rfl, B0.out⟩
  · have e1 : verC s bs cs K = twoC s bs cs := by rw [verC, if_neg h1]
    have e2 : verV s bs cs K = 0 := by rw [verV, e1, if_neg h1]
    rw [e1, e2]
    obtain ⟨a, ha⟩ : ∃ a, twoC s bs cs = a := ⟨_, rfl⟩
    rw [ha] at ho h1 ⊢
    have HO := Lib.hid ho
    have hne : ((a : Int) != 0) = true := by rw [bne_iff_ne]; omega
    have hne2 : ((a : Int) == 0) = false := by rw [beq_eq_false_iff_ne]; omega
    clear ho hk h1 e1 e2 ha I1 I2 b0 k1 k2 h h'
    go_enter Tryd.func30, Tryd.ntmps30
    go_wp2_with (go_at_call 51; refine HO.out.mono ?_; rintro e w' ⟨rfl, rfl⟩)
    go_ret2
    exact ⟨rfl, B0.out⟩

set_option maxHeartbeats 2000000 in
theorem implVerify_any (s K : ByteArray) (A A' : Option Addr) (c c' B : Nat) (bs cs : List Int) (hs : s.size ≤ 1048576) (hK : K.size ≤ 1048576) (w : World) (h : Ints w B A bs) (h' : Ints w B A' cs) (hB : B ≤ w.heap.size) (hn : bs.length ≤ 1048576) (hn' : cs.length ≤ 1048576) (hT : Utf8In w) {aC aS aF aL : Addr} (S : PunchErrs w aC aS aF aL) :
    Calls Tryd.prog 31 #[.string s, .agg #[.slice A bs.length c], .agg #[.slice A' cs.length c'], .string K] w fun e w' => e = .returned (.tuple #[.int .i64 (verV s bs cs K), .int .i64 (verC s bs cs K)]) ∧ Below w.heap.size w w' := by
  have b0 := ((below_box w (.cells #[.slice A bs.length c] 29)).alloc (by simp) (.cells #[.slice A' cs.length c'] 29)).alloc (by simp; omega) (.cells #[.slice A bs.length c, .slice A' cs.length c'] 29)
  have hck := checkProgram_any s (some ⟨w.heap.size + 1 + 1, 0, none⟩) 2 [⟨A, c, bs⟩, ⟨A', c', cs⟩] (w.heap.size + 1 + 1 + 1) (((w.alloc (.cells #[.slice A bs.length c] 29)).alloc (.cells #[.slice A' cs.length c'] 29)).alloc (.cells #[.slice A bs.length c, .slice A' cs.length c'] 29)) (deck_two _ A A' c c' bs cs B (w.heap.size + 1 + 1) (h.below (b0.mono hB)) (h'.below (b0.mono hB)) (by omega) (by simp [go_sem]) (by simp [go_sem])) (by simp) (by simp) (by simp; exact ⟨hn, hn'⟩) hs
  rw [chkC_two] at hck
  have hck' : Calls Tryd.prog 45 #[.string s, .slice (some ⟨w.heap.size + 1 + 1, 0, none⟩) 2 2] (((w.alloc (.cells #[.slice A bs.length c] 29)).alloc (.cells #[.slice A' cs.length c'] 29)).alloc (.cells #[.slice A bs.length c, .slice A' cs.length c'] 29)) fun e w' => e = .returned (.int .i64 (twoC s bs cs)) ∧ Below (((w.alloc (.cells #[.slice A bs.length c] 29)).alloc (.cells #[.slice A' cs.length c'] 29)).alloc (.cells #[.slice A bs.length c, .slice A' cs.length c'] 29)).heap.size (((w.alloc (.cells #[.slice A bs.length c] 29)).alloc (.cells #[.slice A' cs.length c'] 29)).alloc (.cells #[.slice A bs.length c, .slice A' cs.length c'] 29)) w' := hck
  have B0 := Lib.hid b0
  have HS := Lib.hid S
  have HT := Lib.hid hT
  have H := Lib.hid h
  have H' := Lib.hid h'
  clear hck b0 S hT h h'
  by_cases h1 : twoC s bs cs = 0
  · obtain ⟨p1, p2, p3, p4, p5⟩ := twoC_zero h1
    rw [h1] at hck'
    have HC := Lib.hid hck'
    have ev : verC s bs cs K = keysC s K := by rw [verC, if_pos h1]
    have ev2 : verV s bs cs K = if keysC s K = 0 then diffTo (punL s bs K s.size) cs s.size else 0 := by rw [verV, ev]
    rw [ev, ev2]
    obtain ⟨a, ha⟩ : ∃ a, keysC s K = a := ⟨_, rfl⟩
    rw [ha]
    obtain ⟨zs, hz⟩ : ∃ zs, punL s bs K s.size = zs := ⟨_, rfl⟩
    have hpk : ∀ W, Below w.heap.size w W → Calls Tryd.prog 46 #[.string s, .slice A bs.length c, .string K] W fun e w' => ((a = 0 ∧ ∃ g cap ex, e = .returned (.tuple #[.slice (some ⟨g, 0, none⟩) s.size cap, .nilIface]) ∧ W.heap.size ≤ g ∧ Row w' g zs ex) ∨ a = 5 ∧ e = .returned (.tuple #[.slice none 0 0, errV aC]) ∨ a = 7 ∧ e = .returned (.tuple #[.slice none 0 0, errV aF]) ∨ a = 10 ∧ e = .returned (.tuple #[.slice none 0 0, errV aS])) ∧ Below W.heap.size W w' := fun W hW => by
      by_cases hk : K.size = keysTo s s.size
      · have ek : a = badC s K s.size := by rw [← ha, keysC, if_pos hk]
        refine (punchKeys_any s K A c B bs p1 hK hk W (H.out.below (hW.mono hB)) (Nat.le_trans hB hW.size) p4 (HT.out.below hW) (HS.out.keys.below hW)).mono ?_
        rintro e' w' ⟨hb, hh⟩
        rw [hz] at hh
        refine ⟨?_, hb⟩
        rcases hh with ⟨h0, hg⟩ | ⟨h7, he⟩ | ⟨h10, he⟩
        · exact Or.inl ⟨by rw [ek, h0], hg⟩
        · exact Or.inr (Or.inr (Or.inl ⟨by rw [ek, h7], he⟩))
        · exact Or.inr (Or.inr (Or.inr ⟨by rw [ek, h10], he⟩))
      · have ek : a = 5 := by rw [← ha, keysC, if_neg hk]
        exact (punchKeys_count s K _ hs hK p1 hk W (HT.out.below hW) (HS.out.keys.below hW)).mono fun e' w' hh => ⟨Or.inr (Or.inl ⟨ek, hh.1⟩), hh.2⟩
    have HPK := Lib.hid hpk
    have hzl : zs.length = s.size := by rw [← hz]; exact punL_length s bs K s.size
    rw [hz]
    obtain ⟨r, hr⟩ : ∃ r, diffTo zs cs s.size = r := ⟨_, rfl⟩
    rw [hr]
    obtain ⟨vv, hvv⟩ : ∃ vv : Int, (if a = 0 then r else 0) = vv := ⟨_, rfl⟩
    rw [hvv]
    have HV := Lib.hid hvv
    have HR := Lib.hid hr
    have HZ := Lib.hid hzl
    have HLc := Lib.hid p5
    have hsz := prog_size s p1
    rw [p5] at HC
    have b1 := B0.out
    rw [p5] at b1 ⊢
    have B0' := Lib.hid b1
    clear hpk p1 p2 p3 p4 p5 h1 ev ev2 ha hz hck' hr hzl b1 B0 hvv
    go_enter Tryd.func31, Tryd.ntmps31
    go_wp2_with fail
    refine HC.out.mono ?_
    rintro e w1 ⟨rfl, hb1⟩
    have B1 := Lib.hid (below_step B0'.out hb1)
    have c0 := cell_kept (p := ⟨w.heap.size, 0, none⟩) (v := .slice A bs.length c) (by simp [go_sem]) hb1
    have c1 := cell_kept (p := ⟨w.heap.size + 1, 0, none⟩) (v := .slice A' s.size c') (by simp [go_sem]) hb1
    clear hb1 HC
    go_wp2_with fail
    refine (HPK.out _ B1.out).mono ?_
    rintro e w2 ⟨hres, hb2⟩
    have B2 := Lib.hid (below_step B1.out hb2)
    have d1 := cell_kept c1 hb2
    have S2 := Lib.hid (HS.out.below B2.out)
    have hkc5 := Lib.hid (keyCode_count w2 S2.out)
    have hkc7 := Lib.hid (keyCode_foreign w2 S2.out)
    have hkc10 := Lib.hid (keyCode_stuck w2 S2.out)
    have I2 := Lib.hid (H'.out.below (B2.out.mono hB))
    unfold errV at hres hkc5 hkc7 hkc10
    clear hb2 c0 c1 HPK
    have hn : ∀ (a : Addr) (w : World), (binOp .neq 64 (.iface 182 (.pointer (some a))) .nilIface).run Tryd.prog w = .ok (.bool true) w := fun a w => run_neq_iface_nil w 64 (by kernel_rfl) _ _
    rcases hres with ⟨rfl, g, cap, ex, rfl, hg, hrow⟩ | ⟨rfl, rfl⟩ | ⟨rfl, rfl⟩ | ⟨rfl, rfl⟩
    · have R2 := Lib.hid hrow
      obtain rfl : vv = r := by rw [← HV.out, if_pos rfl]
      clear hrow hkc5 hkc7 hkc10 hn
      go_wp2
      go_loopw [37] (fun i wr => ∃ k : Nat, k ≤ s.size ∧ i = .int .i64 k ∧ wr = w2 ∧ Hid (diffTo zs cs k = -1)) (fun i _ => s.size - (intOf i).toNat)
      case atStart => exact ⟨0, Nat.zero_le _, rfl, rfl, rfl⟩
      case round =>
        obtain ⟨k, hk, rfl, rfl, HD⟩ := hrel
        by_cases hlt : k < s.size
        · have hlt' : (k : Int) < (s.size : Int) := by omega
          have hk0 : (0 : Int) ≤ (k : Int) := Int.natCast_nonneg _
          have x1 := R2.out.cell (i := k) (by rw [HZ.out]; exact hlt)
          obtain ⟨b, off, rfl, hb, hcell⟩ := I2.out (by rw [HLc.out]; omega)
          have y1 := hcell k (by rw [HLc.out]; exact hlt)
          obtain ⟨x, hx⟩ : ∃ x, zs[k]?.getD 0 = x := ⟨_, rfl⟩
          obtain ⟨y, hy⟩ : ∃ y, cs[k]?.getD 0 = y := ⟨_, rfl⟩
          rw [hx] at x1
          rw [hy] at y1
          by_cases hxy : x = y
          · have q1 : (y != x) = false := by rw [bne_eq_false_iff_eq]; exact hxy.symm
            have HD1 : Hid (diffTo zs cs (k + 1) = -1) := diffTo_same zs cs k HD.out (by rw [hx, hy]; exact hxy)
            clear hcell hx hy hxy
            go_wp2
            go_roundw
            case rel => exact ⟨k + 1, by omega, by go_num, trivial, HD1⟩
            case measure => simp [intOf]; omega
          · have q1 : (y != x) = true := by rw [bne_iff_ne]; exact fun e => hxy e.symm
            have hd1 : diffTo zs cs (k + 1) = k := diffTo_here zs cs k HD.out (by rw [hx, hy]; exact hxy)
            obtain rfl : vv = k := by rw [← HR.out, diffTo_stay zs cs (k + 1) (by rw [hd1]; omega) s.size hlt, hd1]
            clear hcell hx hy hxy hd1
            go_wp2
            go_ret2
            exact ⟨rfl, B2.out⟩
        · obtain rfl : k = s.size := by omega
          obtain rfl : vv = -1 := by rw [← HR.out, HD.out]
          have hk1 : ¬ (s.size : Int) < (s.size : Int) := by omega
          go_wp2
          go_ret2
          exact ⟨rfl, B2.out⟩
    · have hnn := hn aC
      obtain rfl : vv = 0 := by rw [← HV.out, if_neg (by decide)]
      clear hkc7 hkc10 hn
      go_wp2_with (go_at_call 47; refine hkc5.out.mono ?_; rintro e w' ⟨rfl, rfl⟩)
      go_ret2
      exact ⟨rfl, B2.out⟩
    · have hnn := hn aF
      obtain rfl : vv = 0 := by rw [← HV.out, if_neg (by decide)]
      clear hkc5 hkc10 hn
      go_wp2_with (go_at_call 47; refine hkc7.out.mono ?_; rintro e w' ⟨rfl, rfl⟩)
      go_ret2
      exact ⟨rfl, B2.out⟩
    · have hnn := hn aS
      obtain rfl : vv = 0 := by rw [← HV.out, if_neg (by decide)]
      clear hkc5 hkc7 hn
      go_wp2_with (go_at_call 47; refine hkc10.out.mono ?_; rintro e w' ⟨rfl, rfl⟩)
      go_ret2
      exact ⟨rfl, B2.out⟩
  · have e1 : verC s bs cs K = twoC s bs cs := by rw [verC, if_neg h1]
    have e2 : verV s bs cs K = 0 := by rw [verV, e1, if_neg h1]
    rw [e1, e2]
    obtain ⟨a, ha⟩ : ∃ a, twoC s bs cs = a := ⟨_, rfl⟩
    rw [ha] at hck' h1 ⊢
    have HC := Lib.hid hck'
    have hne : ((a : Int) != 0) = true := by rw [bne_iff_ne]; omega
    clear hck' h1 e1 e2 ha
    go_enter Tryd.func31, Tryd.ntmps31
    go_wp2_with fail
    refine HC.out.mono ?_
    rintro e w1 ⟨rfl, hb1⟩
    have B1 := Lib.hid (below_step B0.out hb1)
    clear hb1 HC
    go_wp2
    go_ret2
    exact ⟨rfl, B1.out⟩
end Go.Proofs.YtjlgfgekiekenaaDoor
