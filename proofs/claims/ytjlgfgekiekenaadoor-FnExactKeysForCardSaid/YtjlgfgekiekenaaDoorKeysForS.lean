/- spec.KeysFor answers the keys for a card, or the code, for every text of at most 1048576 bytes and every two cards: a contract. Conditions: none. -/
import Derived.Test.YtjlgfgekiekenaaDoorKeysFor
namespace Go.Proofs.YtjlgfgekiekenaaDoor
open Go.ChangeShapes Go.WideShapes Go.ChangeAt Go.RowKit

set_option maxRecDepth 100000 in
theorem own_string0 {w : World} {base g n cap : Nat} {l : List UInt8} (h : w.ownsRow base 5 1 (.slice (some ⟨g, 0, none⟩) n cap) l.length (Lib.byteCells l)) :
    (convert 70 9 (.slice (some ⟨g, 0, none⟩) n cap)).run Tryd.prog w = .ok (.string ⟨l.toArray⟩) w := by
  rcases h.2 with ⟨hv, _⟩ | ⟨g', cap', cur, hv, hb, hg, hr⟩
  · cases hv
  · injection hv with h1 h2 h3
    injection h1 with h1
    injection h1 with h1
    subst h1
    subst h2
    subst h3
    refine run_convert_bytes_back w 70 9 5 ⟨g, 0, none⟩ cap l Tryd.underlying70 Tryd.underlying5 Tryd.underlying9 (fun j hj => ?_)
    have := h.cells (g := g) rfl j (.int .u8 l[j].toNat) (by simp [Lib.byteCells, hj])
    simpa [Addr.add] using this
theorem charV_nat (m : Int) : charV m = ((charV m).toNat : Int) := by
  have := byteV_int m
  omega
theorem kf_cells (s : ByteArray) (cs : List Int) (k : Nat) (h : keyB (s.get! k).toNat = true) : Lib.byteCells (textL (kfM s cs (k + 1))) = Lib.byteCells (textL (kfM s cs k)) ++ [Value.int .u8 (charV (cs[k]?.getD 0))] := by
  rw [kfM, if_pos h]
  simp [Lib.byteCells, textL, byteV_int]

set_option maxHeartbeats 4000000 in
set_option maxRecDepth 100000 in
theorem specKeysFor_any (s : ByteArray) (A A' : Option Addr) (c c' B : Nat) (bs cs : List Int) (hs : s.size ≤ 1048576) (w : World) (h : Ints w B A bs) (h' : Ints w B A' cs) (hB : B ≤ w.heap.size) (hn : bs.length ≤ 1048576) (hn' : cs.length ≤ 1048576) :
    Calls Tryd.prog 19 #[.string s, .agg #[.slice A bs.length c], .agg #[.slice A' cs.length c']] w fun e w' => e = .returned (.tuple #[.string (kfV s bs cs), .int .i64 (kfC s bs cs)]) ∧ Below w.heap.size w w' := by
  obtain ⟨i0, hi0, hz0, hz1, hz2⟩ := info_parts info_byte
  have b0 := (below_box w (.cells #[.slice A bs.length c] 29)).alloc (by simp) (.cells #[.slice A' cs.length c'] 29)
  have I1 := h.below (b0.mono hB)
  have I2 := h'.below (b0.mono hB)
  have k1 : ((w.alloc (.cells #[.slice A bs.length c] 29)).alloc (.cells #[.slice A' cs.length c'] 29)).cell? ⟨w.heap.size, 0, none⟩ = some (.slice A bs.length c) := by simp [go_sem]
  have k2 : ((w.alloc (.cells #[.slice A bs.length c] 29)).alloc (.cells #[.slice A' cs.length c'] 29)).cell? ⟨w.heap.size + 1, 0, none⟩ = some (.slice A' cs.length c') := by simp [go_sem]
  have ho := l05Two_any s hs A A' c c' bs cs B w.heap.size 0 (w.heap.size + 1) 0 ((w.alloc (.cells #[.slice A bs.length c] 29)).alloc (.cells #[.slice A' cs.length c'] 29)) k1 k2 I1 I2 hn hn'
  have B0 := Lib.hid b0
  by_cases h1 : twoC s bs cs = 0
  · obtain ⟨p1, p2, p3, p4, p5⟩ := twoC_zero h1
    have hsz := prog_size s p1
    have e1 : kfC s bs cs = if kfTo s bs cs s.size = true then 0 else 3 := by rw [kfC, if_pos h1]
    have e2 : kfV s bs cs = if kfTo s bs cs s.size = true then kfK s cs else ⟨#[]⟩ := by
      rw [kfV, e1]
      cases kfTo s bs cs s.size <;> simp
    rw [e1, e2]
    obtain ⟨r, hr⟩ : ∃ r, kfTo s bs cs s.size = r := ⟨_, rfl⟩
    rw [hr]
    rw [h1] at ho
    have HO := Lib.hid ho
    have HR := Lib.hid hr
    have HL := Lib.hid (prog_letters s p1)
    have J1 := Lib.hid I1
    have J2 := Lib.hid I2
    have hw0 : ((w.alloc (.cells #[.slice A bs.length c] 29)).alloc (.cells #[.slice A' cs.length c'] 29)).heap.size = w.heap.size + 1 + 1 := by simp
    have HLb := Lib.hid p4
    have HLc := Lib.hid p5
    have Bz := Lib.hid (Nat.le_trans hB b0.size)
    have K1 := Lib.hid k1
    have K2 := Lib.hid k2
    simp only [p4, p5] at HO B0 hw0 Bz J1 J2 K1 K2 ⊢
    clear ho h1 p1 p2 p3 p4 p5 e1 e2 hr I1 I2 b0 k1 k2 h h'
    go_enter Tryd.func19, Tryd.ntmps19
    go_wp2_with (go_at_call 51; refine HO.out.mono ?_; rintro e w' ⟨rfl, rfl⟩)
    clear HO
    generalize ((w.alloc (.cells #[.slice A s.size c] 29)).alloc (.cells #[.slice A' s.size c'] 29)) = w0 at *
    go_loopw [9, 10] (fun v i wr => ∃ k g cap : Nat, k ≤ s.size ∧ i = .int .i64 k ∧ v = .slice (some ⟨g, 0, none⟩) (keysTo s k) cap ∧ Hid (kfTo s bs cs k = true) ∧ Hid (wr.ownsRow w0.heap.size 5 1 (.slice (some ⟨g, 0, none⟩) (keysTo s k) cap) (keysTo s k) (Lib.byteCells (textL (kfM s cs k)))) ∧ Hid (Below w0.heap.size w0 wr)) (fun _ i _ => s.size - (intOf i).toNat)
    case atStart =>
      refine ⟨0, w.heap.size + 1 + 1, 0, Nat.zero_le _, rfl, rfl, rfl, ?_, ?_⟩
      · rw [← hw0]
        exact ⟨rfl, Or.inr ⟨w0.heap.size, 0, #[], rfl, Nat.le_refl _, heap_alloc_new w0 _, Nat.le_refl _, Nat.zero_le _, rfl, rfl⟩⟩
      · exact below_box w0 _
    case round =>
      obtain ⟨k, g, cap, hk, rfl, rfl, HT, HW, HB⟩ := hrel
      have hwr : w0.heap.size ≤ wr.heap.size := HB.out.size
      by_cases hlt : k < s.size
      · have hlt' : (k : Int) < (s.size : Int) := by omega
        have hk0 : (0 : Int) ≤ (k : Int) := Int.natCast_nonneg _
        have b1 := cell_kept K1.out HB.out
        have b2 := cell_kept K2.out HB.out
        obtain ⟨gb, ob, hA, _, hcb⟩ := (J1.out.below (HB.out.mono Bz.out)) (by rw [HLb.out]; omega)
        obtain ⟨gc, oc, hA', _, hcc⟩ := (J2.out.below (HB.out.mono Bz.out)) (by rw [HLc.out]; omega)
        have x1 := hcb k (by rw [HLb.out]; exact hlt)
        have y1 := hcc k (by rw [HLc.out]; exact hlt)
        rw [hA] at b1
        rw [hA'] at b2
        obtain ⟨x, hx⟩ : ∃ x, bs[k]?.getD 0 = x := ⟨_, rfl⟩
        obtain ⟨m, hm⟩ : ∃ m, cs[k]?.getD 0 = m := ⟨_, rfl⟩
        rw [hx] at x1
        rw [hm] at y1
        have hge := byte_of s k hlt
        obtain ⟨l, hll⟩ : ∃ l, (s[k]'hlt).toNat = l := ⟨_, rfl⟩
        have hgl : (s.get! k).toNat = l := by rw [hge, hll]
        have hkd := l05Keyed_any (s[k]'hlt).toNat
        rw [hll] at hkd
        have hch := l03Char_any m
        have hlet := letter_at s k HL.out hlt
        rw [hgl] at hlet
        have hj := keysTo_le s k
        have HLL := Lib.hid hll
        have HGL := Lib.hid hgl
        have hbad : kfCol s bs cs k = false → r = false := fun hf => by rw [← HR.out]; exact kfTo_bad s bs cs k s.size hlt hf
        have hgood : kfCol s bs cs k = true → Hid (kfTo s bs cs (k + 1) = true) := fun hf => by show _ = _; rw [kfTo_succ, HT.out, hf]; rfl
        have hcol : kfCol s bs cs k = if keyB l = true then charOk m && !(decide (l = 110) && !digC (charV m).toNat) else if l = 100 then decide (m = x) else decide (m = 0) := by unfold kfCol; rw [hgl, hx, hm]
        clear hge hgl hA hA' hcb hcc hx
        cases hkb : keyB l
        · rw [hkb] at hkd hcol
          have HKD := Lib.hid hkd
          have HC := Lib.hid hch
          have hk1 : keysTo s (k + 1) = keysTo s k := keysTo_no s k (by rw [HGL.out]; exact hkb)
          have hm1 : kfM s cs (k + 1) = kfM s cs k := by rw [kfM, HGL.out, hkb]; rfl
          have h2 : l = 115 ∨ l = 100 := by simpa [letterB, hkb] using hlet
          obtain ⟨cv, hcv⟩ : ∃ cv, charV m = cv := ⟨_, rfl⟩
          obtain ⟨co, hco⟩ : ∃ co, charOk m = co := ⟨_, rfl⟩
          rw [hcv, hco] at HC
          have Hk1 := Lib.hid hk1
          have Hm1 := Lib.hid hm1
          have hm' := Lib.hid hm
          clear hkd hch hkb hk1 hm1 hlet hcv hco hm
          rcases h2 with rfl | rfl
          · by_cases hm0 : m = 0
            · have HG := Lib.hid (hgood (by rw [hcol]; simp [hm0]))
              have q1 : (m != 0) = false := by rw [bne_eq_false_iff_eq]; exact hm0
              clear hcol hbad hgood hm0
              go_wp2_with (first | (go_at_call 53; refine (HKD.out _).mono ?_; rintro e w' ⟨rfl, rfl⟩) | (go_at_call 52; refine (HC.out _).mono ?_; rintro e w' ⟨rfl, rfl⟩))
              go_quiet (fail)
              go_wp2
              refine ⟨⟨k + 1, g, cap, by omega, by go_num, by rw [Hk1.out], HG.out.out, by rw [Hk1.out, Hm1.out]; exact HW, below_drewN HB.out _⟩, ?_⟩
              simp [intOf]; omega
            · obtain rfl := hbad (by rw [hcol]; simp [hm0])
              have q1 : (m != 0) = true := by rw [bne_iff_ne]; exact hm0
              clear hcol hgood hm0
              go_wp2_with (first | (go_at_call 53; refine (HKD.out _).mono ?_; rintro e w' ⟨rfl, rfl⟩) | (go_at_call 52; refine (HC.out _).mono ?_; rintro e w' ⟨rfl, rfl⟩))
              go_ret2
              exact ⟨rfl, below_step B0.out HB.out⟩
          · by_cases hm0 : m = x
            · have HG := Lib.hid (hgood (by rw [hcol]; simp [hm0]))
              have q1 : (m != x) = false := by rw [bne_eq_false_iff_eq]; exact hm0
              clear hcol hbad hgood hm0
              go_wp2_with (first | (go_at_call 53; refine (HKD.out _).mono ?_; rintro e w' ⟨rfl, rfl⟩) | (go_at_call 52; refine (HC.out _).mono ?_; rintro e w' ⟨rfl, rfl⟩))
              go_quiet (fail)
              go_wp2
              refine ⟨⟨k + 1, g, cap, by omega, by go_num, by rw [Hk1.out], HG.out.out, by rw [Hk1.out, Hm1.out]; exact HW, below_drewN HB.out _⟩, ?_⟩
              simp [intOf]; omega
            · obtain rfl := hbad (by rw [hcol]; simp [hm0])
              have q1 : (m != x) = true := by rw [bne_iff_ne]; exact hm0
              clear hcol hgood hm0
              go_wp2_with (first | (go_at_call 53; refine (HKD.out _).mono ?_; rintro e w' ⟨rfl, rfl⟩) | (go_at_call 52; refine (HC.out _).mono ?_; rintro e w' ⟨rfl, rfl⟩))
              go_quiet (fail)
              go_wp2
              go_ret2
              exact ⟨rfl, below_drewN (below_step B0.out HB.out) _⟩
        · have hcv := charV_nat m
          obtain ⟨y, hy⟩ : ∃ y : Nat, (charV m).toNat = y := ⟨_, rfl⟩
          rw [hy] at hcv hcol
          rw [hcv] at hch
          rw [hkb] at hkd hcol
          have HKD := Lib.hid hkd
          have hdg := fun W => l01Digit_any (y : Int) W
          rw [digC_in] at hdg
          have hcl := kf_cells s cs k (by rw [HGL.out]; exact hkb)
          rw [hm, hcv] at hcl
          have hk1 : keysTo s (k + 1) = keysTo s k + 1 := keysTo_key s k (by rw [HGL.out]; exact hkb)
          have Hk1 := Lib.hid hk1
          have Hcl := Lib.hid hcl
          have h2 := key_two l hkb
          have h63 : keysTo s k + 1 ≤ maxLen := by unfold maxLen; omega
          have h64 : keysTo s k + 1 ≤ 140737488355328 := by omega
          clear hkd hkb hy hcl hk1 hlet hcv hm
          cases hco : charOk m
          · rw [hco] at hch hcol
            obtain rfl := hbad (by rw [hcol]; rfl)
            have HC := Lib.hid hch
            clear hch hco hcol hbad hgood hdg
            go_wp2_with (first | (go_at_call 53; refine (HKD.out _).mono ?_; rintro e w' ⟨rfl, rfl⟩) | (go_at_call 52; refine (HC.out _).mono ?_; rintro e w' ⟨rfl, rfl⟩))
            go_ret2
            exact ⟨rfl, below_step B0.out HB.out⟩
          · rw [hco] at hch hcol
            have HC := Lib.hid hch
            rcases h2 with rfl | rfl
            · have HG := Lib.hid (hgood (by rw [hcol]; rfl))
              clear hch hco hcol hbad hgood hdg
              go_wp2_with (first | (go_at_call 53; refine (HKD.out _).mono ?_; rintro e w' ⟨rfl, rfl⟩) | (go_at_call 52; refine (HC.out _).mono ?_; rintro e w' ⟨rfl, rfl⟩) | (at_builtin; refine wpList_append_own _ rfl _ _ 70 rfl w0.heap.size 5 i0 (.int .u8 0) 1 1 Tryd.underlying70 hi0 hz0 hz1 hz2 rfl (by decide) _ _ _ rfl (HW.out.alloc _) ⟨wr.heap.size, 0, none⟩ 1 1 [.int .u8 y] rfl rfl ?c1 ?c2 ?c3 ?c4 ?c5 ?_; rotate_left 5; intro v' w1 hown hgrow _; obtain ⟨g2, cap2, rfl⟩ := kp_shape hown (Nat.succ_pos _); obtain ⟨ho, hbb⟩ := own_byte hown hgrow HW.out HB.out (Nat.le_refl _) hwr; have HW1 := Lib.hid ho; have HB1 := Lib.hid hbb; clear hown hgrow ho hbb))
              case c1 =>
                intro j u hj
                match j, hj with
                | 0, hj => simp at hj; subst hj; simp [Addr.add]
              case c2 => intro u hu; simp at hu; subst hu; rfl
              case c3 => exact h63
              case c4 => omega
              case c5 => simp; omega
              go_roundw
              case rel => exact ⟨k + 1, g2, cap2, by omega, by go_num, by rw [Hk1.out], HG.out.out, by rw [Hk1.out, Hcl.out]; exact HW1, HB1⟩
              case measure => simp [intOf]; omega
            · cases hdc : digC y
              · rw [hdc] at hdg hcol
                obtain rfl := hbad (by rw [hcol]; rfl)
                have HDG := Lib.hid hdg
                clear hch hco hcol hbad hgood hdg hdc
                go_wp2_with (first | (go_at_call 53; refine (HKD.out _).mono ?_; rintro e w' ⟨rfl, rfl⟩) | (go_at_call 52; refine (HC.out _).mono ?_; rintro e w' ⟨rfl, rfl⟩) | (go_at_call 54; refine (HDG.out _).mono ?_; rintro e w' ⟨rfl, rfl⟩))
                go_ret2
                exact ⟨rfl, below_step B0.out HB.out⟩
              · rw [hdc] at hdg hcol
                have HG := Lib.hid (hgood (by rw [hcol]; rfl))
                have HDG := Lib.hid hdg
                clear hch hco hcol hbad hgood hdg hdc
                go_wp2_with (first | (go_at_call 53; refine (HKD.out _).mono ?_; rintro e w' ⟨rfl, rfl⟩) | (go_at_call 52; refine (HC.out _).mono ?_; rintro e w' ⟨rfl, rfl⟩) | (go_at_call 54; refine (HDG.out _).mono ?_; rintro e w' ⟨rfl, rfl⟩) | (at_builtin; refine wpList_append_own _ rfl _ _ 70 rfl w0.heap.size 5 i0 (.int .u8 0) 1 1 Tryd.underlying70 hi0 hz0 hz1 hz2 rfl (by decide) _ _ _ rfl (HW.out.alloc _) ⟨wr.heap.size, 0, none⟩ 1 1 [.int .u8 y] rfl rfl ?c1 ?c2 ?c3 ?c4 ?c5 ?_; rotate_left 5; intro v' w1 hown hgrow _; obtain ⟨g2, cap2, rfl⟩ := kp_shape hown (Nat.succ_pos _); obtain ⟨ho, hbb⟩ := own_byte hown hgrow HW.out HB.out (Nat.le_refl _) hwr; have HW1 := Lib.hid ho; have HB1 := Lib.hid hbb; clear hown hgrow ho hbb))
                case c1 =>
                  intro j u hj
                  match j, hj with
                  | 0, hj => simp at hj; subst hj; simp [Addr.add]
                case c2 => intro u hu; simp at hu; subst hu; rfl
                case c3 => exact h63
                case c4 => omega
                case c5 => simp; omega
                go_roundw
                case rel => exact ⟨k + 1, g2, cap2, by omega, by go_num, by rw [Hk1.out], HG.out.out, by rw [Hk1.out, Hcl.out]; exact HW1, HB1⟩
                case measure => simp [intOf]; omega
      · obtain rfl : k = s.size := by omega
        obtain rfl : r = true := by rw [← HR.out]; exact HT.out
        have hk1 : ¬ (s.size : Int) < (s.size : Int) := by omega
        have hlen : (textL (kfM s cs s.size)).length = keysTo s s.size := by rw [textL_length, kfM_length]
        have hstr : (convert 70 9 (.slice (some ⟨g, 0, none⟩) (keysTo s s.size) cap)).run Tryd.prog wr = .ok (.string (kfK s cs)) wr := by
          have hw := HW.out
          rw [← hlen] at hw ⊢
          exact own_string0 hw
        have HF := Lib.hid (below_step B0.out HB.out)
        clear HW HT hlen
        go_wp2
        go_ret2
        exact ⟨rfl, HF.out⟩
  · have e1 : kfC s bs cs = twoC s bs cs := by rw [kfC, if_neg h1]
    have e2 : kfV s bs cs = ⟨#[]⟩ := by rw [kfV, e1, if_neg h1]
    rw [e1, e2]
    obtain ⟨a, ha⟩ : ∃ a, twoC s bs cs = a := ⟨_, rfl⟩
    rw [ha] at ho h1 ⊢
    have HO := Lib.hid ho
    have hne : ((a : Int) != 0) = true := by rw [bne_iff_ne]; omega
    clear ho h1 e1 e2 ha I1 I2 b0 k1 k2 h h'
    go_enter Tryd.func19, Tryd.ntmps19
    go_wp2_with (go_at_call 51; refine HO.out.mono ?_; rintro e w' ⟨rfl, rfl⟩)
    go_ret2
    exact ⟨rfl, B0.out⟩
end Go.Proofs.YtjlgfgekiekenaaDoor
