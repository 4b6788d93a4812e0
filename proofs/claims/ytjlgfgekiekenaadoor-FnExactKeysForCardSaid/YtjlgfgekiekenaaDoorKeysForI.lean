/- impl.KeysFor answers the keys for a card, or the code, for every text of at most 1048576 bytes and every two cards: a contract. Conditions: the tables of unicode/utf8 and the errors lie in memory. -/
import Derived.Test.YtjlgfgekiekenaaDoorKeysFor
import Derived.Test.YtjlgfgekiekenaaDoorSame
namespace Go.Proofs.YtjlgfgekiekenaaDoor
open Go.ChangeShapes Go.WideShapes Go.ChangeAt Go.RowKit

theorem kfM_le (s : ByteArray) (cs : List Int) (k : Nat) : (kfM s cs k).length ≤ k := by rw [kfM_length]; exact keysTo_le s k

/-- what an append to the keys' holes leaves -/
theorem struck_put {w1 wr w9 : World} {s : ByteArray} {cs : List Int} {k : Nat} {v v' : Value} {m : Int} (hb : Below w1.heap.size w1 wr) (hit : wr.heap[w1.heap.size]? = some (.stringIter s (k + 1))) (hr : w1.heap.size + 1 ≤ wr.heap.size)
    (hold : wr.ownsRow (w1.heap.size + 1) 2 1 v (kfM s cs k).length ((kfM s cs k).map (Value.int .i64)))
    (hgrow : (wr.alloc (.cells #[.int .i64 m] 2)).grownBy w9 v.ownBlock)
    (hown : w9.ownsRow (w1.heap.size + 1) 2 1 v' ((kfM s cs k).length + 1) ((kfM s cs k).map (Value.int .i64) ++ [.int .i64 m])) :
    Below w1.heap.size w1 w9 ∧ w9.heap[w1.heap.size]? = some (.stringIter s (k + 1)) ∧ w1.heap.size + 1 ≤ w9.heap.size ∧ w9.ownsRow (w1.heap.size + 1) 2 1 v' (kfM s cs k ++ [m]).length ((kfM s cs k ++ [m]).map (Value.int .i64)) := by
  obtain ⟨ho, hb9⟩ := own_more hown hgrow hold hb (by omega) (by omega)
  exact ⟨hb9, (kp_append hgrow hold (by omega) (by omega)).trans hit, by have := hgrow.size; simp at this; omega, ho⟩

set_option maxHeartbeats 4000000 in
set_option maxRecDepth 100000 in
theorem implKeysFor_any (s : ByteArray) (A A' : Option Addr) (c c' B : Nat) (bs cs : List Int) (hs : s.size ≤ 1048576) (w : World) (h : Ints w B A bs) (h' : Ints w B A' cs) (hB : B ≤ w.heap.size) (hn : bs.length ≤ 1048576) (hn' : cs.length ≤ 1048576) (hT : Utf8In w) {aC aS aF aL aM : Addr} (S : PunchErrs w aC aS aF aL) (SM : Sents w aL aF aM) :
    Calls Tryd.prog 20 #[.string s, .agg #[.slice A bs.length c], .agg #[.slice A' cs.length c']] w fun e w' => e = .returned (.tuple #[.string (kfV s bs cs), .int .i64 (kfC s bs cs)]) ∧ Below w.heap.size w w' := by
  obtain ⟨i0, hi0, hz0, hz1, hz2⟩ := info_parts info_int64
  have b0 := ((below_box w (.cells #[.slice A bs.length c] 29)).alloc (by simp) (.cells #[.slice A' cs.length c'] 29)).alloc (by simp; omega) (.cells #[.slice A bs.length c, .slice A' cs.length c'] 29)
  have hck := checkProgram_any s (some ⟨w.heap.size + 1 + 1, 0, none⟩) 2 [⟨A, c, bs⟩, ⟨A', c', cs⟩] (w.heap.size + 1 + 1 + 1) (((w.alloc (.cells #[.slice A bs.length c] 29)).alloc (.cells #[.slice A' cs.length c'] 29)).alloc (.cells #[.slice A bs.length c, .slice A' cs.length c'] 29)) (deck_two _ A A' c c' bs cs B (w.heap.size + 1 + 1) (h.below (b0.mono hB)) (h'.below (b0.mono hB)) (by omega) (by simp [go_sem]) (by simp [go_sem])) (by simp) (by simp) (by simp; exact ⟨hn, hn'⟩) hs
  rw [chkC_two] at hck
  have hck' : Calls Tryd.prog 45 #[.string s, .slice (some ⟨w.heap.size + 1 + 1, 0, none⟩) 2 2] (((w.alloc (.cells #[.slice A bs.length c] 29)).alloc (.cells #[.slice A' cs.length c'] 29)).alloc (.cells #[.slice A bs.length c, .slice A' cs.length c'] 29)) fun e w' => e = .returned (.int .i64 (twoC s bs cs)) ∧ Below (((w.alloc (.cells #[.slice A bs.length c] 29)).alloc (.cells #[.slice A' cs.length c'] 29)).alloc (.cells #[.slice A bs.length c, .slice A' cs.length c'] 29)).heap.size (((w.alloc (.cells #[.slice A bs.length c] 29)).alloc (.cells #[.slice A' cs.length c'] 29)).alloc (.cells #[.slice A bs.length c, .slice A' cs.length c'] 29)) w' := hck
  have B0 := Lib.hid b0
  have HS := Lib.hid S
  have HSM := Lib.hid SM
  have HT := Lib.hid hT
  have H := Lib.hid h
  have H' := Lib.hid h'
  clear hck b0 S SM hT h h'
  by_cases h1 : twoC s bs cs = 0
  · obtain ⟨p1, p2, p3, p4, p5⟩ := twoC_zero h1
    have hsz := prog_size s p1
    have e1 : kfC s bs cs = if kfTo s bs cs s.size = true then 0 else 3 := by rw [kfC, if_pos h1]
    have e2 : kfV s bs cs = if kfTo s bs cs s.size = true then kfK s cs else ⟨#[]⟩ := by
      rw [kfV, e1]
      cases kfTo s bs cs s.size <;> simp
    rw [e1, e2]
    have hmain := kf_main s bs cs (prog_letters s p1) p5
    have htext := kfTo_text s bs cs s.size
    have hpb : pbC s bs (kfK s cs) = badC s (kfK s cs) s.size := by
      have hc0 : cardC s bs = 0 := by simp [cardC, p1, p2, p4]
      rw [pbC, if_pos hc0, keysC, if_pos (kfK_size s cs)]
    have hKs : (kfK s cs).size ≤ 1048576 := by
      rw [kfK_size]
      have := keysTo_le s s.size
      omega
    obtain ⟨r, hr⟩ : ∃ r, kfTo s bs cs s.size = r := ⟨_, rfl⟩
    rw [hr] at hmain htext ⊢
    obtain ⟨K, hKK⟩ : ∃ K, kfK s cs = K := ⟨_, rfl⟩
    rw [hKK] at hmain hpb hKs ⊢
    have HKK := Lib.hid hKK
    rw [h1] at hck'
    have HC := Lib.hid hck'
    have HMain := Lib.hid hmain
    have HText := Lib.hid htext
    have HPB := Lib.hid hpb
    have HKs := Lib.hid hKs
    have HL := Lib.hid (prog_letters s p1)
    have HLb := Lib.hid p4
    have HLc := Lib.hid p5
    have PG := Lib.hid (fun W (hW : Below w.heap.size w W) (A : Option Addr) (c B : Nat) (hI : Ints W B A bs) (hB : B ≤ W.heap.size) (e : pbC s bs K = 0) => implPunchBy_good A c s K bs B hs hKs W hI hB hn (HT.out.below hW) (HS.out.below hW) e)
    have PB := Lib.hid (fun W (hW : Below w.heap.size w W) (A : Option Addr) (c B : Nat) (hI : Ints W B A bs) (hB : B ≤ W.heap.size) (e : pbC s bs K ≠ 0) => implPunchBy_bad A c s K bs B hs hKs W hI hB hn (HT.out.below hW) (HS.out.below hW) e)
    have SC := Lib.hid (fun (A A' : Option Addr) (c c' : Nat) (xs : List Int) (B B' : Nat) (W : World) (h : Ints W B A xs) (h' : Ints W B' A' cs) (hB : B ≤ W.heap.size) (hB' : B' ≤ W.heap.size) (hx : xs.length ≤ 1048576) => implSameCard_any A A' c c' xs cs B B' W h h' hB hB' hx (by omega))
    have b0 := B0.out
    simp only [p4, p5] at HC b0 PG PB SC ⊢
    have B0' := Lib.hid b0
    clear hmain htext hpb hKs hKK e1 e2 hck' p1 p2 p3 p4 p5 h1 hr b0 B0
    go_enter Tryd.func20, Tryd.ntmps20
    go_wp2_with fail
    refine HC.out.mono ?_
    rintro e w1 ⟨rfl, hb1⟩
    have B1 := Lib.hid (below_step B0'.out hb1)
    have c0 := cell_kept (p := ⟨w.heap.size, 0, none⟩) (v := .slice A s.size c) (by simp [go_sem]) hb1
    have c1 := cell_kept (p := ⟨w.heap.size + 1, 0, none⟩) (v := .slice A' s.size c') (by simp [go_sem]) hb1
    have J2 := Lib.hid (H'.out.below (B1.out.mono hB))
    have J1 := Lib.hid (H.out.below (B1.out.mono hB))
    have hB1 : B ≤ w1.heap.size := Nat.le_trans hB B1.out.size
    clear hb1 HC H H' B0'
    go_wp2
    go_loopw [9] (fun v wr => ∃ k : Nat, ∃ vv : Value, k ≤ s.size ∧ vv = v ∧ Hid (wr.heap[w1.heap.size]? = some (.stringIter s k)) ∧ Hid (wr.ownsRow (w1.heap.size + 1) 2 1 v (kfM s cs k).length ((kfM s cs k).map (Value.int .i64))) ∧ Hid (w1.heap.size + 1 ≤ wr.heap.size) ∧ Hid (Below w1.heap.size w1 wr)) (fun _ wr => s.size - wr.iterPos w1.heap.size)
    case atStart =>
      refine ⟨0, _, Nat.zero_le _, rfl, ?_, ⟨rfl, Or.inl ⟨rfl, rfl⟩⟩, ?_, ?_⟩
      · exact World.iter_heap w1 s 0
      · show _ ≤ _
        simp [World.iter]
      · exact below_box w1 _
    case round =>
      obtain ⟨k, vv, hk, rfl, HIt, HW, HRm, HB⟩ := hrel
      by_cases hlt : k < s.size
      · have hge := byte_of s k hlt
        have hlet := letter_at s k HL.out hlt
        have hsm : (s[k]'hlt).toNat < 128 := by
          rw [hge] at hlet
          by_cases hh : 128 ≤ (s[k]'hlt).toNat
          · rw [letterB_high _ hh] at hlet; cases hlet
          · omega
        have hnx : ∀ ty, (Instr.next (.pointer (some ⟨w1.heap.size, 0, none⟩)) true ty).run Tryd.prog wr = _ := fun ty => Lib.run_next_ascii_at wr w1.heap.size s k ty HIt.out hlt hsm
        obtain ⟨l, hll⟩ : ∃ l, (s[k]'hlt).toNat = l := ⟨_, rfl⟩
        have hgl : (s.get! k).toNat = l := by rw [hge, hll]
        rw [hll] at hnx
        have hko : ∀ i, i ≠ w1.heap.size → (wr.iterAt w1.heap.size s (k + 1)).heap[i]? = wr.heap[i]? := fun i hi => Lib.iterAt_other _ _ _ _ _ hi
        have HB2 := Lib.hid (Lib.below_iterAt HB.out (Nat.le_refl _) s (k + 1))
        have HIt2 := Lib.hid (Lib.iterAt_heap wr w1.heap.size s k (k + 1) HIt.out)
        have HW2 := Lib.hid (kp_moved HW.out (fun i hi _ => hko i (by omega)))
        have HRm2 : Hid (w1.heap.size + 1 ≤ (wr.iterAt w1.heap.size s (k + 1)).heap.size) := by show _ ≤ _; rw [Lib.iterAt_size]; exact HRm.out
        have HWK := Lib.hid (fun W => wantsKey_any l W)
        have d1 := cell_kept c1 HB2.out
        have hjl := kfM_le s cs k
        have hlt' : (k : Int) < (s.size : Int) := by omega
        have hk0 : (0 : Int) ≤ (k : Int) := Int.natCast_nonneg _
        have HIt0 := HIt
        clear hge hlet hsm hll hko HB HW HIt HRm
        cases hkb : keyB l
        · rw [hkb] at HWK
          have hm1 : kfM s cs (k + 1) = kfM s cs k := by rw [kfM, hgl, hkb]; rfl
          have Hm1 := Lib.hid hm1
          clear hkb hgl hm1
          go_wp2_with (go_at_call 55; refine (HWK.out _).mono ?_; rintro e w' ⟨rfl, rfl⟩)
          go_roundw
          case rel => exact ⟨k + 1, _, by omega, rfl, HIt2, by rw [Hm1.out]; exact HW2, HRm2, HB2⟩
          case measure =>
            have a1 := HIt0.out
            have a2 := HIt2.out
            simp only [World.iterPos, a1, a2]
            omega
        · rw [hkb] at HWK
          obtain ⟨gc, oc, hA', _, hcc⟩ := (J2.out.below (HB2.out.mono hB1)) (by rw [HLc.out]; omega)
          have y1 := hcc k (by rw [HLc.out]; exact hlt)
          rw [hA'] at d1
          obtain ⟨m, hm⟩ : ∃ m, cs[k]?.getD 0 = m := ⟨_, rfl⟩
          rw [hm] at y1
          have hm1 : kfM s cs (k + 1) = kfM s cs k ++ [m] := by rw [kfM, hgl, hkb, hm]; rfl
          have Hm1 := Lib.hid hm1
          have h63 : (kfM s cs k).length + 1 ≤ maxLen := by unfold maxLen; omega
          have h8 : ((kfM s cs k).length + 1) * 8 ≤ 140737488355328 := by omega
          clear hkb hgl hm1 hcc hA' hm
          go_wp2_with (first | (go_at_call 55; refine (HWK.out _).mono ?_; rintro e w' ⟨rfl, rfl⟩) | (at_builtin; refine wpList_append_own _ rfl _ _ 62 rfl (w1.heap.size + 1) 2 i0 (.int .i64 0) 1 8 Tryd.underlying62 hi0 hz0 hz1 hz2 rfl (by decide) _ _ _ rfl (HW2.out.alloc _) ⟨(wr.iterAt w1.heap.size s (k + 1)).heap.size, 0, none⟩ 1 1 [.int .i64 m] rfl rfl ?c1 ?c2 ?c3 ?c4 ?c5 ?_; rotate_left 5; intro v' w9 hown hgrow _; have HG9 := Lib.hid hgrow; have HO9 := Lib.hid hown; clear hown hgrow))
          case c1 =>
            intro j u hj
            match j, hj with
            | 0, hj => simp at hj; subst hj; simp [Addr.add]
          case c2 => intro u hu; simp at hu; subst hu; rfl
          case c3 => exact h63
          case c4 => exact h8
          case c5 => have := HRm2.out; simp; omega
          obtain ⟨hq1, hq2, hq3, hq4⟩ := struck_put HB2.out HIt2.out HRm2.out HW2.out HG9.out HO9.out
          have Q2 := Lib.hid hq2
          rw [← Hm1.out] at hq4
          go_roundw
          case rel => exact ⟨k + 1, _, by omega, rfl, hq2, hq4, hq3, hq1⟩
          case measure =>
            have a1 := HIt0.out
            have a2 := Q2.out
            simp only [World.iterPos, a1, a2]
            omega
      · obtain rfl : k = s.size := by omega
        have hnx : ∀ ty, (Instr.next (.pointer (some ⟨w1.heap.size, 0, none⟩)) true ty).run Tryd.prog wr = _ := fun ty => Lib.run_next_end_at wr w1.heap.size s s.size ty HIt.out hlt
        obtain ⟨As, cap, hv, hrow⟩ := owned_list HW.out rfl
        have hints : Ints wr wr.heap.size As (kfM s cs s.size) := fun h0 => by
          obtain ⟨g, ex, hA, hg, hr⟩ := hrow h0
          rw [hA]
          exact (hr.ints.more hr.lt) h0
        subst hv
        have d0 := cell_kept c0 HB.out
        have d1 := cell_kept c1 HB.out
        have BB := Lib.hid (below_step B1.out HB.out)
        have L1 := Lib.hid (J1.out.below (HB.out.mono hB1))
        have L2 := Lib.hid (J2.out.below (HB.out.mono hB1))
        have hB2 : B ≤ wr.heap.size := Nat.le_trans hB1 HB.out.size
        have htx := text_any As cap (kfM s cs s.size) wr.heap.size wr hints (Nat.le_refl _) (by have := kfM_le s cs s.size; omega) (HSM.out.below BB.out)
        obtain ⟨q, hq⟩ : ∃ q, textOk (kfM s cs s.size) = q := ⟨_, rfl⟩
        rw [hq] at htx
        have HQ := Lib.hid hq
        cases q
        · have HTX := Lib.hid htx
          obtain rfl : r = false := by
            cases r
            · rfl
            · have := HText.out rfl
              rw [HQ.out] at this
              cases this
          have hn : ∀ (a : Addr) (w : World), (binOp .neq 64 (.iface 182 (.pointer (some a))) .nilIface).run Tryd.prog w = .ok (.bool true) w := fun a w => run_neq_iface_nil w 64 (by kernel_rfl) _ _
          have hna := hn aM
          unfold textErr at HTX
          clear htx hq hints hrow HIt HW HRm HB d0 d1 hn
          go_wp2_with fail
          refine HTX.out.mono ?_
          rintro e w2 ⟨rfl, hb⟩
          have B2 := Lib.hid (below_step BB.out hb)
          clear hb
          go_wp2
          go_ret2
          exact ⟨rfl, B2.out⟩
        · rw [if_pos rfl] at htx
          have htx' : Calls Tryd.prog 56 #[.slice As (kfM s cs s.size).length cap] wr fun e w' => e = .returned (.tuple #[.string K, .nilIface]) ∧ Below wr.heap.size wr w' := by
            rw [← HKK.out]
            exact htx
          have HTX := Lib.hid htx'
          have HM2 := Lib.hid (HMain.out HQ.out)
          clear htx htx' hq hints hrow HIt HW HRm HB HMain HKs
          go_wp2_with fail
          refine HTX.out.mono ?_
          rintro e w2 ⟨rfl, hb⟩
          have B2 := Lib.hid (below_step BB.out hb)
          have f0 := cell_kept d0 hb
          have f1 := cell_kept d1 hb
          have M1 := Lib.hid (L1.out.below (hb.mono hB2))
          have M2 := Lib.hid (L2.out.below (hb.mono hB2))
          have hB3 : B ≤ w2.heap.size := Nat.le_trans hB2 hb.size
          clear hb d0 d1 HTX BB
          by_cases hp : pbC s bs K = 0
          · have HCa := Lib.hid (PG.out w2 B2.out A c B M1.out hB3 hp)
            have hz0' := Lib.hid (punL_length s bs K s.size)
            have HP0 : Hid (badC s K s.size = 0) := by show _ = _; rw [← HPB.out]; exact hp
            obtain ⟨zs, hz⟩ : ∃ zs, punL s bs K s.size = zs := ⟨_, rfl⟩
            rw [hz] at HCa HM2 hz0'
            clear hp hz PG PB
            go_wp2_with fail
            refine HCa.out.mono ?_
            rintro e w3 ⟨g, cap3, ex, rfl, hg, hb, hrow⟩
            have B3 := Lib.hid (below_step B2.out hb)
            have g1 := cell_kept f1 hb
            have N2 := Lib.hid (M2.out.below (hb.mono hB3))
            have R3 := Lib.hid hrow
            have hB4 : B ≤ w3.heap.size := Nat.le_trans hB3 hb.size
            clear hb hrow f0 f1 M1 M2 HCa
            have bx := below_box w3 (.cells #[.slice (some ⟨g, 0, none⟩) zs.length cap3] 29)
            have g2 := cell_kept g1 bx
            have o2 : (w3.alloc (.cells #[.slice (some ⟨g, 0, none⟩) zs.length cap3] 29)).cell? ⟨w3.heap.size, 0, none⟩ = some (.slice (some ⟨g, 0, none⟩) zs.length cap3) := by simp
            have hsc := SC.out (some ⟨g, 0, none⟩) A' cap3 c' zs (g + 1) B (w3.alloc (.cells #[.slice (some ⟨g, 0, none⟩) zs.length cap3] 29)) (R3.out.alloc _).ints (N2.out.below (bx.mono hB4)) (by have := R3.out.lt; simp; omega) (by simp; omega) (by rw [hz0'.out]; omega)
            by_cases hzc : zs = cs
            · obtain rfl : r = true := (HM2.out).1 ⟨HP0.out, hzc⟩
              rw [decide_eq_true hzc] at hsc
              have HSC := Lib.hid hsc
              have BX := Lib.hid bx
              clear hsc hzc bx
              go_wp2_with (go_at_call 57; refine HSC.out.mono ?_; rintro e w4 ⟨rfl, hb4⟩; have B4 := Lib.hid (below_step (below_step B3.out BX.out) hb4); clear hb4)
              go_ret2
              exact ⟨rfl, B4.out⟩
            · obtain rfl : r = false := by
                cases r
                · rfl
                · exact absurd (HM2.out.2 rfl).2 hzc
              rw [decide_eq_false hzc] at hsc
              have HSC := Lib.hid hsc
              have BX := Lib.hid bx
              clear hsc hzc bx
              go_wp2_with (go_at_call 57; refine HSC.out.mono ?_; rintro e w4 ⟨rfl, hb4⟩; have B4 := Lib.hid (below_step (below_step B3.out BX.out) hb4); clear hb4)
              go_ret2
              exact ⟨rfl, B4.out⟩
          · have HCa := Lib.hid (PB.out w2 B2.out A c B M1.out hB3 hp)
            obtain rfl : r = false := by
              cases r
              · rfl
              · have := (HM2.out.2 rfl).1
                rw [← HPB.out] at this
                exact absurd this hp
            obtain ⟨a, ha⟩ : ∃ a, pbC s bs K = a := ⟨_, rfl⟩
            rw [ha] at HCa hp
            have hne : ((a : Int) != 0) = true := by rw [bne_iff_ne]; omega
            clear hp ha PG PB
            go_wp2_with fail
            refine HCa.out.mono ?_
            rintro e w3 ⟨rfl, hb⟩
            have B3 := Lib.hid (below_step B2.out hb)
            clear hb
            go_wp2
            go_ret2
            exact ⟨rfl, B3.out.alloc B3.out.size _⟩
  · have e1 : kfC s bs cs = twoC s bs cs := by rw [kfC, if_neg h1]
    have e2 : kfV s bs cs = ⟨#[]⟩ := by rw [kfV, e1, if_neg h1]
    rw [e1, e2]
    obtain ⟨a, ha⟩ : ∃ a, twoC s bs cs = a := ⟨_, rfl⟩
    rw [ha] at hck' h1 ⊢
    have HC := Lib.hid hck'
    have hne : ((a : Int) != 0) = true := by rw [bne_iff_ne]; omega
    clear hck' h1 e1 e2 ha
    go_enter Tryd.func20, Tryd.ntmps20
    go_wp2_with fail
    refine HC.out.mono ?_
    rintro e w1 ⟨rfl, hb1⟩
    have B1 := Lib.hid (below_step B0.out hb1)
    clear hb1 HC
    go_wp2
    go_ret2
    exact ⟨rfl, B1.out⟩
end Go.Proofs.YtjlgfgekiekenaaDoor
