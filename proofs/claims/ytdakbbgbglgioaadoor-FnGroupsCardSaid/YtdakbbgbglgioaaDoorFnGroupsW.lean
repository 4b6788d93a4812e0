/- The walk of the law FnGroups: groups of a drawn deck begin where its field changes, and have their first cards. -/
import Derived.Test.YtdakbbgbglgioaaDoorM2
import Derived.Test.YtdakbbgbglgioaaDoorM10
import Derived.Test.YtdakbbgbglgioaaDoorM12
import Derived.Test.YtdakbbgbglgioaaDoorSame
import Derived.Test.YtdakbbgbglgioaaDoorBytes
import Derived.Deep.QuietTactic
import Derived.BigQuiet
import Derived.Deep.RegionHeld3
import Derived.Deep.DeepCutAuto
namespace Go.Proofs.YtdakbbgbglgioaaDoor.fnGroups
open Go.ChangeShapes Go.WideShapes Go.ChangeAt Go.RowKit

set_option maxRecDepth 100000 in
theorem walk_long (A A' : Option Addr) (n n' c c' : Nat) (w : World) (hn : n ≤ 9223372036854775807) (hn' : n' ≤ 9223372036854775807) (h : 3000 < n ∨ 3000 < n') :
    Calls Tryd.prog 6 #[.slice A n c, .slice A' n' c'] w fun e w' => e = .returned (.bool true) ∧ Below w.heap.size w w' := by
  have hL := a2Long_any A A' n n' c c' w hn hn'
  have e : (decide (3000 < n) || decide (3000 < n')) = true := by simpa using h
  rw [e] at hL
  have HL := Lib.hid hL
  clear hL e h
  go_enter Tryd.func6, Tryd.ntmps6
  go_wp2_with fail
  refine HL.out.mono ?_
  rintro e w1 ⟨rfl, rfl⟩
  go_wp2
  go_ret
  exact ⟨rfl, Below.refl _ _⟩

theorem same_any (e d : CardV) (M : Nat) (W : World) (h : Ints W W.heap.size e.at_ e.xs) (h' : Ints W W.heap.size d.at_ d.xs) (hx : e.xs = d.xs) (hl : e.xs.length = M) (hm : M ≤ 1048576) :
    Calls Tryd.prog 23 #[.agg #[.slice e.at_ M e.cap], .agg #[.slice d.at_ M d.cap]] W fun e w' => e = .returned (.bool true) ∧ Below W.heap.size W w' := by
  subst hl
  have := specSameCard_any e.at_ d.at_ e.cap d.cap e.xs d.xs W.heap.size W.heap.size W h h' (Nat.le_refl _) (Nat.le_refl _) hm (by rw [← hx]; omega)
  rw [← hx, decide_eq_true rfl] at this
  exact this
theorem cmp_any {S : List (List Int)} {i j k l : Nat} (e d : CardV) (M : Nat) (W : World) (he : S[k]? = some e.xs) (hd : S[l]? = some d.xs) (hv : deckB S = true) (hk : keysB S i j = true) (hij : i < j) (hj : j ≤ widthH S) (ge gd : Nat) (ae : e.at_ = some ⟨ge, 0, none⟩) (ad : d.at_ = some ⟨gd, 0, none⟩)
    (ce : e.xs.length ≤ e.cap ∧ e.cap ≤ 9223372036854775807) (cd : d.xs.length ≤ d.cap ∧ d.cap ≤ 9223372036854775807) (h : Ints W W.heap.size e.at_ e.xs) (h' : Ints W W.heap.size d.at_ d.xs) (hl : widthH S = M) :
    Calls Tryd.prog 16 #[.agg #[.slice e.at_ M e.cap], .agg #[.slice d.at_ M d.cap], .agg #[.int .i64 i, .int .i64 j]] W fun r w' => r = .returned (.tuple #[.int .i64 (cmpK S i j k l), .int .i64 0]) ∧ Below W.heap.size W w' := by
  subst hl
  obtain ⟨y1, y2⟩ := deck_width hv he
  obtain ⟨y3, y4⟩ := deck_width hv hd
  have h20 := (okB_parts y1).2
  have h20' := (okB_parts y3).2
  rw [ae] at h ⊢
  rw [ad] at h' ⊢
  have k' := specCmp_good ge 0 e.cap gd 0 d.cap e.xs d.xs W.heap.size W.heap.size i j W h h' (Nat.le_refl _) (Nat.le_refl _) ce.1 ⟨by omega, ce.2⟩ cd.1 ⟨by omega, cd.2⟩ hij (by omega) (by omega) y1 y3
  rw [keysB_at he hk, keysB_at hd hk, y2, y4] at k'
  have e : cmpK S i j k l = cmpTo (partOf e.xs i j) (partOf d.xs i j) (j - i) := by rw [cmpK, he, hd]; rfl
  rw [e]
  exact k'


theorem where_more (q : Nat → Bool) (n : Nat) : ∀ k, wherePl q n <+: wherePl q (n + k)
  | 0 => List.prefix_refl _
  | k + 1 => by
    have ih := where_more q n k
    rw [← Nat.add_assoc]
    cases h : q (n + k) with
    | false => rw [wherePl_no h]; exact ih
    | true => rw [wherePl_yes h]; exact ih.trans (List.prefix_append _ _)
theorem where_at {q : Nat → Bool} {n i : Nat} (hi : i < n) (h : q i = true) : (wherePl q n)[(wherePl q i).length]? = some (i : Int) := by
  have hp := where_more q (i + 1) (n - (i + 1))
  rw [show i + 1 + (n - (i + 1)) = n by omega, wherePl_yes h] at hp
  obtain ⟨t, ht⟩ := hp
  rw [← ht, List.append_assoc, List.getElem?_append_right (Nat.le_refl _), Nat.sub_self]
  rfl
theorem where_le {p q : Nat → Bool} (h : ∀ k, p k = true → q k = true) : ∀ n, (wherePl p n).length ≤ (wherePl q n).length
  | 0 => Nat.le_refl _
  | n + 1 => by
    have ih := where_le h n
    cases hp : p n with
    | false =>
      rw [wherePl_no hp]
      have := (where_more q n 1).length_le
      omega
    | true =>
      rw [wherePl_yes hp, wherePl_yes (h n hp)]
      simp only [List.length_append, List.length_cons, List.length_nil]
      omega
theorem seq_grp (H : List (List Int)) (i j k : Nat) (h : seqQ H i j k = true) : grpQ H i j k = true := by
  unfold seqQ at h
  unfold grpQ
  rw [Bool.and_eq_true, decide_eq_true_eq, decide_eq_true_eq] at h
  have : ¬ cmpK H i j k (k - 1) = 0 := by omega
  simp [this]

set_option maxRecDepth 100000 in
set_option maxHeartbeats 8000000 in
theorem walk_short (A A' : Option Addr) (n n' c c' : Nat) (w : World) (h0 : BytesAt w w.heap.size A n) (h1 : BytesAt w w.heap.size A' n') (hn : n ≤ 3000) (hn' : n' ≤ 3000) (hP : Places w) :
    Calls Tryd.prog 6 #[.slice A n c, .slice A' n' c'] w fun e w' => e = .returned (.bool true) ∧ Below w.heap.size w w' := by
  have hL := a2Long_any A A' n n' c c' w (by omega) (by omega)
  have e : (decide (3000 < n) || decide (3000 < n')) = false := by simp; omega
  rw [e] at hL
  have HL := Lib.hid hL
  have HD := Lib.hid (A2Deck_any A n c w.heap.size w h0 (Nat.le_refl _) hn)
  have H1 := Lib.hid h1
  have HPL := Lib.hid hP
  clear hL e h0 h1 hP
  go_enter Tryd.func6, Tryd.ntmps6
  go_wp2_with fail
  refine HL.out.mono ?_
  rintro e w1 ⟨rfl, rfl⟩
  go_wp2_with fail
  refine HD.out.mono ?_
  rintro e w2 ⟨m, gq, cq, D, hm1, hm3, rfl, hl8, hb, hd⟩
  have B2 := Lib.hid hb
  obtain ⟨N, hN⟩ : ∃ N, D.length = N := ⟨_, rfl⟩
  obtain ⟨v1, v2, v3, v4⟩ := drawn_deck hd (by omega)
  have HF := Lib.hid (a2Field_drawn hd hm1 (by omega) (by omega) A' n' c' w.heap.size (H1.out.below hb) hb.size hn')
  have HK := Lib.hid hd.deck
  have HV1 := Lib.hid v1
  have HV3 := Lib.hid v3
  have HV4 := Lib.hid v4
  have HX : Hid (∀ d ∈ D, d.xs.length ≤ 1048576) := fun d hd' => by
    obtain ⟨b, ex, _, _, _, hl, _⟩ := hd.2 d hd'
    omega
  have HAD : Hid (∀ d ∈ D, ∃ b, d.at_ = some ⟨b, 0, none⟩) := fun d hd' => by
    obtain ⟨b, ex, e1, _⟩ := hd.2 d hd'
    exact ⟨b, e1⟩
  have HN := Lib.hid hN
  rw [hN] at hl8 ⊢
  simp only [hN] at HF
  clear hb hd HD HL v1 v2 v3 v4 hN H1
  go_wp2_with fail
  refine HF.out.mono ?_
  rintro e w3 ⟨i, j, rfl, hij, hjm, hb⟩
  have b4 := below_box w3 (.cells #[.int .i64 i, .int .i64 j] 26)
  have f0 : (w3.alloc (.cells #[.int .i64 i, .int .i64 j] 26)).cell? ⟨w3.heap.size, 0, none⟩ = some (.int .i64 i) := by simp [go_sem]
  have f1 : (w3.alloc (.cells #[.int .i64 i, .int .i64 j] 26)).cell? ⟨w3.heap.size, 1, none⟩ = some (.int .i64 j) := by simp [go_sem]
  obtain ⟨p, hp⟩ : ∃ p, w3.heap.size = p := ⟨_, rfl⟩
  obtain ⟨W4, eW⟩ : ∃ W4, w3.alloc (.cells #[.int .i64 i, .int .i64 j] 26) = W4 := ⟨_, rfl⟩
  rw [eW] at b4 f0 f1
  rw [hp] at f0 f1
  have K4 := Lib.hid (below_step hb b4)
  have B4 := Lib.hid (below_step B2.out (below_step hb b4))
  have HW := Lib.hid eW
  have hcode := drawn_code HV1.out (HV3.out i j) hij hjm
  have hHn : (holes D).length = N := by simp [holes, HN.out]
  have hg := fun (W : World) (hW : Below w2.heap.size w2 W) => implGroups_any (some ⟨gq, 0, none⟩) cq D w2.heap.size i j W (HK.out.below hW) hW.size (by rw [HN.out]; omega) HX.out HV4.out (HPL.out.below (below_step B2.out hW))
  have hf := fun (W : World) (hW : Below w2.heap.size w2 W) => implFirstGC_any (some ⟨gq, 0, none⟩) cq D w2.heap.size i j W (HK.out.below hW) hW.size (by rw [HN.out]; omega) HX.out HV4.out (HPL.out.below (below_step B2.out hW))
  have hs := fun (W : World) (hW : Below w2.heap.size w2 W) => implSeq_any (some ⟨gq, 0, none⟩) cq D w2.heap.size i j W (HK.out.below hW) hW.size (by rw [HN.out]; omega) HX.out HV4.out (HPL.out.below (below_step B2.out hW))
  simp only [grpA, firstA, seqA, hcode, if_true, Int.toNat_natCast, HN.out, hHn] at hg hf hs
  have hat := fun t (ht : t < N) (hq : grpQ (holes D) i j t = true) => where_at (q := grpQ (holes D) i j) ht hq
  have hle := where_le (seq_grp (holes D) i j) N
  have hfl : (cardsPl (grpQ (holes D) i j) (holes D) N).length = (wherePl (grpQ (holes D) i j) N).length := by rw [cardsPl_where, List.length_map]
  have hfa : ∀ t, t < N → grpQ (holes D) i j t = true → (cardsPl (grpQ (holes D) i j) (holes D) N)[(wherePl (grpQ (holes D) i j) t).length]? = some ((holes D)[t]?.getD []) := fun t ht hq => by
    rw [cardsPl_where, List.getElem?_map, hat t ht hq, Option.map_some, Int.toNat_natCast]
  have hvn := wherePl_len (grpQ (holes D) i j) N
  obtain ⟨V, hV⟩ : ∃ V, wherePl (grpQ (holes D) i j) N = V := ⟨_, rfl⟩
  obtain ⟨S, hS⟩ : ∃ S, cardsPl (grpQ (holes D) i j) (holes D) N = S := ⟨_, rfl⟩
  obtain ⟨U, hU⟩ : ∃ U, wherePl (seqQ (holes D) i j) N = U := ⟨_, rfl⟩
  simp only [hV] at hg hat hle hfl hvn
  simp only [hS] at hf hfa hfl
  simp only [hU] at hs hle
  obtain ⟨M, hM⟩ : ∃ M, widthH (holes D) = M := ⟨_, rfl⟩
  have hcmp : ∀ s (d d' : CardV) (W : World), D[s]? = some d → D[s + 1]? = some d' → Below w2.heap.size w2 W → Calls Tryd.prog 16 #[.agg #[.slice d.at_ M d.cap], .agg #[.slice d'.at_ M d'.cap], .agg #[.int .i64 i, .int .i64 j]] W fun r w' => r = .returned (.tuple #[.int .i64 (cmpK (holes D) i j s (s + 1)), .int .i64 0]) ∧ Below W.heap.size W w' := fun s d d' W hd hd' hW => by
    obtain ⟨b1, a1⟩ := HAD.out d (List.mem_of_getElem? hd)
    obtain ⟨b2, a2⟩ := HAD.out d' (List.mem_of_getElem? hd')
    obtain ⟨b3, o3, _, _, hc3⟩ := HK.out (by have := (List.getElem?_eq_some_iff.1 hd).1; omega)
    exact cmp_any d d' M W (holes_at hd) (holes_at hd') HV1.out (HV3.out i j) hij hjm b1 b2 a1 a2 (HV4.out d (List.mem_of_getElem? hd)) (HV4.out d' (List.mem_of_getElem? hd')) (((hc3 s d hd).2.below hW).more hW.size) (((hc3 (s + 1) d' hd').2.below hW).more hW.size) hM
  have hdw : ∀ t (d : CardV), D[t]? = some d → d.xs.length = M ∧ M ≤ 20 := fun t d hd => by
    obtain ⟨y1, y2⟩ := deck_width HV1.out (holes_at hd)
    have := (okB_parts y1).2
    omega
  have HG := Lib.hid hg
  have HFG := Lib.hid hf
  have HS := Lib.hid hs
  have HAT := Lib.hid hat
  have HFA := Lib.hid hfa
  have HFL := Lib.hid hfl
  have HLE := Lib.hid hle
  have HVN := Lib.hid hvn
  have HVV := Lib.hid hV
  have HCMP := Lib.hid hcmp
  have HDW := Lib.hid hdw
  clear hHn hg hf hs hat hfa hfl hle hvn hV hS hU hcmp hdw hcode b4 hb eW HF HV1 HV3 HV4 HPL hM
  go_wp2_with fail
  try rw [HW.out]
  refine (HG.out _ K4.out).mono ?_
  rintro e w5 ⟨A1, c1, rfl, hb, hi⟩
  have K5 := Lib.hid (below_step K4.out hb)
  have HI := Lib.hid hi
  have g0 := cell_kept f0 hb
  have g1 := cell_kept f1 hb
  clear hb hi f0 f1 HG
  go_wp2_with fail
  refine (HFG.out _ K5.out).mono ?_
  rintro e w6 ⟨A2, c2, E, rfl, hE, hb, hda, hcp⟩
  rw [HFL.out]
  have K6 := Lib.hid (below_step K5.out hb)
  have HI6 := Lib.hid (HI.out.later hb)
  have f0 := cell_kept g0 hb
  have f1 := cell_kept g1 hb
  have HE := Lib.hid hE
  have HDA := Lib.hid hda
  clear hb g0 g1 hE hda hcp HFG HI
  go_wp2_with fail
  refine (HS.out _ K6.out).mono ?_
  rintro e w7 ⟨A3, c3, rfl, hb, _⟩
  have K7 := Lib.hid (below_step K6.out hb)
  have HI7 := Lib.hid (HI6.out.later hb)
  have g0 := cell_kept f0 hb
  have g1 := cell_kept f1 hb
  have HDA7 := Lib.hid (HDA.out.later hb)
  clear hb f0 f1 HS HDA HI6
  obtain ⟨u, hu⟩ : ∃ u, V.length = u := ⟨_, rfl⟩
  obtain ⟨x, hx⟩ : ∃ x, U.length = x := ⟨_, rfl⟩
  have hxu : x ≤ u := by rw [← hu, ← hx]; exact HLE.out
  rw [hu, hx]
  have HU := Lib.hid hu
  have hun : u ≤ N := by rw [← hu]; exact HVN.out
  have e1 : ¬ (u : Int) < (x : Int) := by omega
  have e2 : ¬ u < x := by omega
  clear hu hx hxu HLE HVN
  go_wp2
  go_loopw [13, 14] (fun va vi wr => ∃ t : Nat, t ≤ N ∧ vi = .int .i64 t ∧ va = .int .i64 (((wherePl (grpQ (holes D) i j) t).length : Nat) : Int) ∧ Hid (Below w7.heap.size w7 wr)) (fun _ vi _ => N - (intOf vi).toNat)
  case atStart => exact ⟨0, Nat.zero_le _, rfl, rfl, Below.refl _ _⟩
  case round =>
    obtain ⟨t, ht, rfl, rfl, HB⟩ := hrel
    have KR := Lib.hid (below_step K7.out HB.out)
    by_cases hlt : t < N
    · obtain ⟨d, hd⟩ : ∃ d, D[t]? = some d := ⟨D[t]'(by rw [HN.out]; exact hlt), List.getElem?_eq_getElem _⟩
      obtain ⟨b3, o3, e3, _, hc3⟩ := HK.out (by rw [HN.out]; omega)
      obtain ⟨rfl, rfl⟩ : gq = b3 ∧ 0 = o3 := by injection e3 with e3; injection e3 with x1 x2; exact ⟨x1, x2⟩
      obtain ⟨cd, id⟩ := hc3 t d hd
      obtain ⟨hmd, hm20⟩ := HDW.out t d hd
      have k2 := cell_kept cd KR.out
      unfold CardV.value at k2
      rw [hmd, Nat.zero_add] at k2
      obtain ⟨y, hy⟩ : ∃ y, (wherePl (grpQ (holes D) i j) t).length = y := ⟨_, rfl⟩
      have hat := HAT.out t hlt
      have hfa := HFA.out t hlt
      rw [hy] at hat hfa
      rw [holes_at hd] at hfa
      have HY := Lib.hid hy
      have HD1 := Lib.hid hd
      rw [hy]
      have t0 : (0 : Int) ≤ (t : Int) := Int.natCast_nonneg _
      have t1 : (t : Int) < (N : Int) := by omega
      have y0 : (0 : Int) ≤ (y : Int) := Int.natCast_nonneg _
      -- what is there where a group begins
      have hbeg : grpQ (holes D) i j t = true → Hid (y < u ∧ ∃ (b1 : Nat) (ex1 : List Value) (b2 o2 : Nat) (e : CardV), A1 = some ⟨b1, 0, none⟩ ∧ A2 = some ⟨b2, o2, none⟩ ∧ Row w7 b1 V ex1 ∧ V[y]? = some (t : Int) ∧ w7.cell? ⟨b2, o2 + y, none⟩ = some (.slice e.at_ M e.cap) ∧ e.xs = d.xs ∧ ∀ W, Below w7.heap.size w7 W → Calls Tryd.prog 23 #[.agg #[.slice e.at_ M e.cap], .agg #[.slice d.at_ M d.cap]] W fun e w' => e = .returned (.bool true) ∧ Below W.heap.size W w') := fun hq => by
        have hv := hat hq
        have hyu : y < V.length := (List.getElem?_eq_some_iff.1 hv).1
        obtain ⟨b1, ex1, a1, _, _, hr1⟩ := HI7.out.top (by omega)
        have hfa' := hfa hq
        rw [← HE.out] at hfa'
        have hyE : y < E.length := by
          have := (List.getElem?_eq_some_iff.1 hfa').1
          rwa [holes_len] at this
        obtain ⟨e, he⟩ : ∃ e, E[y]? = some e := ⟨E[y]'hyE, List.getElem?_eq_getElem _⟩
        have hxe : e.xs = d.xs := by
          rw [holes_at he] at hfa'
          exact Option.some.inj hfa'
        have DE := HDA7.out.deck
        obtain ⟨b2, o2, a2, _, hc2⟩ := DE (by omega)
        obtain ⟨ce, ie⟩ := hc2 y e he
        have hme : e.xs.length = M := by rw [hxe, hmd]
        unfold CardV.value at ce
        rw [hme] at ce
        refine ⟨by rw [← HU.out]; exact hyu, b1, ex1, b2, o2, e, a1, a2, hr1, hv, ce, hxe, fun W hW => ?_⟩
        exact same_any e d M W ((ie.below hW).more hW.size) ((id.below (below_step K7.out hW)).more (below_step K7.out hW).size) hxe hme (by omega)
      have HBEG := Lib.hid hbeg
      clear hat hfa e3 cd hbeg hy
      rcases Nat.eq_zero_or_pos t with rfl | hpt
      · obtain ⟨hyu, b1, ex1, b2, o2, e, rfl, rfl, hr1, hvy, ce, hxe, hsm⟩ := (HBEG.out (by simp [grpQ])).out
        have hn1 : Hid ((wherePl (grpQ (holes D) i j) (0 + 1)).length = y + 1) := by
          show _ = _
          rw [wherePl_yes (by simp [grpQ]), List.length_append, HY.out]
          rfl
        have o1 := cell_kept (hr1.cell (i := y) (by rw [HU.out]; exact hyu)) HB.out
        rw [hvy] at o1
        have o2' : wr.cell? ⟨b1, y, none⟩ = some (.int .i64 ((0 : Nat) : Int)) := o1
        have c2 := cell_kept ce HB.out
        have HSM := Lib.hid hsm
        have y1 : (y : Int) < (u : Int) := by omega
        have y2 : ¬ (u : Int) ≤ (y : Int) := by omega
        have y3 : ¬ (y : Int) ≥ (u : Int) := by omega
        have y4 : ¬ u ≤ y := by omega
        clear hc3 id hd hmd hm20 hr1 hvy ce hxe hsm HBEG o1
        go_upto_region 19 with fail
        go_cut [119] (fun s0 wx => s0 = .bool false ∧ Below wr.heap.size wr wx)
        case first =>
          have K0 : Hid (Below wr.heap.size wr wr.drew) := Below.drew (Below.refl _ _)
          go_region_held3 (fun W => W.cell? ⟨b1, y, none⟩ = some (.int .i64 ((0 : Nat) : Int)) ∧ W.cell? ⟨b2, o2 + y, none⟩ = some (.slice e.at_ M e.cap) ∧ W.cell? ⟨gq, 0, none⟩ = some (.slice d.at_ M d.cap))
            (first | exact ⟨o2', c2, k2⟩ | exact ⟨cell_kept o2' K0.out, cell_kept c2 K0.out, cell_kept k2 K0.out⟩ | exact ⟨cell_kept o2' K1.out, cell_kept c2 K1.out, cell_kept k2 K1.out⟩ | go_keep)
            (first
              | (go_at_call 23
                 refine (HSM.out _ (below_step HB.out K0.out)).mono ?_
                 rintro e w9 ⟨rfl, hb⟩
                 have K1 : Hid (Below wr.heap.size wr w9) := below_step K0.out hb
                 clear hb))
          all_goals (go_wp2_with fail; go_meet; exact ⟨rfl, K1.out⟩)
        case rest =>
          obtain ⟨rfl, hb⟩ := hcut
          rename World => w9
          have HB9 := Lib.hid (below_step HB.out hb)
          clear hb o2' c2 k2 HB
          go_wp2
          go_roundw
          case rel => exact ⟨1, by omega, by go_num, by rw [hn1.out]; go_num, HB9⟩
          case measure => simp [intOf]; omega
      · obtain ⟨s, rfl⟩ : ∃ s, t = s + 1 := ⟨t - 1, by omega⟩
        obtain ⟨d', hd'⟩ : ∃ d', D[s]? = some d' := ⟨D[s]'(by rw [HN.out]; omega), List.getElem?_eq_getElem _⟩
        obtain ⟨cd', id'⟩ := hc3 s d' hd'
        have hmd' := (HDW.out s d' hd').1
        have k3 := cell_kept cd' KR.out
        unfold CardV.value at k3
        rw [hmd', Nat.zero_add] at k3
        have hcf := HCMP.out s d' d wr.drew hd' hd KR.out.drew
        have hgq : grpQ (holes D) i j (s + 1) = !decide (cmpK (holes D) i j s (s + 1) = 0) := by
          unfold grpQ
          rw [Nat.add_sub_cancel]
          have hneg : cmpK (holes D) i j (s + 1) s = - cmpK (holes D) i j s (s + 1) := by unfold cmpK; exact cmpTo_neg _ _ _
          rw [hneg]
          by_cases h : cmpK (holes D) i j s (s + 1) = 0
          · simp [h]
          · have : ¬ - cmpK (holes D) i j s (s + 1) = 0 := by omega
            simp [h]
        obtain ⟨v, hv⟩ : ∃ v, cmpK (holes D) i j s (s + 1) = v := ⟨_, rfl⟩
        rw [hv] at hcf hgq
        have HCF := Lib.hid hcf
        have HGQ := Lib.hid hgq
        have m0 := cell_kept g0 HB.out
        have m1 := cell_kept g1 HB.out
        have jw : IntKind.i64.wrap (((s + 1 : Nat) : Int) - 1) = (s : Int) := by rw [show ((s + 1 : Nat) : Int) - 1 = (s : Int) by omega]; exact IntWalk.i64_in _ (by omega)
        have s0 : (0 : Int) ≤ (s : Int) := Int.natCast_nonneg _
        have s1 : (s : Int) < (N : Int) := by omega
        have s2 : ((s + 1 : Nat) : Int) > 0 := by omega
        have s3 : (((s + 1 : Nat) : Int) == 0) = false := by simp; omega
        obtain ⟨q, hq⟩ : ∃ q, s + 1 = q := ⟨_, rfl⟩
        rw [hq] at t0 t1 k2 jw s2 s3 HBEG HGQ HY HD1 ⊢
        have HQ := Lib.hid hq
        clear hc3 id id' cd' hd hd' hmd hmd' hm20 hcf hgq hv hq hpt
        go_upto_region 16 with fail
        go_cut [16] (fun s0 wx => s0 = .int .i64 v ∧ Below wr.heap.size wr wx)
        case first =>
          have K0 : Hid (Below wr.heap.size wr wr.drew) := Below.drew (Below.refl _ _)
          go_region_held3 (fun W => W.cell? ⟨gq, s, none⟩ = some (.slice d'.at_ M d'.cap) ∧ W.cell? ⟨gq, q, none⟩ = some (.slice d.at_ M d.cap) ∧ W.cell? ⟨p, 0, none⟩ = some (.int .i64 i) ∧ W.cell? ⟨p, 1, none⟩ = some (.int .i64 j))
            (first | exact ⟨k3, k2, m0, m1⟩ | exact ⟨cell_kept k3 K0.out, cell_kept k2 K0.out, cell_kept m0 K0.out, cell_kept m1 K0.out⟩ | exact ⟨cell_kept k3 K1.out, cell_kept k2 K1.out, cell_kept m0 K1.out, cell_kept m1 K1.out⟩ | go_keep)
            (first
              | (go_at_call 16
                 refine HCF.out.mono ?_
                 rintro e w9 ⟨rfl, hb⟩
                 have K1 : Hid (Below wr.heap.size wr w9) := below_step K0.out hb
                 clear hb))
          all_goals (go_wp2_with fail; go_meet; exact ⟨rfl, K1.out⟩)
        case rest =>
          obtain ⟨rfl, hb⟩ := hcut
          rename World => w8
          have HB8 := Lib.hid (below_step HB.out hb)
          have k4 := cell_kept k2 hb
          clear hb k2 k3 m0 m1 HB KR
          by_cases hv0 : v = 0
          · subst hv0
            have hn1 : Hid ((wherePl (grpQ (holes D) i j) (q + 1)).length = y) := by
              show _ = _
              rw [wherePl_no (by rw [HGQ.out]; rfl), HY.out]
            go_wp2
            go_roundw
            case rel => exact ⟨q + 1, by omega, by go_num, by rw [hn1.out], HB8⟩
            case measure => simp [intOf]; omega
          · have hqt : grpQ (holes D) i j q = true := by rw [HGQ.out]; simp [hv0]
            obtain ⟨hyu, b1, ex1, b2, o2, e, rfl, rfl, hr1, hvy, ce, hxe, hsm⟩ := (HBEG.out hqt).out
            have hn1 : Hid ((wherePl (grpQ (holes D) i j) (q + 1)).length = y + 1) := by
              show _ = _
              rw [wherePl_yes hqt, List.length_append, HY.out]
              rfl
            have o1 := cell_kept (hr1.cell (i := y) (by rw [HU.out]; exact hyu)) HB8.out
            rw [hvy] at o1
            have o2' : w8.cell? ⟨b1, y, none⟩ = some (.int .i64 (q : Int)) := o1
            have c2 := cell_kept ce HB8.out
            have HSM := Lib.hid hsm
            have e5 : (v == 0) = false := by simpa using hv0
            have e6 : (v != 0) = true := by simpa using hv0
            have y1 : (y : Int) < (u : Int) := by omega
            have y2 : ¬ (u : Int) ≤ (y : Int) := by omega
            have y3 : ¬ (y : Int) ≥ (u : Int) := by omega
            have y4 : ¬ u ≤ y := by omega
            clear hr1 hvy ce hxe hsm HBEG o1 hqt hv0
            go_upto_region 19 with fail
            go_cut [119] (fun s0 wx => s0 = .bool false ∧ Below w8.heap.size w8 wx)
            case first =>
              have K0 : Hid (Below w8.heap.size w8 w8.drew) := Below.drew (Below.refl _ _)
              go_region_held3 (fun W => W.cell? ⟨b1, y, none⟩ = some (.int .i64 (q : Int)) ∧ W.cell? ⟨b2, o2 + y, none⟩ = some (.slice e.at_ M e.cap) ∧ W.cell? ⟨gq, q, none⟩ = some (.slice d.at_ M d.cap))
                (first | exact ⟨o2', c2, k4⟩ | exact ⟨cell_kept o2' K0.out, cell_kept c2 K0.out, cell_kept k4 K0.out⟩ | exact ⟨cell_kept o2' K1.out, cell_kept c2 K1.out, cell_kept k4 K1.out⟩ | go_keep)
                (first
                  | (go_at_call 23
                     refine (HSM.out _ (below_step HB8.out K0.out)).mono ?_
                     rintro e w9 ⟨rfl, hb⟩
                     have K1 : Hid (Below w8.heap.size w8 w9) := below_step K0.out hb
                     clear hb))
              all_goals (go_wp2_with fail; go_meet; exact ⟨rfl, K1.out⟩)
            case rest =>
              obtain ⟨rfl, hb⟩ := hcut
              rename World => w9
              have HB9 := Lib.hid (below_step HB8.out hb)
              clear hb o2' c2 k4 HB8
              go_wp2
              go_roundw
              case rel => exact ⟨q + 1, by omega, by go_num, by rw [hn1.out]; go_num, HB9⟩
              case measure => simp [intOf]; omega
    · obtain rfl : t = N := by omega
      have t1 : ¬ (t : Int) < (t : Int) := by omega
      have hfin : (wherePl (grpQ (holes D) i j) t).length = u := by rw [HVV.out, HU.out]
      have B9 := Lib.hid (below_step B2.out KR.out)
      rw [hfin]
      clear hfin
      go_wp2
      go_ret
      exact ⟨rfl, B9.out⟩

end Go.Proofs.YtdakbbgbglgioaaDoor.fnGroups
