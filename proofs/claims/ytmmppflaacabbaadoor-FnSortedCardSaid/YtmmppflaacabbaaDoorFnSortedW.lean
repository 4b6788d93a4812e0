/- The walk of the law FnSorted: the order and the sorted deck of a drawn deck are as they must be. -/
import Derived.Test.YtmmppflaacabbaaDoorM2
import Derived.Test.YtmmppflaacabbaaDoorM10
import Derived.Test.YtmmppflaacabbaaDoorSortedBy
import Derived.Test.YtmmppflaacabbaaDoorSame
import Derived.Test.YtmmppflaacabbaaDoorBytes
import Derived.Deep.QuietTactic
import Derived.BigQuiet
import Derived.Deep.RegionHeld3
import Derived.Deep.DeepCutAuto
namespace Go.Proofs.YtmmppflaacabbaaDoor.fnSorted
open Go.ChangeShapes Go.WideShapes Go.ChangeAt Go.RowKit

set_option maxRecDepth 100000 in
theorem walk_long (A A' : Option Addr) (n n' c c' : Nat) (w : World) (hn : n ≤ 9223372036854775807) (hn' : n' ≤ 9223372036854775807) (h : 3000 < n ∨ 3000 < n') :
    Calls Tryd.prog 3 #[.slice A n c, .slice A' n' c'] w fun e w' => e = .returned (.bool true) ∧ Below w.heap.size w w' := by
  have hL := a2Long_any A A' n n' c c' w hn hn'
  have e : (decide (3000 < n) || decide (3000 < n')) = true := by simpa using h
  rw [e] at hL
  have HL := Lib.hid hL
  clear hL e h
  go_enter Tryd.func3, Tryd.ntmps3
  go_wp2_with fail
  refine HL.out.mono ?_
  rintro e w1 ⟨rfl, rfl⟩
  go_wp2
  go_ret
  exact ⟨rfl, Below.refl _ _⟩

theorem info_bool : (Tryd.prog.info? 4).map (fun i => (i.zero, i.size, i.bytes)) = some (some (.bool false), 1, 1) := by kernel_rfl
theorem made_bools (n : Nat) : madeCells #[Value.bool false] n = (metL [] n).toArray := by
  rw [metL_nil]
  apply Array.ext
  · simp [size_madeCells]
  · intro i h1 h2
    simp [madeCells, Nat.mod_one]
/-- the row of the places that have been met -/
def MetRow (w : World) (g : Nat) (L : List Int) (n : Nat) : Prop := w.heap[g]? = some (.cells (metL L n).toArray 4 (0, 0))
theorem MetRow.cell {w : World} {g n : Nat} {L : List Int} (h : MetRow w g L n) {q : Nat} (hq : q < n) : w.cell? ⟨g, q, none⟩ = some (.bool (decide ((q : Int) ∈ L))) := by
  rw [cell_of_row w g q _ _ _ h]
  simp [metL_at hq]
theorem MetRow.frozen {w : World} {g n : Nat} {L : List Int} (h : MetRow w g L n) (q : Nat) : w.frozen? ⟨g, q, none⟩ = false := by
  unfold MetRow at h
  simp [World.frozen?, h]
theorem MetRow.put {w : World} {g n : Nat} {L : List Int} (h : MetRow w g L n) (q : Nat) : MetRow (w.setCell ⟨g, q, none⟩ (.bool true)) g (L ++ [(q : Int)]) n := by
  unfold MetRow at h ⊢
  simp only [World.setCell, Array.getElem?_modify, if_true, h, Option.map_some]
  congr 2
  apply Array.ext'
  simp [metL_set]
theorem MetRow.lt {w : World} {g n : Nat} {L : List Int} (h : MetRow w g L n) : g < w.heap.size := by
  rcases Nat.lt_or_ge g w.heap.size with hlt | hge
  · exact hlt
  · unfold MetRow at h
    rw [Array.getElem?_eq_none hge] at h
    cases h
theorem MetRow.later {w w' : World} {g n : Nat} {L : List Int} (h : MetRow w g L n) (hb : Below w.heap.size w w') : MetRow w' g L n := (hb.block g h.lt).trans h

theorem same_any (e d : CardV) (M : Nat) (W : World) (h : Ints W W.heap.size e.at_ e.xs) (h' : Ints W W.heap.size d.at_ d.xs) (hx : e.xs = d.xs) (hl : e.xs.length = M) (hm : M ≤ 1048576) :
    Calls Tryd.prog 11 #[.agg #[.slice e.at_ M e.cap], .agg #[.slice d.at_ M d.cap]] W fun e w' => e = .returned (.bool true) ∧ Below W.heap.size W w' := by
  subst hl
  have := specSameCard_any e.at_ d.at_ e.cap d.cap e.xs d.xs W.heap.size W.heap.size W h h' (Nat.le_refl _) (Nat.le_refl _) hm (by rw [← hx]; omega)
  rw [← hx, decide_eq_true rfl] at this
  exact this
theorem cmp_any {S : List (List Int)} {i j k l : Nat} (e d : CardV) (M : Nat) (W : World) (he : S[k]? = some e.xs) (hd : S[l]? = some d.xs) (hv : deckB S = true) (hk : keysB S i j = true) (hij : i < j) (hj : j ≤ widthH S) (ge gd : Nat) (ae : e.at_ = some ⟨ge, 0, none⟩) (ad : d.at_ = some ⟨gd, 0, none⟩)
    (ce : e.xs.length ≤ e.cap ∧ e.cap ≤ 9223372036854775807) (cd : d.xs.length ≤ d.cap ∧ d.cap ≤ 9223372036854775807) (h : Ints W W.heap.size e.at_ e.xs) (h' : Ints W W.heap.size d.at_ d.xs) (hl : widthH S = M) :
    Calls Tryd.prog 12 #[.agg #[.slice e.at_ M e.cap], .agg #[.slice d.at_ M d.cap], .agg #[.int .i64 i, .int .i64 j]] W fun r w' => r = .returned (.tuple #[.int .i64 (cmpK S i j k l), .int .i64 0]) ∧ Below W.heap.size W w' := by
  subst hl
  obtain ⟨y1, y2⟩ := deck_width hv he
  obtain ⟨y3, y4⟩ := deck_width hv hd
  have h20 := (okB_parts y1).2
  have h20' := (okB_parts y3).2
  rw [ae] at h ⊢
  rw [ad] at h' ⊢
  have k' := specCmp_good ge 0 e.cap gd 0 d.cap e.xs d.xs W.heap.size W.heap.size i j W h h' (Nat.le_refl _) (Nat.le_refl _) ce.1 ⟨by omega, ce.2⟩ cd.1 ⟨by omega, cd.2⟩ hij (by omega) (by omega) y1 y3
  rw [keysB_at he hk, keysB_at hd hk, y2, y4] at k'
  have e : cmpK S i j k l = cmpTo (partOf e.xs i j) (partOf d.xs i j) (j - i) := by rw [cmpK, he, hd]; rfl
  rw [e]
  exact k'

set_option maxRecDepth 100000 in
set_option maxHeartbeats 8000000 in
theorem walk_short (A A' : Option Addr) (n n' c c' : Nat) (w : World) (h0 : BytesAt w w.heap.size A n) (h1 : BytesAt w w.heap.size A' n') (hn : n ≤ 3000) (hn' : n' ≤ 3000) (hP : Places w) :
    Calls Tryd.prog 3 #[.slice A n c, .slice A' n' c'] w fun e w' => e = .returned (.bool true) ∧ Below w.heap.size w w' := by
  have hL := a2Long_any A A' n n' c c' w (by omega) (by omega)
  have e : (decide (3000 < n) || decide (3000 < n')) = false := by simp; omega
  rw [e] at hL
  have HL := Lib.hid hL
  have HD := Lib.hid (A2Deck_any A n c w.heap.size w h0 (Nat.le_refl _) hn)
  have H1 := Lib.hid h1
  have HPL := Lib.hid hP
  clear hL e h0 h1 hP
  go_enter Tryd.func3, Tryd.ntmps3
  go_wp2_with fail
  refine HL.out.mono ?_
  rintro e w1 ⟨rfl, rfl⟩
  go_wp2_with fail
  refine HD.out.mono ?_
  rintro e w2 ⟨m, gq, cq, D, hm1, hm3, rfl, hl8, hb, hd⟩
  have B2 := Lib.hid hb
  have D2 := Lib.hid hd
  obtain ⟨N, hN⟩ : ∃ N, D.length = N := ⟨_, rfl⟩
  obtain ⟨v1, v2, v3, v4⟩ := drawn_deck hd (by omega)
  have HF := Lib.hid (a2Field_drawn hd hm1 (by omega) (by omega) A' n' c' w.heap.size (H1.out.below hb) hb.size hn')
  have HK := Lib.hid hd.deck
  have HV1 := Lib.hid v1
  have HV3 := Lib.hid v3
  have HV4 := Lib.hid v4
  have HX : Hid (∀ d ∈ D, d.xs.length ≤ 1048576) := fun d hd' => by
    obtain ⟨b, ex, _, _, _, hl, _⟩ := hd.2 d hd'
    omega
  have HN := Lib.hid hN
  rw [hN] at hl8 ⊢
  simp only [hN] at HF
  clear hb hd HD HL v1 v2 v3 v4 hN H1 D2
  go_wp2_with fail
  refine HF.out.mono ?_
  rintro e w3 ⟨i, j, rfl, hij, hjm, hb⟩
  have b4 := below_box w3 (.cells #[.int .i64 i, .int .i64 j] 27)
  have f0 : (w3.alloc (.cells #[.int .i64 i, .int .i64 j] 27)).cell? ⟨w3.heap.size, 0, none⟩ = some (.int .i64 i) := by simp [go_sem]
  have f1 : (w3.alloc (.cells #[.int .i64 i, .int .i64 j] 27)).cell? ⟨w3.heap.size, 1, none⟩ = some (.int .i64 j) := by simp [go_sem]
  obtain ⟨p, hp⟩ : ∃ p, w3.heap.size = p := ⟨_, rfl⟩
  obtain ⟨W4, eW⟩ : ∃ W4, w3.alloc (.cells #[.int .i64 i, .int .i64 j] 27) = W4 := ⟨_, rfl⟩
  rw [eW] at b4 f0 f1
  rw [hp] at f0 f1
  have K4 := Lib.hid (below_step hb b4)
  have B4 := Lib.hid (below_step B2.out (below_step hb b4))
  have HW := Lib.hid eW
  have hcode := drawn_code HV1.out (HV3.out i j) hij hjm
  have HCODE := Lib.hid hcode
  have hHn : (holes D).length = N := by simp [holes, HN.out]
  have hvl := orderV_length (holes D) i j
  have hsl := sortV_length (holes D) i j
  rw [hHn] at hvl hsl
  have ho := fun (W : World) (hW : Below w2.heap.size w2 W) => implOrder_any (some ⟨gq, 0, none⟩) cq D w2.heap.size i j W (HK.out.below hW) hW.size (by rw [HN.out]; omega) HX.out HV4.out (HPL.out.below (below_step B2.out hW))
  have hs := fun (W : World) (hW : Below w2.heap.size w2 W) => implSortedC_any (some ⟨gq, 0, none⟩) cq D w2.heap.size i j W (HK.out.below hW) hW.size (by rw [HN.out]; omega) HX.out HV4.out (HPL.out.below (below_step B2.out hW))
  have hi1 := fun (W : World) (hW : Below w2.heap.size w2 W) => implIsSorted_any (some ⟨gq, 0, none⟩) cq D w2.heap.size i j W (HK.out.below hW) hW.size (by rw [HN.out]; omega) HX.out HV4.out (HPL.out.below (below_step B2.out hW))
  have hf1 := fun (W : World) (hW : Below w2.heap.size w2 W) => implFirstStep_any (some ⟨gq, 0, none⟩) cq D w2.heap.size i j W (HK.out.below hW) hW.size (by rw [HN.out]; omega) HX.out HV4.out (HPL.out.below (below_step B2.out hW))
  have hi2 := fun (W : World) (hW : Below w2.heap.size w2 W) (P : Option Addr) (k : Nat) (E : List CardV) (hE : holes E = sortV (holes D) i j) (h : Deck W W.heap.size P E) (hc : CapsOk E) => implIsSorted_any P k E W.heap.size i j W h (Nat.le_refl _) (by rw [← holes_len, hE, hsl]; omega) (fun d hd => by
    have hm : d.xs ∈ sortV (holes D) i j := by rw [← hE]; exact List.mem_map.2 ⟨d, hd, rfl⟩
    obtain ⟨x, hx, e⟩ := List.mem_map.1 (sortV_mem hm)
    rw [← e]
    exact HX.out x hx) hc (HPL.out.below (below_step B2.out hW))
  have hst := sorted_step (holes D) i j
  have hsc := sortV_code hcode
  have hss := sortV_sorted hcode
  rw [Int.toNat_natCast, Int.toNat_natCast] at hsc hss
  simp only [hcode, true_and] at hst
  simp only [orderA, sortA, hcode, if_true, Int.toNat_natCast, HN.out] at ho hs hi1 hf1
  have hi3 : ∀ (W : World), Below w2.heap.size w2 W → ∀ (P : Option Addr) (k : Nat) (E : List CardV), holes E = sortV (holes D) i j → Deck W W.heap.size P E → CapsOk E → Calls Tryd.prog 13 #[.slice P N k, .agg #[.int .i64 i, .int .i64 j]] W fun e w' => e = .returned (.tuple #[.bool true, .int .i64 0]) ∧ Below W.heap.size W w' := fun W hW P k E hE h hc => by
    have := hi2 W hW P k E hE h hc
    rw [hE, hsc, hss, show E.length = N by rw [← holes_len, hE, hsl]] at this
    exact this
  have hat := fun k (hk : k < N) => sortV_at (H := holes D) (i := i) (j := j) (k := k) (by rw [hHn]; exact hk)
  have hnx := fun k p q => order_next (H := holes D) (i := i) (j := j) (k := k) (p := p) (q := q)
  have hcm := fun k l p q => sortV_cmp (H := holes D) (i := i) (j := j) (k := k) (l := l) (p := p) (q := q)
  have hnw := fun k q => order_new (H := holes D) (i := i) (j := j) (k := k) (q := q)
  obtain ⟨sw, sd⟩ := sortV_width (i := i) (j := j) HV1.out
  have sk := sortV_keys (i := i) (j := j) (HV3.out i j)
  rw [← sw] at hjm
  obtain ⟨V, hV⟩ : ∃ V, orderV (holes D) i j = V := ⟨_, rfl⟩
  obtain ⟨S, hS⟩ : ∃ S, sortV (holes D) i j = S := ⟨_, rfl⟩
  obtain ⟨cf, hcf⟩ : ∃ cf, cfK (holes D) i j = cf := ⟨_, rfl⟩
  obtain ⟨R, hR⟩ : ∃ R, sortedA (holes D) i j = R := ⟨_, rfl⟩
  obtain ⟨T, hT⟩ : ∃ T, stepA (holes D) i j = T := ⟨_, rfl⟩
  simp only [hV, hS, hcf, hR, hT, hHn] at ho hs hi1 hf1 hi3 hst hat hnx hcm hnw hvl hsl sd sk hjm
  have HO := Lib.hid ho
  have HS := Lib.hid hs
  have HI1 := Lib.hid hi1
  have HF1 := Lib.hid hf1
  have HI3 := Lib.hid hi3
  have HST := Lib.hid hst
  have HAT := Lib.hid hat
  have HNX := Lib.hid hnx
  have HCM := Lib.hid hcm
  have HNW := Lib.hid hnw
  have HVL := Lib.hid hvl
  have HSL := Lib.hid hsl
  have HSD := Lib.hid sd
  have HSK := Lib.hid sk
  have HJM := Lib.hid hjm
  have hmk := run_make_row' (P := Tryd.prog) 34 4 (.bool false) 1 Tryd.underlying34 info_bool rfl .i64 .i64 N (by omega) (by omega)
  clear hHn ho hs hi1 hf1 hi2 hi3 hst hsc hss hat hnx hcm hnw hvl hsl sw sd sk hjm hcode hV hS hcf hR hT b4 hb eW HF HV1 HV3 HV4 HPL
  go_wp2_with fail
  try rw [HW.out]
  refine (HO.out _ K4.out).mono ?_
  rintro e w5 ⟨A1, c1, rfl, hb, hi⟩
  rw [HVL.out]
  have K5 := Lib.hid (below_step K4.out hb)
  have hI5 := Lib.hid hi
  have g0 := cell_kept f0 hb
  have g1 := cell_kept f1 hb
  clear hb hi f0 f1 HO
  go_wp2_with fail
  refine (HS.out _ K5.out).mono ?_
  rintro e w6 ⟨A2, c2, E, rfl, hE, hb, hda, hcp⟩
  rw [HSL.out]
  have K6 := Lib.hid (below_step K5.out hb)
  have HI := Lib.hid (hI5.out.later hb)
  have f0 := cell_kept g0 hb
  have f1 := cell_kept g1 hb
  have HE := Lib.hid hE
  have HDA := Lib.hid hda
  have HCP := Lib.hid hcp
  clear hb hI5 g0 g1 hE hda hcp HS K4 K5
  go_wp2
  clear hmk
  go_loopw [12] (fun x wr => ∃ t : Nat, t ≤ N ∧ x = .int .i64 t ∧ Hid (Below w6.heap.size w6 wr) ∧ Hid (MetRow wr w6.heap.size (V.take t) N)) (fun x _ => N - (intOf x).toNat)
  case atStart =>
    refine ⟨0, Nat.zero_le _, rfl, below_box w6 _, ?_⟩
    rw [made_bools]
    exact heap_alloc_new w6 _
  case round =>
    obtain ⟨t, ht, rfl, HB, HM⟩ := hrel
    by_cases hlt : t < N
    · obtain ⟨q, hq, hqN, hsq⟩ := HAT.out t hlt
      have hEl : E.length = N := by rw [← holes_len, HE.out, HSL.out]
      obtain ⟨g1, ex1, rfl, _, _, hr1⟩ := HI.out.top (by rw [HVL.out]; omega)
      have DE := HDA.out.deck
      obtain ⟨b2, o2, rfl, _, hc2⟩ := DE (by omega)
      have KR := below_step K6.out HB.out
      have DD := HK.out
      obtain ⟨b3, o3, e3, _, hc3⟩ := DD (by rw [HN.out]; omega)
      obtain ⟨rfl, rfl⟩ : gq = b3 ∧ 0 = o3 := by injection e3 with e3; injection e3 with x1 x2; exact ⟨x1, x2⟩
      obtain ⟨e, he⟩ : ∃ e, E[t]? = some e := ⟨E[t]'(by omega), List.getElem?_eq_getElem _⟩
      obtain ⟨d, hd⟩ : ∃ d, D[q]? = some d := ⟨D[q]'(by rw [HN.out]; exact hqN), List.getElem?_eq_getElem _⟩
      have hSe : S[t]? = some e.xs := by rw [← HE.out]; exact holes_at he
      have hxd : e.xs = d.xs := by
        rw [hSe, holes_at hd] at hsq
        exact Option.some.inj hsq
      obtain ⟨y1, y2⟩ := deck_width HSD.out hSe
      have h20 := (okB_parts y1).2
      obtain ⟨M, hM⟩ : ∃ M, widthH S = M := ⟨_, rfl⟩
      have hme : e.xs.length = M := by rw [y2, hM]
      have hmd : d.xs.length = M := by rw [← hxd, hme]
      obtain ⟨ce, ie⟩ := hc2 t e he
      obtain ⟨cd, id⟩ := hc3 q d hd
      have o1 := cell_kept (hr1.cell (i := t) (by rw [HVL.out]; exact hlt)) HB.out
      rw [show V[t]?.getD 0 = (q : Int) by rw [hq]; rfl] at o1
      have c2 := cell_kept ce HB.out
      have c3 := cell_kept cd KR
      have c4 := HM.out.cell hqN
      rw [decide_eq_false (HNW.out t q hq)] at c4
      unfold CardV.value at c2 c3
      rw [hme] at c2
      rw [hmd, Nat.zero_add] at c3
      have HSM : Hid (∀ W, Below w6.heap.size w6 W → Calls Tryd.prog 11 #[.agg #[.slice e.at_ M e.cap], .agg #[.slice d.at_ M d.cap]] W fun e w' => e = .returned (.bool true) ∧ Below W.heap.size W w') := fun W hW =>
        same_any e d M W ((ie.below hW).more hW.size) ((id.below (below_step K6.out hW)).more (below_step K6.out hW).size) hxd hme (by omega)
      have q0 : (0 : Int) ≤ (q : Int) := Int.natCast_nonneg _
      have q1 : (q : Int) < (N : Int) := by omega
      have t0 : (0 : Int) ≤ (t : Int) := Int.natCast_nonneg _
      have t1 : (t : Int) < (N : Int) := by omega
      have q2 : ¬ (q : Int) < 0 := by omega
      have q3 : ¬ (q : Int) ≥ (N : Int) := by omega
      have HR1 := Lib.hid hr1
      have HC2 := Lib.hid hc2
      have HQ := Lib.hid hq
      have HE1 := Lib.hid he
      have HSE := Lib.hid hSe
      have HMW := Lib.hid hM
      have HDE := Lib.hid DE
      have CE := Lib.hid ce
      have IE := Lib.hid ie
      clear hsq hr1 DE hc2 KR DD hc3 e3 he hd hSe hxd y1 y2 h20 hM hme hmd ce ie cd id hq
      go_upto_region 14 with fail
      go_cut [100] (fun s0 wx => s0 = .bool false ∧ Below wr.heap.size wr wx)
      case first =>
        have K0 : Hid (Below wr.heap.size wr wr.drew) := Below.drew (Below.refl _ _)
        go_region_held3 (fun W => W.cell? ⟨w6.heap.size, q, none⟩ = some (.bool false) ∧ W.cell? ⟨b2, o2 + t, none⟩ = some (.slice e.at_ M e.cap) ∧ W.cell? ⟨gq, q, none⟩ = some (.slice d.at_ M d.cap))
          (first | exact ⟨c4, c2, c3⟩ | exact ⟨cell_kept c4 K0.out, cell_kept c2 K0.out, cell_kept c3 K0.out⟩ | exact ⟨cell_kept c4 K1.out, cell_kept c2 K1.out, cell_kept c3 K1.out⟩ | go_keep)
          (first
            | (go_at_call 11
               refine (HSM.out _ (below_step HB.out K0.out)).mono ?_
               rintro e w9 ⟨rfl, hb⟩
               have K1 : Hid (Below wr.heap.size wr w9) := below_step K0.out hb
               clear hb))
        all_goals (go_wp2_with fail; go_meet; exact ⟨rfl, K1.out⟩)
      case rest =>
        obtain ⟨rfl, hb⟩ := hcut
        rename World => w7
        have HB7 := Lib.hid (below_step HB.out hb)
        have HM7 := Lib.hid (HM.out.later hb)
        have d4 := HM7.out.cell hqN
        have f4 := HM7.out.frozen q
        have HM8 : Hid (MetRow (w7.setCell ⟨w6.heap.size, q, none⟩ (.bool true)) w6.heap.size (V.take (t + 1)) N) := by
          show MetRow _ _ _ _
          rw [List.take_add_one, HQ.out]
          exact HM7.out.put q
        have HB8 : Hid (Below w6.heap.size w6 (w7.setCell ⟨w6.heap.size, q, none⟩ (.bool true))) := HB7.out.setCell (Nat.le_refl _) _
        clear hb o1 c2 c3 c4 HB HM HM7
        by_cases h0 : t = 0
        · subst h0
          go_wp2
          go_roundw
          case rel => exact ⟨1, by omega, by go_num, HB8, HM8⟩
          case measure => simp [intOf]; omega
        · obtain ⟨s, hs⟩ : ∃ s, t = s + 1 := ⟨t - 1, by omega⟩
          have jw : IntKind.i64.wrap ((t : Int) - 1) = (s : Int) := by rw [show (t : Int) - 1 = (s : Int) by omega]; exact IntWalk.i64_in _ (by omega)
          have s0 : (0 : Int) ≤ (s : Int) := Int.natCast_nonneg _
          have s1 : (s : Int) < (N : Int) := by omega
          have s2 : (t : Int) > 0 := by omega
          obtain ⟨p', hp', hpN, hsp⟩ := HAT.out s (by omega)
          obtain ⟨e', he'⟩ : ∃ e', E[s]? = some e' := ⟨E[s]'(by omega), List.getElem?_eq_getElem _⟩
          have hSe' : S[s]? = some e'.xs := by rw [← HE.out]; exact holes_at he'
          obtain ⟨ce', ie'⟩ := HC2.out s e' he'
          obtain ⟨y1, y2⟩ := deck_width HSD.out hSe'
          have hme' : e'.xs.length = M := by rw [y2, HMW.out]
          obtain ⟨ga, exa, aa, _, _, _, _⟩ := HDA.out.rows s e' he'
          obtain ⟨gb, exb, ab, _, _, _, _⟩ := HDA.out.rows t e HE1.out
          have hbf := HNX.out s p' q hp' (by rw [← hs]; exact HQ.out)
          have hcv := HCM.out s t p' q hp' HQ.out
          obtain ⟨v, hv⟩ : ∃ v, cf (p' : Int) (q : Int) = v := ⟨_, rfl⟩
          have hbf' : v < 0 ∨ (v = 0 ∧ (p' : Int) < (q : Int)) := by rw [← hv]; exact hbf
          obtain ⟨W8, eW8⟩ : ∃ W8, w7.setCell ⟨w6.heap.size, q, none⟩ (.bool true) = W8 := ⟨_, rfl⟩
          rw [eW8] at HM8 HB8
          have HCF : Hid (∀ W, Below w6.heap.size w6 W → Calls Tryd.prog 12 #[.agg #[.slice e'.at_ M e'.cap], .agg #[.slice e.at_ M e.cap], .agg #[.int .i64 i, .int .i64 j]] W fun r w' => r = .returned (.tuple #[.int .i64 v, .int .i64 0]) ∧ Below W.heap.size W w') := fun W hW => by
            have := cmp_any e' e M W hSe' HSE.out HSD.out HSK.out hij HJM.out ga gb aa ab (HCP.out e' (List.mem_of_getElem? he')) (HCP.out e (List.mem_of_getElem? HE1.out)) ((ie'.below hW).more hW.size) ((IE.out.below hW).more hW.size) HMW.out
            rw [hcv, hv] at this
            exact this
          have c2 := cell_kept CE.out HB8.out
          have c5 := cell_kept ce' HB8.out
          have o0 := cell_kept (HR1.out.cell (i := s) (by rw [HVL.out]; omega)) HB8.out
          rw [show V[s]?.getD 0 = (p' : Int) by rw [hp']; rfl] at o0
          have k0 := cell_kept f0 HB8.out
          have k1 := cell_kept f1 HB8.out
          unfold CardV.value at c2 c5
          rw [hme'] at c5
          rw [show e.xs.length = M by
            obtain ⟨z1, z2⟩ := deck_width HSD.out HSE.out
            rw [z2, HMW.out]] at c2
          have HEW := Lib.hid eW8
          clear hp' hsp he' hSe' ce' ie' y1 y2 hme' aa ab hbf hcv hv eW8 h0 hs
          go_upto_region 18 with fail
          try rw [HEW.out]
          go_cut [14] (fun s0 wx => s0 = .int .i64 v ∧ Below W8.heap.size W8 wx)
          case first =>
            have K0 : Hid (Below W8.heap.size W8 W8.drew) := Below.drew (Below.refl _ _)
            go_region_held3 (fun W => W.cell? ⟨b2, o2 + s, none⟩ = some (.slice e'.at_ M e'.cap) ∧ W.cell? ⟨b2, o2 + t, none⟩ = some (.slice e.at_ M e.cap) ∧ W.cell? ⟨p, 0, none⟩ = some (.int .i64 i) ∧ W.cell? ⟨p, 1, none⟩ = some (.int .i64 j))
              (first | exact ⟨c5, c2, k0, k1⟩ | exact ⟨cell_kept c5 K0.out, cell_kept c2 K0.out, cell_kept k0 K0.out, cell_kept k1 K0.out⟩ | exact ⟨cell_kept c5 K1.out, cell_kept c2 K1.out, cell_kept k0 K1.out, cell_kept k1 K1.out⟩ | go_keep)
              (first
                | (go_at_call 12
                   refine (HCF.out _ (below_step HB8.out K0.out)).mono ?_
                   rintro e w9 ⟨rfl, hb⟩
                   have K1 : Hid (Below W8.heap.size W8 w9) := below_step K0.out hb
                   clear hb))
            all_goals (go_wp2_with fail; go_meet; exact ⟨rfl, K1.out⟩)
          case rest =>
            obtain ⟨rfl, hb⟩ := hcut
            rename World => w9
            have HB9 := Lib.hid (below_step HB8.out hb)
            have HM9 := Lib.hid (HM8.out.later hb)
            have o9 := cell_kept o0 hb
            clear hb o0 c2 c5 k0 k1 HB8 HM8
            rcases hbf' with hv0 | ⟨rfl, hpq⟩
            · have v1 : ¬ v > 0 := by omega
              have v2 : ¬ v = 0 := by omega
              go_wp2
              go_roundw
              case rel => exact ⟨t + 1, by omega, by go_num, HB9, HM9⟩
              case measure => simp [intOf]; omega
            · have v3 : ¬ (p' : Int) ≥ (q : Int) := by omega
              go_wp2
              go_roundw
              case rel => exact ⟨t + 1, by omega, by go_num, HB9, HM9⟩
              case measure => simp [intOf]; omega
    · have htn : t = N := by omega
      have t1 : ¬ (t : Int) < (N : Int) := by omega
      have hEN : E.length = N := by rw [← holes_len, HE.out, HSL.out]
      have KR := below_step K6.out HB.out
      have m0 := cell_kept f0 HB.out
      have m1 := cell_kept f1 HB.out
      have HKR := Lib.hid KR
      have HD1 := Lib.hid ((HDA.out.deck.below (HB.out)).more HB.out.size)
      clear f0 f1 KR htn
      go_wp2_with fail
      refine (HI3.out _ HKR.out _ _ E HE.out HD1.out HCP.out).mono ?_
      rintro e w7 ⟨rfl, hb⟩
      have K7 := Lib.hid (below_step HKR.out hb)
      have n0 := cell_kept m0 hb
      have n1 := cell_kept m1 hb
      clear hb m0 m1
      go_wp2_with fail
      refine (HI1.out _ K7.out).mono ?_
      rintro e w8 ⟨rfl, hb⟩
      have K8 := Lib.hid (below_step K7.out hb)
      have m0 := cell_kept n0 hb
      have m1 := cell_kept n1 hb
      clear hb n0 n1
      go_wp2_with fail
      refine (HF1.out _ K8.out).mono ?_
      rintro e w9 ⟨rfl, hb⟩
      have B9 := Lib.hid (below_step B2.out (below_step K8.out hb))
      have hst := HST.out
      clear hb m0 m1
      by_cases hT : T = -1
      · obtain rfl : R = true := by rw [hst, decide_eq_true hT]
        subst hT
        clear hst
        go_wp2
        go_ret
        exact ⟨rfl, B9.out⟩
      · obtain rfl : R = false := by rw [hst, decide_eq_false hT]
        have hT2 : (T == -1) = false := by simpa using hT
        clear hst
        go_wp2
        go_ret
        exact ⟨rfl, B9.out⟩

end Go.Proofs.YtmmppflaacabbaaDoor.fnSorted
