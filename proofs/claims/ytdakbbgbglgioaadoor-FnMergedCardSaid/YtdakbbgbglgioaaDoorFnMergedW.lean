/- The walk of the law FnMerged: merging sorted decks is the same as sorting them together. -/
import Derived.Test.YtdakbbgbglgioaaDoorH3
import Derived.Test.YtdakbbgbglgioaaDoorH4
import Derived.Test.YtdakbbgbglgioaaDoorH8
import Derived.Test.YtdakbbgbglgioaaDoorH9
import Derived.Test.YtdakbbgbglgioaaDoorStepOwn
import Derived.Deep.QuietTactic
import Derived.BigQuiet
import Derived.Deep.RegionHeld3
import Derived.Deep.DeepCutAuto
namespace Go.Proofs.YtdakbbgbglgioaaDoor.fnMerged
open Go.ChangeShapes Go.WideShapes Go.ChangeAt Go.RowKit

set_option maxRecDepth 100000 in
theorem walk_long (A : Option Addr) (n c : Nat) (w : World) (hn : n ≤ 9223372036854775807) (h : 3000 < n) :
    Calls Tryd.prog 3 #[.slice A n c] w fun e w' => e = .returned (.bool true) ∧ Below w.heap.size w w' := by
  have hL := a2Long_any A none n 0 c 0 w hn (by omega)
  have e : (decide (3000 < n) || decide (3000 < 0)) = true := by simpa using h
  rw [e] at hL
  have HL := Lib.hid hL
  clear hL e h
  go_enter Tryd.func3, Tryd.ntmps3
  go_wp2_with fail
  refine HL.out.mono ?_
  rintro e w1 ⟨rfl, rfl⟩
  go_wp2
  go_ret
  exact ⟨rfl, Below.refl _ _⟩

/-- the cards of a deck lie in memory -/
def CardsIn (w : World) (E : List CardV) : Prop := ∀ e ∈ E, Ints w w.heap.size e.at_ e.xs
theorem deck_cards {w : World} {g : Nat} {E : List CardV} (h : Deck w w.heap.size (some ⟨g, 0, none⟩) E) : CardsIn w E := fun e he => by
  obtain ⟨k, hk⟩ := List.getElem?_of_mem he
  obtain ⟨b, off, _, _, hc⟩ := h (by have := (List.getElem?_eq_some_iff.1 hk).1; omega)
  exact (hc k e hk).2
theorem CardsIn.later {w w' : World} {E : List CardV} (h : CardsIn w E) (hb : Below w.heap.size w w') : CardsIn w' E := fun e he => ((h e he).below hb).more hb.size
theorem CardsIn.join {w : World} {E F : List CardV} (h : CardsIn w E) (h' : CardsIn w F) : CardsIn w (E ++ F) := fun e he => by
  rcases List.mem_append.1 he with he | he
  · exact h e he
  · exact h' e he
theorem deck_news {w : World} {B g : Nat} {E : List CardV} (h : Deck w B (some ⟨g, 0, none⟩) E) : ∀ k u, (E.map CardV.value)[k]? = some u → w.cell? ((⟨g, 0, none⟩ : Addr).add k) = some u := fun k u hu => by
  rw [List.getElem?_map] at hu
  cases he : E[k]? with
  | none => rw [he] at hu; cases hu
  | some e =>
    rw [he] at hu
    obtain rfl : e.value = u := Option.some.inj hu
    obtain ⟨b, off, e1, _, hc⟩ := h (by have := (List.getElem?_eq_some_iff.1 he).1; omega)
    obtain ⟨rfl, rfl⟩ : g = b ∧ 0 = off := by injection e1 with e1; injection e1 with x1 x2; exact ⟨x1, x2⟩
    have hadd : (⟨g, 0, none⟩ : Addr).add k = ⟨g, 0 + k, none⟩ := Go.WideShapes.add_plain _ _ _
    rw [hadd]
    exact (hc k e he).1
theorem value_one (E : List CardV) : ∀ u ∈ E.map CardV.value, u.oneCell' = true := fun u hu => by
  obtain ⟨d, _, rfl⟩ := List.mem_map.1 hu
  rfl
theorem own_deck {w : World} {base g n cap : Nat} {E : List CardV} (h : w.ownsRow base 36 1 (.slice (some ⟨g, 0, none⟩) n cap) n (E.map CardV.value)) (hl : E.length = n) (hc : CardsIn w E) : Deck w w.heap.size (some ⟨g, 0, none⟩) E := fun h0 => by
  rcases h.2 with ⟨e, _⟩ | ⟨g', cap', cur, hv, _, hh, _, _, _, ht⟩
  · cases e
  · injection hv with e1 _ _
    injection e1 with e1
    injection e1 with e1
    subst e1
    refine ⟨g, 0, rfl, ?_, fun k e he => ⟨?_, hc e (List.mem_of_getElem? he)⟩⟩
    · rcases Nat.lt_or_ge g w.heap.size with hlt | hge
      · exact hlt
      · rw [Array.getElem?_eq_none hge] at hh
        cases hh
    · have hk := (List.getElem?_eq_some_iff.1 he).1
      rw [Nat.zero_add, cell_of_row w g k _ _ _ hh]
      have hu : (E.map CardV.value)[k]? = some e.value := by rw [List.getElem?_map, he]; rfl
      rw [← ht, List.getElem?_take_of_lt (by omega)] at hu
      simpa using hu

set_option maxRecDepth 100000 in
set_option maxHeartbeats 8000000 in
theorem walk_short (A : Option Addr) (n c : Nat) (w : World) (h0 : BytesAt w w.heap.size A n) (hn : n ≤ 3000) (hP : Places w) :
    Calls Tryd.prog 3 #[.slice A n c] w fun e w' => e = .returned (.bool true) ∧ Below w.heap.size w w' := by
  obtain ⟨ic, hi0, hz0, hz1, hz2⟩ := info_parts info_card
  have hL := a2Long_any A none n 0 c 0 w (by omega) (by omega)
  have e : (decide (3000 < n) || decide (3000 < 0)) = false := by simp; omega
  rw [e] at hL
  have HL := Lib.hid hL
  have HD := Lib.hid (A2Two_any A n c w.heap.size w h0 (Nat.le_refl _) hn)
  have HPL := Lib.hid hP
  clear hL e h0 hP
  go_enter Tryd.func3, Tryd.ntmps3
  go_wp2_with fail
  refine HL.out.mono ?_
  rintro e w1 ⟨rfl, rfl⟩
  go_wp2_with fail
  refine HD.out.mono ?_
  rintro e w2 ⟨gq, cq, D, gp, cp, D', i, j, rfl, hl, hl', hij, hj2, hb, hd, hd'⟩
  have B2 := Lib.hid hb
  obtain ⟨v1, v2, v3, v4⟩ := drawn_deck hd (by omega)
  obtain ⟨u1, u2, u3, u4⟩ := drawn_deck hd' (by omega)
  have hx : ∀ d ∈ D, d.xs.length ≤ 1048576 := fun d hd0 => by
    obtain ⟨b, ex, _, _, _, hl, _⟩ := hd.2 d hd0
    omega
  have hx' : ∀ d ∈ D', d.xs.length ≤ 1048576 := fun d hd0 => by
    obtain ⟨b, ex, _, _, _, hl, _⟩ := hd'.2 d hd0
    omega
  have k1 := drawn_code v1 (v3 i j) hij (by rw [v2]; split <;> omega)
  have k2 := drawn_code u1 (u3 i j) hij (by rw [u2]; split <;> omega)
  have hww : (holes D).length ≠ 0 → (holes D').length ≠ 0 → widthH (holes D) = widthH (holes D') := fun h1 h2 => by
    rw [holes_len] at h1 h2
    rw [v2, u2, if_neg h1, if_neg h2]
  have hs1 := fun (W : World) (hW : Below w2.heap.size w2 W) => specSortedC_any (some ⟨gq, 0, none⟩) cq D w2.heap.size i j W (hd.deck.below hW) hW.size (by omega) hx v4
  have hs2 := fun (W : World) (hW : Below w2.heap.size w2 W) => specSortedC_any (some ⟨gp, 0, none⟩) cp D' w2.heap.size i j W (hd'.deck.below hW) hW.size (by omega) hx' u4
  have hms := merge_sorted k1 k2 hww (by rw [holes_len, holes_len]; omega)
  have hmo := fun x (hx : x ∈ holes D') (h1 : (holes D).length ≠ 0 → widthH (holes D) = widthH (holes D')) => merge_one k1 k2 hx h1 (by rw [holes_len]; omega)
  have kj := join_code (sortV_code k1) (sortV_code k2) (fun h1 h2 => by rw [sortV_length] at h1 h2; rw [Int.toNat_natCast, Int.toNat_natCast, (sortV_width v1).1, (sortV_width u1).1]; exact hww h1 h2) (by rw [sortV_length, sortV_length, holes_len, holes_len]; omega)
  have hl1 := sortV_length (holes D) i j
  have hl2 := sortV_length (holes D') i j
  rw [holes_len] at hl1 hl2
  have hsub : ∀ x ∈ sortV (holes D') i j, x ∈ holes D' := fun x hx => sortV_mem hx
  have hxX : ∀ x ∈ sortV (holes D) i j, x.length ≤ 1048576 := fun x h => by
    obtain ⟨d, hd0, rfl⟩ := List.mem_map.1 (sortV_mem h)
    exact hx d hd0
  have hxY : ∀ x ∈ sortV (holes D') i j, x.length ≤ 1048576 := fun x h => by
    obtain ⟨d, hd0, rfl⟩ := List.mem_map.1 (sortV_mem h)
    exact hx' d hd0
  simp only [sortA, k1, if_true, Int.toNat_natCast] at hs1 hmo hms kj
  simp only [sortA, k2, if_true, Int.toNat_natCast] at hs2
  obtain ⟨N, hN⟩ : ∃ N, D.length = N := ⟨_, rfl⟩
  obtain ⟨M, hM⟩ : ∃ M, D'.length = M := ⟨_, rfl⟩
  obtain ⟨X, hX⟩ : ∃ X, sortV (holes D) i j = X := ⟨_, rfl⟩
  obtain ⟨Y, hY⟩ : ∃ Y, sortV (holes D') i j = Y := ⟨_, rfl⟩
  rw [hN, hX] at hl1
  rw [hM, hY] at hl2
  simp only [hN, hX] at hs1
  simp only [hM, hY] at hs2
  rw [hX, hY] at hms kj
  rw [hY] at hsub hxY
  rw [hX] at hxX
  rw [hX] at hmo
  rw [hN] at hl ⊢
  rw [hM] at hl' ⊢
  have HS1 := Lib.hid hs1
  have HS2 := Lib.hid hs2
  have HMS := Lib.hid hms
  have HMO := Lib.hid hmo
  have HKJ := Lib.hid kj
  have HSUB := Lib.hid hsub
  have HXX := Lib.hid hxX
  have HXY := Lib.hid hxY
  have HX1 := Lib.hid hl1
  have HY1 := Lib.hid hl2
  have HWW := Lib.hid hww
  have HM0 := Lib.hid hM
  have b3 := below_box w2 (.cells #[.int .i64 i, .int .i64 j] 26)
  have f0 : (w2.alloc (.cells #[.int .i64 i, .int .i64 j] 26)).cell? ⟨w2.heap.size, 0, none⟩ = some (.int .i64 i) := by simp [go_sem]
  have f1 : (w2.alloc (.cells #[.int .i64 i, .int .i64 j] 26)).cell? ⟨w2.heap.size, 1, none⟩ = some (.int .i64 j) := by simp [go_sem]
  obtain ⟨p, hp⟩ : ∃ p, w2.heap.size = p := ⟨_, rfl⟩
  obtain ⟨W3, eW⟩ : ∃ W3, w2.alloc (.cells #[.int .i64 i, .int .i64 j] 26) = W3 := ⟨_, rfl⟩
  rw [eW] at b3 f0 f1
  rw [hp] at f0 f1
  have K3 := Lib.hid b3
  have B3 := Lib.hid (below_step B2.out b3)
  have HW := Lib.hid eW
  clear hb hd hd' v1 v2 v3 v4 u1 u2 u3 u4 hx hx' k1 k2 hww hs1 hs2 hms hmo kj hl1 hl2 hsub hxX hxY hN hM hX hY b3 eW HD HL
  go_wp2_with fail
  try rw [HW.out]
  refine (HS1.out _ K3.out).mono ?_
  rintro e w4 ⟨A1, c1, E1, rfl, hE1, hb, hda1, hcp1, hg1⟩
  obtain ⟨g1, rfl⟩ := hg1 rfl
  rw [HX1.out]
  have K4 := Lib.hid (below_step K3.out hb)
  have g0 := cell_kept f0 hb
  have g1' := cell_kept f1 hb
  have HE1 := Lib.hid hE1
  have HD1 := Lib.hid hda1
  have HC1 := Lib.hid hcp1
  clear hb hE1 hda1 hcp1 hg1 f0 f1 HS1
  go_wp2_with fail
  refine (HS2.out _ K4.out).mono ?_
  rintro e w5 ⟨A2, c2, E2, rfl, hE2, hb, hda2, hcp2, hg2⟩
  obtain ⟨g2, rfl⟩ := hg2 rfl
  rw [HY1.out]
  have K5 := Lib.hid (below_step K4.out hb)
  have f0 := cell_kept g0 hb
  have f1 := cell_kept g1' hb
  have HD15 := Lib.hid (HD1.out.later hb)
  have HE2 := Lib.hid hE2
  have HD2 := Lib.hid hda2
  have HC2 := Lib.hid hcp2
  clear hb hE2 hda2 hcp2 hg2 g0 g1' HS2 HD1
  have hn1 : E1.length = N := by rw [← holes_len, HE1.out, HX1.out]
  have hn2 : E2.length = M := by rw [← holes_len, HE2.out, HY1.out]
  have hm1 : ∀ d ∈ E1, d.xs.length ≤ 1048576 := fun d hd => HXX.out d.xs (by rw [← HE1.out]; exact List.mem_map_of_mem hd)
  have hm2 : ∀ d ∈ E2, d.xs.length ≤ 1048576 := fun d hd => HXY.out d.xs (by rw [← HE2.out]; exact List.mem_map_of_mem hd)
  have hmg := implMergeDecks_any (some ⟨g1, 0, none⟩) (some ⟨g2, 0, none⟩) c1 c2 E1 E2 w5.heap.size w5.heap.size i j w5 HD15.out.deck HD2.out.deck (Nat.le_refl _) (Nat.le_refl _) (by omega) (by omega) hm1 hm2 HC1.out HC2.out (HPL.out.below (below_step B2.out K5.out))
  obtain ⟨Z, hZ⟩ : ∃ Z, sortV (X ++ Y) i j = Z := ⟨_, rfl⟩
  have hZl : Z.length = N + M := by rw [← hZ, sortV_length, List.length_append, HX1.out, HY1.out]
  have hzx : ∀ x ∈ Z, x.length ≤ 1048576 := fun x h => by
    rw [← hZ] at h
    rcases List.mem_append.1 (sortV_mem h) with h | h
    · exact HXX.out x h
    · exact HXY.out x h
  rw [HE1.out, HE2.out, HMS.out.1, HMS.out.2, hZ, hn1, hn2] at hmg
  unfold GivesDC at hmg
  rw [hZl] at hmg
  have hEE : holes (E1 ++ E2) = X ++ Y := by rw [← HE1.out, ← HE2.out]; simp [holes]
  have hEl : (E1 ++ E2).length = N + M := by rw [List.length_append, hn1, hn2]
  have hs3 := fun (W : World) (g cap : Nat) (hdk : Deck W W.heap.size (some ⟨g, 0, none⟩) (E1 ++ E2)) => specSortedC_any (some ⟨g, 0, none⟩) cap (E1 ++ E2) W.heap.size i j W hdk (Nat.le_refl _) (by omega) (fun d hd => (List.mem_append.1 hd).elim (fun h => hm1 d h) (fun h => hm2 d h)) (fun d hd => (List.mem_append.1 hd).elim (fun h => HC1.out d h) (fun h => HC2.out d h))
  simp only [hEE, sortA, HKJ.out, if_true, Int.toNat_natCast, hZ, hEl] at hs3
  unfold GivesDCG at hs3
  simp only [hZl] at hs3
  have HMG := Lib.hid hmg
  have HS3 := Lib.hid hs3
  have HZX := Lib.hid hzx
  have HZL := Lib.hid hZl
  have HN1 := Lib.hid hn1
  have HN2 := Lib.hid hn2
  have HM1 := Lib.hid hm1
  have HM2 := Lib.hid hm2
  clear hmg hs3 hzx hZl hZ hEE hEl hn1 hn2 hm1 hm2 HKJ HMS HXX HXY
  go_wp2_with fail
  refine HMG.out.mono ?_
  rintro e w6 ⟨A3, c3, E3, rfl, hE3, hb, hda3⟩
  have K6 := Lib.hid (below_step K5.out hb)
  have m0 := cell_kept f0 hb
  have m1 := cell_kept f1 hb
  have HD16 := Lib.hid (HD15.out.later hb)
  have HD26 := Lib.hid (HD2.out.later hb)
  have HE3 := Lib.hid hE3
  have HD3 := Lib.hid hda3
  clear hb hE3 hda3 f0 f1 HMG HD15 HD2
  go_upto_region 7 with fail
  go_cut [12, 13] (fun s0 s1 wx => ∃ A c E, s0 = .slice A (N + M) c ∧ s1 = .int .i64 0 ∧ holes E = Z ∧ Below w6.heap.size w6 wx ∧ DeckAt wx w6.heap.size wx.heap.size A E)
  case first =>
    have K0 : Hid (Below w6.heap.size w6 w6.drew) := Below.drew (Below.refl _ _)
    have KA : Hid (Below w6.heap.size w6 (w6.drew.alloc (.cells #[] 36))) := K0.out.alloc K0.out.size _
    have a0 := cell_kept m0 KA.out
    have a1 := cell_kept m1 KA.out
    have R0 : Hid ((w6.drew.alloc (.cells #[] 36)).ownsRow w6.heap.size 36 1 (.slice (some ⟨w6.heap.size, 0, none⟩) 0 0) 0 []) := empty_cards w6.drew
    have NW1 := Lib.hid (deck_news (HD16.out.later KA.out).deck)
    have hk1 : (E1.map CardV.value).length = N * 1 := by rw [List.length_map, HN1.out, Nat.mul_one]
    have hk2 : (E2.map CardV.value).length = M * 1 := by rw [List.length_map, HN2.out, Nat.mul_one]
    have HK1 := Lib.hid hk1
    have HK2 := Lib.hid hk2
    have hx1 : 0 + N ≤ maxLen := by unfold maxLen; omega
    have hx2 : (0 + N) * 24 ≤ 140737488355328 := by omega
    have hx3 : 0 + N + M ≤ maxLen := by unfold maxLen; omega
    have hx4 : (0 + N + M) * 24 ≤ 140737488355328 := by omega
    have hel : ((E1 ++ E2)).length = 0 + N + M := by rw [List.length_append, HN1.out, HN2.out, Nat.zero_add]
    have HEL := Lib.hid hel
    have HI1 := Lib.hid (deck_cards HD16.out.deck)
    have HI2 := Lib.hid (deck_cards HD26.out.deck)
    clear hel
    have HB1 := Lib.hid (And.intro hx1 (And.intro hx2 (And.intro hx3 hx4)))
    clear hk1 hk2 hx1 hx2 hx3 hx4
    go_region_held3 (fun W => W.cell? ⟨p, 0, none⟩ = some (.int .i64 i) ∧ W.cell? ⟨p, 1, none⟩ = some (.int .i64 j))
      (first | exact ⟨m0, m1⟩ | exact ⟨a0, a1⟩ | exact ⟨r0, r1⟩ | exact ⟨s0, s1⟩ | exact ⟨u0, u1⟩ | go_keep)
      (first
        | (refine step_append_own _ rfl _ _ 24 rfl w6.heap.size 36 ic (.agg #[.slice none 0 0]) 1 24 Tryd.underlying24 hi0 hz0 hz1 hz2 rfl (by decide) _ 0 [] rfl R0.out ⟨g1, 0, none⟩ N c1 (E1.map CardV.value) rfl HK1.out NW1.out (value_one _) HB1.out.1 HB1.out.2.1 KA.out.size ?_
           intro v7 w7 hown hgrow hiff
           have K7 : Hid (Below w6.heap.size w6 w7) := KA.out.grown hgrow KA.out.size (fun k hk => (R0.out.lt k hk).1)
           obtain ⟨g7, cap7, rfl⟩ := own_shape hown (fun ee => absurd (hiff.1 ee).1 (by intro h; cases h))
           have R7 := Lib.hid hown
           have r0 := cell_kept m0 K7.out
           have r1 := cell_kept m1 K7.out
           have NW2 := Lib.hid (deck_news (HD26.out.later K7.out).deck)
           clear hown hgrow hiff)
        | (refine step_append_own _ rfl _ _ 24 rfl w6.heap.size 36 ic (.agg #[.slice none 0 0]) 1 24 Tryd.underlying24 hi0 hz0 hz1 hz2 rfl (by decide) _ _ _ rfl R7.out ⟨g2, 0, none⟩ M c2 (E2.map CardV.value) rfl HK2.out NW2.out (value_one _) HB1.out.2.2.1 HB1.out.2.2.2 K7.out.size ?_
           intro v8 w8 hown hgrow hiff
           have K8 : Hid (Below w6.heap.size w6 w8) := K7.out.grown hgrow K7.out.size (fun k hk => (R7.out.lt k hk).1)
           obtain ⟨g8, cap8, rfl⟩ := own_shape hown (fun ee => absurd (hiff.1 ee).1 (by intro h; cases h))
           have R8 : Hid (w8.ownsRow w6.heap.size 36 1 (.slice (some ⟨g8, 0, none⟩) (0 + N + M) cap8) (0 + N + M) ((E1 ++ E2).map CardV.value)) := by rw [List.map_append]; exact hown
           have s0 := cell_kept m0 K8.out
           have s1 := cell_kept m1 K8.out
           clear hown hgrow hiff)
        | (go_at_call 9
           refine (HS3.out w8 g8 cap8 (own_deck R8.out HEL.out ((HI1.out.later K8.out).join (HI2.out.later K8.out)))).mono ?_
           rintro e w9 ⟨A9, c9, E9, rfl, hE9, hb9, hda9, _, _⟩
           have K9 := Lib.hid (below_step K8.out hb9)
           have u0 := cell_kept s0 hb9
           have u1 := cell_kept s1 hb9
           have HE9 := Lib.hid hE9
           have HDA9 := Lib.hid (hda9.widen K8.out.size (Nat.le_refl _) (Nat.le_refl _))
           clear hE9 hb9 hda9))
    all_goals (go_wp2_with fail; go_meet; exact ⟨A9, c9, E9, rfl, rfl, HE9.out, K9.out, HDA9.out⟩)
  case rest =>
    obtain ⟨A9, c9, E9, rfl, rfl, hE9, hb, hda9⟩ := hcut
    rename World => w7
    have hz3 : E3.length = N + M := by rw [← holes_len, HE3.out, HZL.out]
    have hz9 : E9.length = N + M := by rw [← holes_len, hE9, HZL.out]
    have hsd := specSameDeck_any A3 A9 c3 c9 E3 E9 w7.heap.size w7.heap.size w7 (HD3.out.later hb).deck hda9.deck (Nat.le_refl _) (Nat.le_refl _) (by omega) (by omega) (fun d hd => HZX.out d.xs (by rw [← HE3.out]; exact List.mem_map_of_mem hd)) (fun d hd => HZX.out d.xs (by rw [← hE9]; exact List.mem_map_of_mem hd))
    rw [HE3.out, hE9, decide_eq_true rfl, hz3, hz9] at hsd
    have HSD := Lib.hid hsd
    have K7 := Lib.hid (below_step K6.out hb)
    have r0 := cell_kept m0 hb
    have r1 := cell_kept m1 hb
    have HD17 := Lib.hid (HD16.out.later hb)
    have HD27 := Lib.hid (HD26.out.later hb)
    clear hsd hb hE9 hda9 hz3 hz9 m0 m1 HD16 HD26 HD3 HE3 HZX HZL HS3
    go_wp2_with fail
    refine HSD.out.mono ?_
    rintro e w8 ⟨rfl, hb⟩
    have K8 := Lib.hid (below_step K7.out hb)
    have s0 := cell_kept r0 hb
    have s1 := cell_kept r1 hb
    have HD18 := Lib.hid (HD17.out.later hb)
    have HD28 := Lib.hid (HD27.out.later hb)
    clear hb r0 r1 HD17 HD27 HSD
    go_wp2
    go_loopw [14] (fun vi wr => ∃ t : Nat, t ≤ M ∧ vi = .int .i64 t ∧ Hid (Below w8.heap.size w8 wr)) (fun vi _ => M - (intOf vi).toNat)
    case atStart => exact ⟨0, Nat.zero_le _, rfl, Below.refl _ _⟩
    case round =>
      obtain ⟨t, ht, rfl, HB⟩ := hrel
      by_cases hlt : t < M
      · obtain ⟨d, hd⟩ : ∃ d, E2[t]? = some d := ⟨E2[t]'(by rw [HN2.out]; exact hlt), List.getElem?_eq_getElem _⟩
        have hdm := List.mem_of_getElem? hd
        have hdY : d.xs ∈ Y := by rw [← HE2.out]; exact List.mem_map_of_mem hdm
        have hDn : D'.length ≠ 0 := by rw [HM0.out]; omega
        have hmc := HMO.out d.xs (HSUB.out d.xs hdY) (fun h1 => HWW.out h1 (by rw [holes_len]; exact hDn))
        obtain ⟨b3, o3, e3, _, hc3⟩ := (HD28.out.later HB.out).deck (by rw [HN2.out]; omega)
        obtain ⟨rfl, rfl⟩ : g2 = b3 ∧ 0 = o3 := by injection e3 with e3; injection e3 with x1 x2; exact ⟨x1, x2⟩
        obtain ⟨cd, id⟩ := hc3 t d hd
        rw [Nat.zero_add] at cd
        have hdl := HM2.out d hdm
        have hdc := HC2.out d hdm
        have hins := fun (W : World) (hW : Below wr.heap.size wr W) => implInsert_any (some ⟨g1, 0, none⟩) c1 E1 W.heap.size d W.heap.size i j W ((HD18.out.later (below_step HB.out hW)).deck) ((id.below hW).more hW.size) (Nat.le_refl _) (Nat.le_refl _) (by rw [HN1.out]; omega) HM1.out hdl HC1.out hdc (HPL.out.below (below_step B2.out (below_step K8.out (below_step HB.out hW))))
        have hone := fun (W : World) (hW : Below wr.heap.size wr W) => one_deck (W := W) (C := d) (id.below hW |>.more hW.size) (Nat.le_refl _) (Below.refl _ _)
        have hmd := fun (W : World) (q : Nat) (hW : Below wr.heap.size wr W) (hdk : Deck W W.heap.size (some ⟨q, 0, none⟩) [d]) => specMergeDecks_any (some ⟨g1, 0, none⟩) (some ⟨q, 0, none⟩) c1 E1 [d] W.heap.size W.heap.size i j W ((HD18.out.later (below_step HB.out hW)).deck) hdk (Nat.le_refl _) (Nat.le_refl _) (by rw [HN1.out]; omega) (show 1 ≤ 1048576 by decide) HM1.out (one_len hdl) HC1.out (one_caps hdc)
        obtain ⟨V, hV⟩ : ∃ V, mergeA X [d.xs] i j = V := ⟨_, rfl⟩
        have hVl : V.length ≤ 1048576 := by rw [← hV]; exact mergeA_length _ _ _ _
        have hVt : totH V ≤ 1048576 := by rw [← hV]; exact mergeA_total _ _ _ _
        simp only [HE1.out, hmc, hV, HN1.out] at hins
        simp only [HE1.out, show holes [d] = [d.xs] from rfl, hmc, hV, HN1.out, List.length_singleton] at hmd
        unfold GivesDC at hins hmd
        unfold CardV.value at cd
        obtain ⟨y, hy⟩ : ∃ y, d.xs.length = y := ⟨_, rfl⟩
        rw [hy] at cd
        simp only [hy] at hins hone
        have m0 := cell_kept s0 HB.out
        have m1 := cell_kept s1 HB.out
        have HINS := Lib.hid hins
        have HMD := Lib.hid hmd
        have HONE := Lib.hid hone
        have HVL := Lib.hid (And.intro hVl hVt)
        have t0 : (0 : Int) ≤ (t : Int) := Int.natCast_nonneg _
        have t1 : (t : Int) < (M : Int) := by omega
        clear hd hdm hdY hDn hmc e3 hc3 id hdl hdc hins hone hmd hV hVl hVt hy
        go_upto_region 13 with fail
        go_cut [15, 16] (fun s0 s1 wx => ∃ A c E, s0 = .slice A V.length c ∧ s1 = .int .i64 0 ∧ holes E = V ∧ Below wr.heap.size wr wx ∧ DeckAt wx wr.heap.size wx.heap.size A E)
        case first =>
          have K0 : Hid (Below wr.heap.size wr wr.drew) := Below.drew (Below.refl _ _)
          go_region_held3 (fun W => W.cell? ⟨g2, t, none⟩ = some (.slice d.at_ y d.cap) ∧ W.cell? ⟨p, 0, none⟩ = some (.int .i64 i) ∧ W.cell? ⟨p, 1, none⟩ = some (.int .i64 j))
            (first | exact ⟨cd, m0, m1⟩ | exact ⟨cell_kept cd K0.out, cell_kept m0 K0.out, cell_kept m1 K0.out⟩ | exact ⟨cell_kept cd K1.out, cell_kept m0 K1.out, cell_kept m1 K1.out⟩ | go_keep)
            (first
              | (go_at_call 12
                 refine (HINS.out wr.drew K0.out).mono ?_
                 rintro e w9 ⟨A8, c8, E8, rfl, hE8, hb9, hda8⟩
                 have K1 : Hid (Below wr.heap.size wr w9) := below_step K0.out hb9
                 have HE8 := Lib.hid hE8
                 have HDA8 : Hid (DeckAt w9 wr.heap.size w9.heap.size A8 E8) := hda8
                 clear hE8 hb9 hda8))
          all_goals (go_wp2_with fail; go_meet; exact ⟨A8, c8, E8, rfl, rfl, HE8.out, K1.out, HDA8.out⟩)
        case rest =>
          obtain ⟨A8, c8, E8, rfl, rfl, hE8, hb9, hda8⟩ := hcut
          rename World => w9
          have HE8 := Lib.hid hE8
          have HDA8 := Lib.hid hda8
          have K9 := Lib.hid hb9
          have cd9 := cell_kept cd hb9
          have n0 := cell_kept m0 hb9
          have n1 := cell_kept m1 hb9
          clear hE8 hb9 hda8 cd m0 m1
          go_upto_region 14 with fail
          go_cut [17, 18] (fun s0 s1 wx => ∃ A c E, s0 = .slice A V.length c ∧ s1 = .int .i64 0 ∧ holes E = V ∧ Below w9.heap.size w9 wx ∧ DeckAt wx w9.heap.size wx.heap.size A E)
          case first =>
            have K0 : Hid (Below w9.heap.size w9 w9.drew) := Below.drew (Below.refl _ _)
            have KA : Hid (Below w9.heap.size w9 (w9.drew.alloc (.cells #[.slice d.at_ y d.cap] 36))) := K0.out.alloc K0.out.size _
            have HDK := Lib.hid (HONE.out w9.drew (below_step K9.out K0.out))
            go_region_held3 (fun W => W.cell? ⟨g2, t, none⟩ = some (.slice d.at_ y d.cap) ∧ W.cell? ⟨p, 0, none⟩ = some (.int .i64 i) ∧ W.cell? ⟨p, 1, none⟩ = some (.int .i64 j))
              (first | exact ⟨cd9, n0, n1⟩ | exact ⟨cell_kept cd9 K0.out, cell_kept n0 K0.out, cell_kept n1 K0.out⟩ | exact ⟨cell_kept cd9 KA.out, cell_kept n0 KA.out, cell_kept n1 KA.out⟩ | exact ⟨cell_kept cd9 K1.out, cell_kept n0 K1.out, cell_kept n1 K1.out⟩ | go_keep)
              (first
                | (go_at_call 13
                   refine (HMD.out (w9.drew.alloc (.cells #[.slice d.at_ y d.cap] 36)) w9.heap.size (below_step K9.out KA.out) (HDK.out.more (by show w9.drew.heap.size + 1 ≤ _; simp))).mono ?_
                   rintro e w10 ⟨A7, c7, E7, rfl, hE7, hb10, hda7⟩
                   have K1 : Hid (Below w9.heap.size w9 w10) := below_step KA.out hb10
                   have HE7 := Lib.hid hE7
                   have HDA7 := Lib.hid (hda7.widen KA.out.size (Nat.le_refl _) (Nat.le_refl _))
                   clear hE7 hb10 hda7))
            all_goals (go_wp2_with fail; go_meet; exact ⟨A7, c7, E7, rfl, rfl, HE7.out, K1.out, HDA7.out⟩)
          case rest =>
            obtain ⟨A7, c7, E7, rfl, rfl, hE7, hb10, hda7⟩ := hcut
            rename World => w10
            have hz8 : E8.length = V.length := by rw [← HE8.out, holes_len]
            have hz7 : E7.length = V.length := by rw [← hE7, holes_len]
            have hsd := specSameDeck_any A8 A7 c8 c7 E8 E7 w10.heap.size w10.heap.size w10 (HDA8.out.later hb10).deck hda7.deck (Nat.le_refl _) (Nat.le_refl _) (by rw [hz8]; exact HVL.out.1) (by rw [hz7]; have := HVL.out.1; omega) (totH_deck HE8.out HVL.out.2) (totH_deck hE7 HVL.out.2)
            rw [HE8.out, hE7, decide_eq_true rfl, hz8, hz7] at hsd
            have HSD := Lib.hid hsd
            have K10 := Lib.hid (below_step HB.out (below_step K9.out hb10))
            clear hsd hb10 hE7 hda7 hz8 hz7 cd9 n0 n1
            go_wp2_with fail
            refine HSD.out.mono ?_
            rintro e w11 ⟨rfl, hb⟩
            have K11 := Lib.hid (below_step K10.out hb)
            clear hb HSD
            go_wp2
            go_roundw
            case rel => exact ⟨t + 1, by omega, by go_num, K11⟩
            case measure => simp [intOf]; omega
      · obtain rfl : t = M := by omega
        have t1 : ¬ (t : Int) < (t : Int) := by omega
        have B9 := Lib.hid (below_step B2.out (below_step K8.out HB.out))
        go_wp2
        go_ret
        exact ⟨rfl, B9.out⟩
end Go.Proofs.YtdakbbgbglgioaaDoor.fnMerged
