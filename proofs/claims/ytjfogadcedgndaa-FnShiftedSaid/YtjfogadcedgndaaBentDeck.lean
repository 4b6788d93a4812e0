/- What spec.l02BentDeck gives: a list of at most 41 cards of at most 64 columns; nothing but the source's block turns, and new blocks. -/
import Derived.Test.YtjfogadcedgndaaSpoilAt
import Derived.Test.YtjfogadcedgndaaDeckDraw
namespace Go.Proofs.Ytjfogadcedgndaa
open Go.ChangeShapes Go.WideShapes Go.ChangeAt Go.RowKit

/-- The cards of block gq are D, each in a block from base on. -/
def DeckFrom (base : Nat) (W : World) (gq : Nat) (D : List CardV) : Prop :=
  base ≤ gq ∧ gq < W.heap.size ∧ ∀ (i : Nat) (d : CardV), D[i]? = some d → W.cell? ⟨gq, i, none⟩ = some d.value ∧ CardFrom base W d.at_ d.xs
theorem DeckFrom.deck {base gq : Nat} {W : World} {D : List CardV} (h : DeckFrom base W gq D) : Deck W W.heap.size (some ⟨gq, 0, none⟩) D := fun _ =>
  ⟨gq, 0, rfl, h.2.1, fun i d hd => by
    rw [Nat.zero_add]
    exact ⟨(h.2.2 i d hd).1, (h.2.2 i d hd).2.ints⟩⟩
theorem DeckIn.all {base gq n cq : Nat} {W : World} {D : List CardV} (h : DeckIn base W (.slice (some ⟨gq, 0, none⟩) n cq) D) : DeckFrom base W gq D :=
  ⟨(h.1.lt gq rfl).1, (h.1.lt gq rfl).2, fun i d hd => by
    obtain ⟨hi, rfl⟩ := List.getElem?_eq_some_iff.1 hd
    exact ⟨h.cell hi, (h.2.1 _ (List.getElem_mem hi)).1⟩⟩
theorem DeckIn.block {base gq n cq : Nat} {W : World} {D : List CardV} (h : DeckIn base W (.slice (some ⟨gq, 0, none⟩) n cq) D) : ∃ cur, W.heap[gq]? = some (.cells cur 26 (0, 0)) := by
  rcases h.1.2 with ⟨e, _⟩ | ⟨g, cap, cur, e, _, hh, _⟩
  · cases e
  · injection e with e
    injection e with e
    injection e with e
    subst e
    exact ⟨cur, hh⟩
/-- A card of the list is spoiled: the list that is there then. -/
theorem DeckIn.spoiled {w0 w w' : World} {base g gq n cq i gr : Nat} {D : List CardV} {A : Option Addr} {cap : Nat} {ys : List Int} (h : DeckIn base w (.slice (some ⟨gq, 0, none⟩) n cq) D) (hi : i < D.length) (hat : (D[i]'hi).at_ = some ⟨gr, 0, none⟩) (hu : GU w0 w w' g gq i gr) (hg : g < base)
    (hc : w'.cell? ⟨gq, i, none⟩ = some (.slice A ys.length cap)) (hcf : CardFrom base w' A ys) : DeckFrom base w' gq (D.set i ⟨A, cap, ys⟩) := by
  obtain ⟨cur, hb⟩ := h.block
  refine ⟨(h.1.lt gq rfl).1, Nat.lt_of_lt_of_le (h.1.lt gq rfl).2 hu.size, fun j d hd => ?_⟩
  by_cases hj : j = i
  · subst hj
    rw [List.getElem?_set_self hi] at hd
    injection hd with hd
    subst hd
    exact ⟨hc, hcf⟩
  · rw [List.getElem?_set_ne (fun e => hj e.symm)] at hd
    obtain ⟨hjl, rfl⟩ := List.getElem?_eq_some_iff.1 hd
    refine ⟨(hu.cells j hj).trans (h.cell hjl), fun h0 => ?_⟩
    obtain ⟨b, ex, e1, e2, hr⟩ := (h.2.1 _ (List.getElem_mem hjl)).1 h0
    refine ⟨b, ex, e1, e2, ?_⟩
    have hne : b ≠ gr := by
      rintro rfl
      have hp := List.pairwise_iff_getElem.1 h.2.2
      rcases Nat.lt_or_gt_of_ne hj with hlt | hgt
      · exact hp j i hjl hi hlt (e1.trans hat.symm)
      · exact hp i j hi hjl hgt (hat.trans e1.symm)
    have hbq : b ≠ gq := by
      rintro rfl
      have hr' := hr
      unfold Row at hr'
      rw [hb] at hr'
      injection hr' with hr'
      injection hr' with _ hr'
      exact absurd hr' (by decide)
    exact (hu.rest b hr.lt (by omega) hbq hne).trans hr
/-- What a drawn list of cards leaves, be it a deck or none. -/
def DrawsBentDeck (B g K : Nat) (w : World) (e : Ending) (w' : World) : Prop :=
  ∃ gq cq D, e = .returned (.slice (some ⟨gq, 0, none⟩) D.length cq) ∧ D.length ≤ 41 ∧ (∀ d ∈ D, d.xs.length ≤ 64) ∧ w.grownBy w' (some g) ∧ DeckFrom w.heap.size w' gq D ∧ Src w' B g K
theorem DeckFrom.lower {b base gq : Nat} {W : World} {D : List CardV} (h : DeckFrom base W gq D) (hb : b ≤ base) : DeckFrom b W gq D :=
  ⟨by have := h.1; omega, h.2.1, fun i d hd => ⟨(h.2.2 i d hd).1, fun h0 => by
    obtain ⟨gr, ex, hA, hr, hrow⟩ := (h.2.2 i d hd).2 h0
    exact ⟨gr, ex, hA, by omega, hrow⟩⟩⟩
theorem DeckIn.short {base : Nat} {W : World} {v : Value} {D : List CardV} (h : DeckIn base W v D) : ∀ d ∈ D, d.xs.length ≤ 64 := fun d hd => (h.2.1 d hd).2.2

set_option maxRecDepth 100000 in
set_option maxHeartbeats 4000000 in
theorem l02BentDeck_any (B g k0 : Nat) (w : World) (h : Src w B g k0) (hk : k0 ≤ 1000) :
    Calls Try.prog 88 #[.pointer (some ⟨g, 0, none⟩)] w (DrawsBentDeck B g (k0 + 40000) w) := by
  obtain ⟨i0, hi0, hz0, hz1, hz2⟩ := info_parts info_card
  have hglt0 := h.lt
  have HP := Lib.hid (pick_any w B g k0 4 h (by omega) (by omega) (by omega))
  clear h
  go_enter Try.func88, Try.ntmps88
  go_wp2_with fail
  refine HP.out.mono ?_
  rintro e w1 ⟨r, rfl, hr0, hr1, hg, hs⟩
  obtain ⟨i, rfl⟩ : ∃ i : Nat, r = i := ⟨r.toNat, by omega⟩
  have hglt := hs.lt
  have z1 : w.heap.size ≤ w1.heap.size := hg.size
  have G1 := Lib.hid hg
  have hd := l02DrawDeck_any (1 + i) 7 B g (k0 + 2) w1 hs (by omega) (by omega) (by omega) (by omega)
  rw [show ((1 + i : Nat) : Int) = 1 + (i : Int) by omega, show ((7 : Nat) : Int) = 7 from rfl] at hd
  have HD := Lib.hid hd
  have hw1 : IntKind.i64.wrap (1 + (i : Int) + 1) = 1 + (i : Int) + 1 := IntWalk.i64_in _ (by omega)
  clear hg hs hd HP
  go_wp2_with fail
  refine HD.out.mono ?_
  rintro e w2 ⟨gq, cq, D, rfl, hl, hg, hdk, hs⟩
  have HP16 := Lib.hid (pick_any w2 B g (k0 + 2 + 2 + 600 * 7) 16 hs (by omega) (by omega) (by omega))
  have G2 := Lib.hid hg
  have DK2 := Lib.hid hdk
  clear hg hs hdk HD
  go_wp2_with fail
  refine HP16.out.mono ?_
  rintro e w3 ⟨r, rfl, hq0, hq1, hg, hs⟩
  have HG3 := Lib.hid (only_step G2.out hg)
  have HD3 := Lib.hid (DK2.out.only hg hglt)
  have HS3 := Lib.hid hs
  have hsz3 : w1.heap.size ≤ w3.heap.size := HG3.out.size
  clear hg hs HP16 G2 DK2
  have hend : Hid (DrawsBentDeck B g (k0 + 40000) w (.returned (.slice (some ⟨gq, 0, none⟩) D.length cq)) w3) := ⟨gq, cq, D, rfl, by omega, HD3.out.short, only_step G1.out HG3.out, HD3.out.all.lower z1, HS3.out.more (by omega)⟩
  by_cases h0 : r = 0
  · subst h0
    clear hend
    have hdr := l02Draw_any (1 + i + 1) B g (k0 + 2 + 2 + 600 * 7 + 2) w3 HS3.out (by omega) (by omega) (by omega)
    rw [show ((1 + i + 1 : Nat) : Int) = 1 + (i : Int) + 1 by omega] at hdr
    have HDR := Lib.hid hdr
    clear hdr
    go_wp2_with fail
    refine HDR.out.mono ?_
    rintro e w4 ⟨gr, cap, l, ex, rfl, hl4, _, _, _, hgr, hg, hs, hrow⟩
    have HNEW := Lib.hid (HD3.out.fresh hgr)
    have HG4 := Lib.hid (only_step HG3.out hg)
    have HD4 := Lib.hid (HD3.out.only hg hglt)
    have HS4 := Lib.hid hs
    have HCA : Hid (CardIn w1.heap.size w4 ⟨some ⟨gr, 0, none⟩, cap, l⟩) := ⟨fun _ => ⟨gr, ex, rfl, by omega, hrow⟩, by show 1 ≤ l.length; omega, by show l.length ≤ 64; omega⟩
    have hsz4 : w1.heap.size ≤ w4.heap.size := HG4.out.size
    clear hg hs hrow HDR HG3 HD3 HS3 hl4
    go_wp2_with (at_builtin; (refine wpList_append_own _ rfl _ _ 43 rfl w1.heap.size 26 i0 (.agg #[.slice none 0 0]) 1 24 Try.underlying43 hi0 hz0 hz1 hz2 rfl (by decide) _ _ _ rfl (HD4.out.1.alloc _) ⟨w4.heap.size, 0, none⟩ 1 1 [.slice (some ⟨gr, 0, none⟩) l.length cap] rfl rfl ?c1 ?c2 ?c3 ?c4 ?c5 ?_; rotate_left 5; intro v' w9 hown hgrow _; obtain ⟨gq', cq', rfl⟩ := int_shape hown (Nat.succ_pos _); have HG9 := Lib.hid (only_append HG4.out hgrow HD4.out.1 (Nat.le_refl _)); have HS9 := Lib.hid (HS4.out.keep (fun i hi => append_block hgrow HD4.out.1 (by omega) (by omega))); have HD9 := Lib.hid (HD4.out.push HCA.out HNEW.out hgrow hown); clear hown hgrow))
    case c1 => exact one_cardD _ _
    case c2 => exact one_cardDc _ _ _
    case c3 => unfold maxLen; omega
    case c4 => omega
    case c5 => first | omega | (simp; omega)
    go_wp2
    go_ret
    have hL : (D ++ [(⟨some ⟨gr, 0, none⟩, cap, l⟩ : CardV)]).length = D.length + 1 := by simp
    exact ⟨gq', cq', D ++ [⟨some ⟨gr, 0, none⟩, cap, l⟩], by rw [hL]; rfl, by rw [hL]; omega, HD9.out.short, only_step G1.out HG9.out, HD9.out.all.lower z1, HS9.out.more (by omega)⟩
  · by_cases h1 : r = 1
    · subst h1
      by_cases hD0 : D.length = 0
      · obtain rfl : D = [] := List.eq_nil_of_length_eq_zero hD0
        have j0 : ¬ (0 : Int) < ((0 : Nat) : Int) := by omega
        go_wp2
        go_ret
        exact hend.out
      · have j0 : (0 : Int) < (D.length : Int) := by omega
        have HPK := Lib.hid (pick_any w3 B g (k0 + 2 + 2 + 600 * 7 + 2) (D.length : Int) HS3.out (by omega) (by omega) (by omega))
        clear hend
        go_wp2_with fail
        refine HPK.out.mono ?_
        rintro e w4 ⟨r, rfl, hr2, hr3, hg, hs⟩
        obtain ⟨j, rfl⟩ : ∃ j : Nat, r = j := ⟨r.toNat, by omega⟩
        have hj : j < D.length := by omega
        have hdk := HD3.out.only hg hglt
        have HG4 := Lib.hid (only_step HG3.out hg)
        have hcell := hdk.cell hj
        obtain ⟨cur, hb⟩ := hdk.block
        have hfr : w4.frozen? ⟨gq, j, none⟩ = false := by simp [World.frozen?, hb]
        obtain ⟨hcf, hc1, hc64⟩ := hdk.2.1 _ (List.getElem_mem hj)
        obtain ⟨gr, ex, hA, hgr, hrow⟩ := hcf (by omega)
        have hgq := hdk.1.lt gq rfl
        have hne : gr ≠ gq := by
          rintro rfl
          have hr' := hrow
          unfold Row at hr'
          rw [hb] at hr'
          injection hr' with hr'
          injection hr' with _ hr'
          exact absurd hr' (by decide)
        rw [CardV.value, hA] at hcell
        have HSP := Lib.hid (spoilAt_any w1 w4 B g (k0 + 2 + 2 + 600 * 7 + 2 + 2) gq j (D[j]'hj).xs.length (D[j]'hj).cap gr (D[j]'hj).xs ex HG4.out hs (by omega) hglt hgq.1 hcell hfr rfl (by omega) hc64 hgr hrow hne)
        have HDK := Lib.hid hdk
        have HA := Lib.hid hA
        have i1 : (0 : Int) ≤ (j : Int) := Int.natCast_nonneg _
        clear hg hs HPK hdk hcell hb hfr hcf hrow hA hc1 hc64 HD3 HS3 HG3
        go_wp2_with fail
        refine HSP.out.mono ?_
        rintro e w5 ⟨A', cap', ys, ⟨v, rfl⟩, d5, _, hy, hcf, hu, hs⟩
        have HDD := Lib.hid (HDK.out.spoiled hj HA.out hu hglt d5 hcf)
        have HG5 := Lib.hid hu.only
        have HS5 := Lib.hid hs
        have HSH := Lib.hid HDK.out.short
        clear hs hu hcf d5 HSP HDK HA HG4
        go_wp2
        go_ret
        refine ⟨gq, cq, D.set j ⟨A', cap', ys⟩, by rw [List.length_set]; rfl, by rw [List.length_set]; omega, fun d hd => ?_, only_step G1.out HG5.out, HDD.out.lower z1, HS5.out.more (by omega)⟩
        rcases List.mem_or_eq_of_mem_set hd with hd | rfl
        · exact HSH.out d hd
        · exact hy
    · by_cases h2 : r = 2
      · subst h2
        clear hend
        have HPB := Lib.hid (pick_any (w3.alloc (.cells #[] 26)) B g (k0 + 2 + 2 + 600 * 7 + 2) 2 (HS3.out.boxed _) (by omega) (by omega) (by omega))
        go_wp2_with fail
        refine HPB.out.mono ?_
        rintro e w4 ⟨r, rfl, hr2, hr3, hg, hs⟩
        obtain ⟨q, rfl⟩ : ∃ q : Nat, r = q := ⟨r.toNat, by omega⟩
        have HG4 := Lib.hid (only_step (only_step HG3.out (only_box w3 (.cells #[] 26) g)) hg)
        have HD4 : Hid (DeckIn w1.heap.size w4 (.slice (some ⟨w3.heap.size, 0, none⟩) 0 0) []) := DeckIn.only ⟨⟨rfl, Or.inr ⟨w3.heap.size, 0, #[], rfl, hsz3, heap_alloc_new w3 _, Nat.le_refl _, Nat.zero_le _, rfl, rfl⟩⟩, (fun d hd => by cases hd), List.Pairwise.nil⟩ hg hglt
        have HS4 := Lib.hid hs
        clear hg hs HPB HG3 HD3 HS3
        go_wp2
        go_loopw [4, 5] (fun o i wr => ∃ k : Nat, ∃ D : List CardV, ∃ gq cq : Nat, D.length + k = 40 + q ∧ i = .int .i64 k ∧ o = .slice (some ⟨gq, 0, none⟩) D.length cq ∧ Hid (w1.grownBy wr (some g)) ∧ Hid (Src wr B g (k0 + 2 + 2 + 600 * 7 + 2 + 2 + 600 * D.length)) ∧ Hid (DeckIn w1.heap.size wr (.slice (some ⟨gq, 0, none⟩) D.length cq) D)) (fun _ i _ => (intOf i).toNat)
        case atStart => exact ⟨40 + q, [], w3.heap.size, 0, by simp, by simp, rfl, HG4.out, HS4.out, HD4.out⟩
        case round =>
          clear HG4 HD4 HS4
          obtain ⟨k, D', gq', cq', hjk, rfl, rfl, HG, HS, HD⟩ := hrel
          by_cases hlt : 0 < k
          · have hk1 : (0 : Int) < (k : Int) := by omega
            have hdr := l02Draw_any 1 B g (k0 + 2 + 2 + 600 * 7 + 2 + 2 + 600 * D'.length) wr HS.out (by omega) (by omega) (by omega)
            rw [show ((1 : Nat) : Int) = 1 from rfl] at hdr
            have HP := Lib.hid hdr
            clear hdr
            go_wp2_with fail
            refine HP.out.mono ?_
            rintro e w6 ⟨gr, cap, l, ex, rfl, hl4, _, _, _, hgr, hg, hs, hrow⟩
            have HNEW := Lib.hid (HD.out.fresh hgr)
            have HG6 := Lib.hid (only_step HG.out hg)
            have HD6 := Lib.hid (HD.out.only hg hglt)
            have HS6 := Lib.hid (hs.more (k' := k0 + 2 + 2 + 600 * 7 + 2 + 2 + 600 * (D'.length + 1)) (by omega))
            have hszr : w1.heap.size ≤ wr.heap.size := HG.out.size
            have HCA : Hid (CardIn w1.heap.size w6 ⟨some ⟨gr, 0, none⟩, cap, l⟩) := ⟨fun _ => ⟨gr, ex, rfl, by omega, hrow⟩, by show 1 ≤ l.length; omega, by show l.length ≤ 64; omega⟩
            have hsz6 : w1.heap.size ≤ w6.heap.size := HG6.out.size
            clear hg hs hrow HP HG HD HS hl4
            go_wp2_with (at_builtin; (refine wpList_append_own _ rfl _ _ 43 rfl w1.heap.size 26 i0 (.agg #[.slice none 0 0]) 1 24 Try.underlying43 hi0 hz0 hz1 hz2 rfl (by decide) _ _ _ rfl (HD6.out.1.alloc _) ⟨w6.heap.size, 0, none⟩ 1 1 [.slice (some ⟨gr, 0, none⟩) l.length cap] rfl rfl ?c1 ?c2 ?c3 ?c4 ?c5 ?_; rotate_left 5; intro v' w9 hown hgrow _; obtain ⟨gq2, cq2, rfl⟩ := int_shape hown (Nat.succ_pos _); have HG9 := Lib.hid (only_append HG6.out hgrow HD6.out.1 (Nat.le_refl _)); have HS9 := Lib.hid (HS6.out.keep (fun i hi => append_block hgrow HD6.out.1 (by omega) (by omega))); have HD9 := Lib.hid (HD6.out.push HCA.out HNEW.out hgrow hown); clear hown hgrow))
            case c1 => exact one_cardD _ _
            case c2 => exact one_cardDc _ _ _
            case c3 => unfold maxLen; omega
            case c4 => omega
            case c5 => first | omega | (simp; omega)
            go_roundw
            case rel =>
              have hL : (D' ++ [(⟨some ⟨gr, 0, none⟩, cap, l⟩ : CardV)]).length = D'.length + 1 := by simp
              refine ⟨k - 1, D' ++ [⟨some ⟨gr, 0, none⟩, cap, l⟩], gq2, cq2, by omega, by go_num, by rw [hL], HG9.out, by rw [hL]; exact HS9.out, by rw [hL]; exact HD9.out⟩
            case measure => simp [intOf]; omega
          · obtain rfl : k = 0 := by omega
            have hk1 : ¬ (0 : Int) < ((0 : Nat) : Int) := by omega
            go_wp2
            go_ret
            exact ⟨gq', cq', D', rfl, by omega, HD.out.short, only_step G1.out HG.out, HD.out.all.lower z1, HS.out.more (by omega)⟩
      · have q0 : (r == 0) = false := by rw [beq_eq_false_iff_ne]; exact h0
        have q1 : (r == 1) = false := by rw [beq_eq_false_iff_ne]; exact h1
        have q2 : (r == 2) = false := by rw [beq_eq_false_iff_ne]; exact h2
        go_wp2
        go_ret
        exact hend.out
end Go.Proofs.Ytjfogadcedgndaa
