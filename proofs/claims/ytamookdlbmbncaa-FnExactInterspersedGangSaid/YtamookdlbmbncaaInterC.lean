/- impl.InterspersedGang answers the deck with copies from the last master: a contract. -/
import Derived.Test.YtamookdlbmbncaaInterI
import Derived.Test.YtamookdlbmbncaaCmpD
namespace Go.Proofs.Ytamookdlbmbncaa
open Go.ChangeShapes Go.WideShapes Go.ChangeAt Go.RowKit

theorem readM_length {H : List (List Int)} {k z t : Nat} (hat : ∀ xs ∈ H, xs.length = z) (hf : ∀ xs, H[0]? = some xs → mastB xs k = true) (ht : t < H.length) : (readM H k z t).length = z := by
  unfold readM
  split
  · simp
  · rename_i hm
    obtain ⟨x0, h0⟩ : ∃ x, H[0]? = some x := ⟨H[0]'(by omega), List.getElem?_eq_getElem _⟩
    have hpos : 0 < t := by
      rcases Nat.eq_zero_or_pos t with h | h
      · subst h
        rw [h0] at hm
        exact absurd (hf x0 h0) hm
      · exact h
    exact hat _ (lastM_in h0 (hf x0 h0) t hpos (by omega))
theorem deck_more {w : World} {B B' : Nat} {A : Option Addr} {D : List CardV} (h : Deck w B A D) (hb : B ≤ B') : Deck w B' A D := fun h0 => by
  obtain ⟨b, off, e, hlt, hc⟩ := h h0
  exact ⟨b, off, e, by omega, fun i d hd => ⟨(hc i d hd).1, (hc i d hd).2.more hb⟩⟩
section
variable (A : Option Addr) (c : Nat) (D : List CardV) (B : Nat) (k : Int) (AP : Option Addr) (cP : Nat) (P : List (Int × Int)) (BP : Nat) (w : World) (h : Deck w B A D) (hP : Copies w BP AP P) (hB : B ≤ w.heap.size) (hBP : BP ≤ w.heap.size) (hn : D.length ≤ 1048576) (hPn : P.length ≤ 1048576) (hl : ∀ d ∈ D, d.xs.length ≤ 1048576)
include h hP hB hBP hn hPn hl

set_option maxRecDepth 100000 in
set_option maxHeartbeats 4000000 in
theorem implInter_any : Calls Try.prog 35 #[.slice A D.length c, .int .i64 k, .slice AP P.length cP] w (GivesDC (interV (holes D) k P) (interC (holes D) k P) w) := by
  have hc := checkCopies_any A c D B A c D B AP cP P BP w h h hP hB hB hBP hn hn hPn hl hl
  have hw := fun W (hW : Below w.heap.size w W) => widthOf_any A c D B W (h.below (hW.mono hB)) hn hl
  have hcol := fun W => isColumnOf_any k (widthH (holes D)) W
  rcases interC_cases (holes D) k P with ⟨e1, ec, ea⟩ | ⟨e1, e2, ec, ea⟩ | ⟨e1, e2, e3, ec, ea⟩ | ⟨e1, e2, e3, e4, ec, ea⟩ | ⟨e1, e2, e3, e4, ec, ea⟩
  · have hd : decksC (holes D) (holes D) P = 1 := by simp [decksC, e1]
    rw [hd] at hc
    rw [ec, ea]
    obtain ⟨n, hN⟩ : ∃ n, D.length = n := ⟨_, rfl⟩
    obtain ⟨m, hM⟩ : ∃ m, P.length = m := ⟨_, rfl⟩
    obtain ⟨z, hZ⟩ : ∃ z, widthH (holes D) = z := ⟨_, rfl⟩
    rw [hN, hM] at hc ⊢
    have HC := Lib.hid hc
    clear hc hw hcol h hP hl e1 ec ea hd hN hM hZ hn hPn
    go_enter Try.func35, Try.ntmps35
    go_wp2_with fail
    refine HC.out.mono ?_
    rintro e w1 ⟨rfl, hb⟩
    have B1 := Lib.hid hb
    clear hb
    go_wp2
    go_ret2
    exact ⟨none, 0, [], rfl, rfl, B1.out, DeckAt.nil (Nat.le_refl _)⟩
  · have hd : decksC (holes D) (holes D) P = 2 := by simp [decksC, e1, e2]
    rw [hd] at hc
    rw [ec, ea]
    obtain ⟨n, hN⟩ : ∃ n, D.length = n := ⟨_, rfl⟩
    obtain ⟨m, hM⟩ : ∃ m, P.length = m := ⟨_, rfl⟩
    obtain ⟨z, hZ⟩ : ∃ z, widthH (holes D) = z := ⟨_, rfl⟩
    rw [hN, hM] at hc ⊢
    have HC := Lib.hid hc
    clear hc hw hcol h hP hl e1 e2 ec ea hd hN hM hZ hn hPn
    go_enter Try.func35, Try.ntmps35
    go_wp2_with fail
    refine HC.out.mono ?_
    rintro e w1 ⟨rfl, hb⟩
    have B1 := Lib.hid hb
    clear hb
    go_wp2
    go_ret2
    exact ⟨none, 0, [], rfl, rfl, B1.out, DeckAt.nil (Nat.le_refl _)⟩
  · have hd : decksC (holes D) (holes D) P = 0 := by simp [decksC, e1, e2]
    rw [hd] at hc
    simp only [colB_false e3] at hcol
    rw [ec, ea]
    obtain ⟨n, hN⟩ : ∃ n, D.length = n := ⟨_, rfl⟩
    obtain ⟨m, hM⟩ : ∃ m, P.length = m := ⟨_, rfl⟩
    obtain ⟨z, hZ⟩ : ∃ z, widthH (holes D) = z := ⟨_, rfl⟩
    rw [hN, hM] at hc ⊢
    simp only [hN, hZ] at hw
    simp only [hZ] at hcol
    have HC := Lib.hid hc
    have HW := Lib.hid hw
    have HCOL := Lib.hid hcol
    clear hc hw hcol h hP hl e1 e2 e3 ec ea hd hN hM hZ hn hPn
    go_enter Try.func35, Try.ntmps35
    go_wp2_with fail
    refine HC.out.mono ?_
    rintro e w1 ⟨rfl, hb⟩
    have B1 := Lib.hid hb
    clear hb
    go_wp2_with fail
    refine (HW.out _ B1.out).mono ?_
    rintro e w2 ⟨rfl, hb⟩
    have B2 := Lib.hid (below_step B1.out hb)
    clear hb
    go_wp2_with fail
    refine (HCOL.out _).mono ?_
    rintro e w3 ⟨rfl, rfl⟩
    go_wp2
    go_ret2
    exact ⟨none, 0, [], rfl, rfl, B2.out, DeckAt.nil (Nat.le_refl _)⟩
  · have hd : decksC (holes D) (holes D) P = 0 := by simp [decksC, e1, e2]
    rw [hd] at hc
    simp only [colB_true e3] at hcol
    obtain ⟨k', rfl⟩ : ∃ k' : Nat, k = k' := ⟨k.toNat, by omega⟩
    rw [Int.toNat_natCast] at e4
    obtain ⟨xs, h0, hm⟩ := e4
    have hpos : 0 < D.length := by
      obtain ⟨hi, _⟩ := List.getElem?_eq_some_iff.1 h0
      rwa [holes_len] at hi
    obtain ⟨d, hd0⟩ : ∃ d, D[0]? = some d := ⟨D[0]'hpos, List.getElem?_eq_getElem _⟩
    have hdx : d.xs = xs := by
      have := holesAt hd0
      rw [h0] at this
      exact (Option.some.inj this).symm
    have hdw := (deck_width e1 h0).2
    subst hdx
    obtain ⟨b, off, rfl, hb, hcell⟩ := h hpos
    obtain ⟨c1, hi1⟩ := hcell 0 d hd0
    have him := fun W (hW : Below w.heap.size w W) => isMaster_any d.at_ d.cap d.xs B k' W (hi1.below (hW.mono hB)) (Nat.le_trans hB hW.size) (by rw [hdw]; omega)
    simp only [hm] at him
    unfold CardV.value at c1
    rw [Nat.add_zero] at c1
    have C1 := Lib.hid (fun W (hW : Below w.heap.size w W) => cell_kept c1 hW)
    rw [ec, ea]
    obtain ⟨n, hN⟩ : ∃ n, D.length = n := ⟨_, rfl⟩
    obtain ⟨m, hM⟩ : ∃ m, P.length = m := ⟨_, rfl⟩
    obtain ⟨z, hZ⟩ : ∃ z, widthH (holes D) = z := ⟨_, rfl⟩
    obtain ⟨ld, hld⟩ : ∃ l, d.xs.length = l := ⟨_, rfl⟩
    rw [hN, hM] at hc ⊢
    rw [hN] at hpos
    rw [hld] at C1
    simp only [hld] at him
    simp only [hN, hZ] at hw
    simp only [hZ] at hcol
    have HC := Lib.hid hc
    have HW := Lib.hid hw
    have HCOL := Lib.hid hcol
    have HIM := Lib.hid him
    have g1 : (n : Int) > 0 := by omega
    clear hc hw hcol h hP hl e1 e2 e3 ec ea hd hN hM hZ hn hPn hcell c1 hi1 him hm h0 hd0 hdw hld hb
    go_enter Try.func35, Try.ntmps35
    go_wp2_with fail
    refine HC.out.mono ?_
    rintro e w1 ⟨rfl, hb⟩
    have B1 := Lib.hid hb
    clear hb
    go_wp2_with fail
    refine (HW.out _ B1.out).mono ?_
    rintro e w2 ⟨rfl, hb⟩
    have B2 := Lib.hid (below_step B1.out hb)
    have y1 := C1.out w2 B2.out
    clear hb
    go_wp2_with fail
    refine (HCOL.out _).mono ?_
    rintro e w3 ⟨rfl, rfl⟩
    go_wp2_with fail
    refine (HIM.out _ B2.out).mono ?_
    rintro e w3 ⟨rfl, hb⟩
    have B3 := Lib.hid (below_step B2.out hb)
    clear hb
    go_wp2
    go_ret2
    exact ⟨none, 0, [], rfl, rfl, B3.out, DeckAt.nil (Nat.le_refl _)⟩
  · have hd : decksC (holes D) (holes D) P = 0 := by simp [decksC, e1, e2]
    rw [hd] at hc
    simp only [colB_true e3] at hcol
    obtain ⟨k', rfl⟩ : ∃ k' : Nat, k = k' := ⟨k.toNat, by omega⟩
    rw [Int.toNat_natCast] at e4
    obtain ⟨f1, f2, f3, f4, hvt, hPl⟩ := validP_parts e2
    have hD40 : D.length ≤ 40 := by have := deck_len e1; rwa [holes_len] at this
    have hat : ∀ (i : Nat) (d : CardV), D[i]? = some d → d.xs.length = widthH (holes D) := fun i d hd => (deck_width e1 (holesAt hd)).2
    have hatH : ∀ xs ∈ holes D, xs.length = widthH (holes D) := fun xs hx => by
      obtain ⟨i, hi⟩ := List.mem_iff_getElem?.1 hx
      exact (deck_width e1 hi).2
    have hlg : ∀ (i : Nat) (d : CardV), D[i]? = some d → ∀ x ∈ d.xs, 0 ≤ x ∧ x ≤ 4095 := fun i d hd => legal_each (deck_width e1 (holesAt hd)).1
    have him : ∀ d, D[0]? = some d → ∀ W, Below w.heap.size w W → Calls Try.prog 68 #[.agg #[.slice d.at_ d.xs.length d.cap], .int .i64 k'] W fun e w' => e = .returned (.bool true) ∧ Below W.heap.size W w' := fun d hd0 W hW => by
      obtain ⟨hi, _⟩ := List.getElem?_eq_some_iff.1 hd0
      obtain ⟨_, _, _, _, hcell⟩ := h.below (hW.mono hB) hi
      have := isMaster_any d.at_ d.cap d.xs B k' W (hcell 0 d hd0).2 (Nat.le_trans hB hW.size) (by rw [hat 0 d hd0]; omega)
      rwa [e4 d.xs (holesAt hd0)] at this
    have hms := fun W (hW : Below w.heap.size w W) => masters_any A c D B k' (widthH (holes D)) W (h.below (hW.mono hB)) (Nat.le_trans hB hW.size) hD40 rfl (by omega) (by omega) hat (by omega) e4
    have hbs := fun W (R : List CardV) (g : Nat) (hW : Below w.heap.size w W) (hR : R.length = D.length) (hDR : Deck W W.heap.size (some ⟨g, 0, none⟩) R) => beside_any A (some ⟨g, 0, none⟩) c D.length D.length D.length D.length D R B W.heap.size W (h.below (hW.mono hB)) hDR (Nat.le_trans hB hW.size) (Nat.le_refl _) rfl hR (Nat.le_refl _) (Nat.le_refl _) (Or.inl rfl) hD40 hD40
    have hrp := fun W (R : List CardV) (gp g : Nat) (hW : Below w.heap.size w W) (hR : R.length = D.length) (hx : ∀ (t : Nat) (r : CardV), R[t]? = some r → r.xs = readM (holes D) k' (widthH (holes D)) t) (hDR : Deck W W.heap.size (some ⟨g, 0, none⟩) R) (hpr : PairRow W gp (R.take D.length) D D.length) => runPunched_any gp D.length (R.take D.length) D AP cP P BP (interL (holes D) k' P) W hpr (by rw [List.length_take]; omega) (Nat.le_refl _) (hP.below (hW.mono hBP)) (Nat.le_trans hBP hW.size) hD40 hPl (fun t r d hr hd => by
      rw [← hR, List.take_length] at hr
      obtain ⟨ht, _⟩ := List.getElem?_eq_some_iff.1 hd
      obtain ⟨_, _, _, _, hcell⟩ := h.below (hW.mono hB) (by omega)
      obtain ⟨_, _, _, _, hcell2⟩ := hDR (by omega)
      have hrl := readM_length (t := t) hatH e4 (by rw [holes_len]; exact ht)
      have hrx := hx t r hr
      rw [← hrx] at hrl
      refine ⟨(hcell2 t r hr).2, (hcell t d hd).2.more (Nat.le_trans hB hW.size), ?_, by omega, by rw [hat t d hd]; omega, by rw [hat t d hd]; omega, ?_⟩
      · rw [hrl, hat t d hd]; exact hvt
      · rw [interL_at (by rw [holes_len]; exact ht), interAt, hrx, readM, holesAt hd, Option.getD_some]
        split
        · rw [xfer_zeros (widthH (holes D)) P (-1) d.xs (by rw [hat t d hd]; exact hvt) (hlg t d hd)]
        · rfl) (by rw [interL_length, holes_len])
    have hIL : (interL (holes D) k' P).length = D.length := by rw [interL_length, holes_len]
    rw [ec, ea]
    rw [Int.toNat_natCast]
    obtain ⟨X, hX⟩ : ∃ X, interL (holes D) k' P = X := ⟨_, rfl⟩
    simp only [hX] at hrp
    rw [hX] at hIL ⊢
    obtain ⟨n, hN⟩ : ∃ n, D.length = n := ⟨_, rfl⟩
    obtain ⟨m, hM⟩ : ∃ m, P.length = m := ⟨_, rfl⟩
    obtain ⟨z, hZ⟩ : ∃ z, widthH (holes D) = z := ⟨_, rfl⟩
    rw [hN, hM] at hc ⊢
    rw [hN] at hIL
    simp only [hN, hZ] at hw hms
    simp only [hN] at hbs
    simp only [hN, hM, hZ] at hrp
    simp only [hZ] at hcol
    have HC := Lib.hid hc
    have HW := Lib.hid hw
    have HCOL := Lib.hid hcol
    have HIM := Lib.hid him
    have HMS := Lib.hid hms
    have HBS := Lib.hid hbs
    have HRP := Lib.hid hrp
    have HIL := Lib.hid hIL
    have H := Lib.hid h
    have HN := Lib.hid hN
    clear hc hw hcol h hP hl e1 e2 e3 e4 ec ea hd hN hM hZ hn hPn him hms hbs hrp hIL hX hat hatH hlg hvt hPl hD40 f1 f2 f3 f4
    go_enter Try.func35, Try.ntmps35
    go_wp2_with fail
    refine HC.out.mono ?_
    rintro e w1 ⟨rfl, hb⟩
    have B1 := Lib.hid hb
    clear hb
    go_wp2_with fail
    refine (HW.out _ B1.out).mono ?_
    rintro e w2 ⟨rfl, hb⟩
    have B2 := Lib.hid (below_step B1.out hb)
    clear hb
    go_wp2_with fail
    refine (HCOL.out _).mono ?_
    rintro e w3 ⟨rfl, rfl⟩
    by_cases hpos : 0 < n
    · obtain ⟨d, hd0⟩ : ∃ d, D[0]? = some d := ⟨D[0]'(by rw [HN.out]; exact hpos), List.getElem?_eq_getElem _⟩
      obtain ⟨b, off, rfl, _, hcell⟩ := (H.out.below (B2.out.mono hB)) (by rw [HN.out]; exact hpos)
      have c1 := (hcell 0 d hd0).1
      unfold CardV.value at c1
      rw [Nat.add_zero] at c1
      have him := HIM.out d hd0 w2 B2.out
      obtain ⟨ld, hld⟩ : ∃ l, d.xs.length = l := ⟨_, rfl⟩
      rw [hld] at him c1
      have HIMM := Lib.hid him
      have g1 : (n : Int) > 0 := by omega
      clear hcell hd0 him hld
      go_wp2_with fail
      refine HIMM.out.mono ?_
      rintro e w3 ⟨rfl, hb⟩
      have B3 := Lib.hid (below_step B2.out hb)
      clear hb
      go_wp2_with fail
      refine (HMS.out _ B3.out).mono ?_
      rintro e w4 ⟨g, R, rfl, hb, hRl, hDR, hx⟩
      have B4 := Lib.hid (below_step B3.out hb)
      have HBS2 := Lib.hid (HBS.out w4 R g B4.out hRl hDR)
      have HRL := Lib.hid hRl
      have HDR := Lib.hid hDR
      have HXX := Lib.hid hx
      clear hb hRl hDR hx
      go_wp2_with fail
      refine HBS2.out.mono ?_
      rintro e w5 ⟨gp, rfl, hgp, hb, hpr⟩
      have B5 := Lib.hid (below_step B4.out hb)
      have HRP2 := Lib.hid (HRP.out w5 R gp g B5.out HRL.out HXX.out (deck_more (HDR.out.below (hb.mono (Nat.le_refl _))) hb.size) hpr)
      clear hb hgp hpr
      go_wp2_with fail
      refine HRP2.out.mono ?_
      rintro e w6 hg
      obtain ⟨g6, E6, rfl, hEl6, hE6, hb6, hda6⟩ := hg.deck
      have B6 := Lib.hid (below_step B5.out hb6)
      have HDA := Lib.hid (hda6.widen B5.out.size (Nat.le_refl _) (Nat.le_refl _))
      have HE6 := Lib.hid hE6
      clear hg hb6 hda6 hEl6 hE6
      go_wp2
      go_ret2
      exact ⟨some ⟨g6, 0, none⟩, _, E6, by rw [HIL.out]; rfl, HE6.out, B6.out, HDA.out⟩
    · obtain rfl : n = 0 := by omega
      have B3 := B2
      go_wp2_with fail
      refine (HMS.out _ B3.out).mono ?_
      rintro e w4 ⟨g, R, rfl, hb, hRl, hDR, hx⟩
      have B4 := Lib.hid (below_step B3.out hb)
      have HBS2 := Lib.hid (HBS.out w4 R g B4.out hRl hDR)
      have HRL := Lib.hid hRl
      have HDR := Lib.hid hDR
      have HXX := Lib.hid hx
      clear hb hRl hDR hx
      go_wp2_with fail
      refine HBS2.out.mono ?_
      rintro e w5 ⟨gp, rfl, hgp, hb, hpr⟩
      have B5 := Lib.hid (below_step B4.out hb)
      have HRP2 := Lib.hid (HRP.out w5 R gp g B5.out HRL.out HXX.out (deck_more (HDR.out.below (hb.mono (Nat.le_refl _))) hb.size) hpr)
      clear hb hgp hpr
      go_wp2_with fail
      refine HRP2.out.mono ?_
      rintro e w6 hg
      obtain ⟨g6, E6, rfl, hEl6, hE6, hb6, hda6⟩ := hg.deck
      have B6 := Lib.hid (below_step B5.out hb6)
      have HDA := Lib.hid (hda6.widen B5.out.size (Nat.le_refl _) (Nat.le_refl _))
      have HE6 := Lib.hid hE6
      clear hg hb6 hda6 hEl6 hE6
      go_wp2
      go_ret2
      exact ⟨some ⟨g6, 0, none⟩, _, E6, by rw [HIL.out]; rfl, HE6.out, B6.out, HDA.out⟩
end
end Go.Proofs.Ytamookdlbmbncaa
