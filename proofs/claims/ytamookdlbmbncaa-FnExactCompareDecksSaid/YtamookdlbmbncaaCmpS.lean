/- spec.CompareDecks answers the first card in which two decks differ: a contract. -/
import Derived.Test.YtamookdlbmbncaaCmpD
namespace Go.Proofs.Ytamookdlbmbncaa
open Go.ChangeShapes Go.WideShapes Go.ChangeAt Go.RowKit

theorem l00Min_any (a b : Int) (w : World) : Calls Try.prog 72 #[.int .i64 a, .int .i64 b] w fun e w' => e = .returned (.int .i64 (min a b)) ∧ w = w' := by
  by_cases h : a < b
  · rw [show min a b = a by omega]
    go_enter Try.func72, Try.ntmps72
    go_wp2
    go_ret
    exact ⟨rfl, rfl⟩
  · rw [show min a b = b by omega]
    go_enter Try.func72, Try.ntmps72
    go_wp2
    go_ret
    exact ⟨rfl, rfl⟩

section
variable (A : Option Addr) (c : Nat) (D : List CardV) (B : Nat) (A' : Option Addr) (c' : Nat) (E : List CardV) (B' : Nat) (AP : Option Addr) (cP : Nat) (P : List (Int × Int)) (BP : Nat) (w : World) (h : Deck w B A D) (h' : Deck w B' A' E) (hP : Copies w BP AP P) (hB : B ≤ w.heap.size) (hB' : B' ≤ w.heap.size) (hBP : BP ≤ w.heap.size) (hn : D.length ≤ 1048576) (hn' : E.length ≤ 1048576) (hPn : P.length ≤ 1048576) (hl : ∀ d ∈ D, d.xs.length ≤ 1048576) (hl' : ∀ d ∈ E, d.xs.length ≤ 1048576)
include h h' hP hB hB' hBP hn hn' hPn hl hl'

set_option maxRecDepth 100000 in
set_option maxHeartbeats 4000000 in
theorem specCompareDecks_any : Calls Try.prog 41 #[.slice A D.length c, .slice A' E.length c', .slice AP P.length cP] w fun e w' => e = .returned (.tuple #[.int .i64 (decksV (holes D) (holes E) P), .int .i64 (decksC (holes D) (holes E) P)]) ∧ Below w.heap.size w w' := by
  have hd := fun W (hW : Below w.heap.size w W) => l02Deck_any A c D B W (h.below (hW.mono hB)) (Nat.le_trans hB hW.size) hn hl
  have hd' := fun W (hW : Below w.heap.size w W) => l02Deck_any A' c' E B' W (h'.below (hW.mono hB')) (Nat.le_trans hB' hW.size) hn' hl'
  have hw := fun W (hW : Below w.heap.size w W) => l07WidthOf_any A c D B W (h.below (hW.mono hB)) hn hl
  have hw' := fun W (hW : Below w.heap.size w W) => l07WidthOf_any A' c' E B' W (h'.below (hW.mono hB')) hn' hl'
  have hv := fun W (hW : Below w.heap.size w W) => specValidCopies_any AP cP P (widthH (holes D)) (widthH (holes E)) BP W (hP.below (hW.mono hBP)) (Nat.le_trans hBP hW.size) hPn
  rcases decksC_cases (holes D) (holes E) P with ⟨e1, ec, ev⟩ | ⟨e1, e2, ec, ev⟩ | ⟨e1, e2, e3, ec, ev⟩ | ⟨e1, e2, e3, ec, ev⟩
  · rw [ec, ev]
    simp only [e1] at hd
    obtain ⟨nd, hND⟩ : ∃ n, D.length = n := ⟨_, rfl⟩
    obtain ⟨ne, hNE⟩ : ∃ n, E.length = n := ⟨_, rfl⟩
    obtain ⟨m, hM⟩ : ∃ m, P.length = m := ⟨_, rfl⟩
    obtain ⟨wd, hWD⟩ : ∃ wd, widthH (holes D) = wd := ⟨_, rfl⟩
    obtain ⟨we, hWE⟩ : ∃ we, widthH (holes E) = we := ⟨_, rfl⟩
    simp only [hND] at hd hw
    simp only [hNE] at hd' hw'
    simp only [hM] at hv
    simp only [hWD] at hw hv
    simp only [hWE] at hw' hv
    rw [hND, hNE, hM]
    have HD := Lib.hid hd
    clear hd hd' hw hw' hv h h' hP hl hl' e1 ec ev hND hNE hM hWD hWE hn hn' hPn
    go_enter Try.func41, Try.ntmps41
    go_wp2_with fail
    refine (HD.out _ (Below.refl _ _)).mono ?_
    rintro e w1 ⟨rfl, hb⟩
    have B1 := Lib.hid hb
    clear hb
    go_wp2
    go_ret2
    exact ⟨rfl, B1.out⟩
  · rw [ec, ev]
    simp only [e1] at hd
    simp only [e2] at hd'
    obtain ⟨nd, hND⟩ : ∃ n, D.length = n := ⟨_, rfl⟩
    obtain ⟨ne, hNE⟩ : ∃ n, E.length = n := ⟨_, rfl⟩
    obtain ⟨m, hM⟩ : ∃ m, P.length = m := ⟨_, rfl⟩
    obtain ⟨wd, hWD⟩ : ∃ wd, widthH (holes D) = wd := ⟨_, rfl⟩
    obtain ⟨we, hWE⟩ : ∃ we, widthH (holes E) = we := ⟨_, rfl⟩
    simp only [hND] at hd hw
    simp only [hNE] at hd' hw'
    simp only [hM] at hv
    simp only [hWD] at hw hv
    simp only [hWE] at hw' hv
    rw [hND, hNE, hM]
    have HD := Lib.hid hd
    have HD' := Lib.hid hd'
    clear hd hd' hw hw' hv h h' hP hl hl' e1 ec ev hND hNE hM hWD hWE hn hn' hPn e2
    go_enter Try.func41, Try.ntmps41
    go_wp2_with fail
    refine (HD.out _ (Below.refl _ _)).mono ?_
    rintro e w1 ⟨rfl, hb⟩
    have B1 := Lib.hid hb
    clear hb
    go_wp2_with fail
    refine (HD'.out _ B1.out).mono ?_
    rintro e w2 ⟨rfl, hb⟩
    have B2 := Lib.hid (below_step B1.out hb)
    clear hb
    go_wp2
    go_ret2
    exact ⟨rfl, B2.out⟩
  · rw [ec, ev]
    simp only [e1] at hd
    simp only [e2] at hd'
    simp only [e3] at hv
    obtain ⟨nd, hND⟩ : ∃ n, D.length = n := ⟨_, rfl⟩
    obtain ⟨ne, hNE⟩ : ∃ n, E.length = n := ⟨_, rfl⟩
    obtain ⟨m, hM⟩ : ∃ m, P.length = m := ⟨_, rfl⟩
    obtain ⟨wd, hWD⟩ : ∃ wd, widthH (holes D) = wd := ⟨_, rfl⟩
    obtain ⟨we, hWE⟩ : ∃ we, widthH (holes E) = we := ⟨_, rfl⟩
    simp only [hND] at hd hw
    simp only [hNE] at hd' hw'
    simp only [hM] at hv
    simp only [hWD] at hw hv
    simp only [hWE] at hw' hv
    rw [hND, hNE, hM]
    have HD := Lib.hid hd
    have HD' := Lib.hid hd'
    have HW := Lib.hid hw
    have HW' := Lib.hid hw'
    have HV := Lib.hid hv
    clear hd hd' hw hw' hv h h' hP hl hl' e1 ec ev hND hNE hM hWD hWE hn hn' hPn e2 e3
    go_enter Try.func41, Try.ntmps41
    go_wp2_with fail
    refine (HD.out _ (Below.refl _ _)).mono ?_
    rintro e w1 ⟨rfl, hb⟩
    have B1 := Lib.hid hb
    clear hb
    go_wp2_with fail
    refine (HD'.out _ B1.out).mono ?_
    rintro e w2 ⟨rfl, hb⟩
    have B2 := Lib.hid (below_step B1.out hb)
    clear hb
    go_wp2_with fail
    refine (HW.out _ B2.out).mono ?_
    rintro e w3 ⟨rfl, hb⟩
    have B3 := Lib.hid (below_step B2.out hb)
    clear hb
    go_wp2_with fail
    refine (HW'.out _ B3.out).mono ?_
    rintro e w4 ⟨rfl, hb⟩
    have B4 := Lib.hid (below_step B3.out hb)
    clear hb
    go_wp2_with fail
    refine (HV.out _ B4.out).mono ?_
    rintro e w5 ⟨rfl, hb⟩
    have B5 := Lib.hid (below_step B4.out hb)
    clear hb
    go_wp2
    go_ret2
    exact ⟨rfl, B5.out⟩
  · obtain ⟨f1, f2, f3, f4, hvt, hPl⟩ := validP_parts e3
    have hD40 : D.length ≤ 40 := by have := deck_len e1; rwa [holes_len] at this
    have hE40 : E.length ≤ 40 := by have := deck_len e2; rwa [holes_len] at this
    have hat : ∀ (k : Nat) (d : CardV), D[k]? = some d → d.xs.length = widthH (holes D) := fun k d hd => (deck_width e1 (holesAt hd)).2
    have hat' : ∀ (k : Nat) (d : CardV), E[k]? = some d → d.xs.length = widthH (holes E) := fun k d hd => (deck_width e2 (holesAt hd)).2
    rw [ec, ev]
    simp only [e1] at hd
    simp only [e2] at hd'
    simp only [e3] at hv
    obtain ⟨n, hn0⟩ : ∃ n, min D.length E.length = n := ⟨_, rfl⟩
    have hHm : min (holes D).length (holes E).length = n := by rw [holes_len, holes_len]; exact hn0
    have hdf : ∀ (k : Nat) (d e : CardV), D[k]? = some d → E[k]? = some e → ∀ (pc oc po oo : Nat) (W : World), Below w.heap.size w W → W.cell? ⟨pc, oc, none⟩ = some (.slice d.at_ d.xs.length d.cap) → W.cell? ⟨po, oo, none⟩ = some (.slice e.at_ e.xs.length e.cap) → Calls Try.prog 70 #[.pointer (some ⟨pc, oc, none⟩), .pointer (some ⟨po, oo, none⟩), .slice AP P.length cP] W (GivesL (difL d.xs e.xs P) W) := fun k d e hd he pc oc po oo W hW g1 g2 => by
      obtain ⟨hk, _⟩ := List.getElem?_eq_some_iff.1 hd
      obtain ⟨hk', _⟩ := List.getElem?_eq_some_iff.1 he
      obtain ⟨_, _, _, _, hcell⟩ := h.below (hW.mono hB) (by omega)
      obtain ⟨_, _, _, _, hcell'⟩ := h'.below (hW.mono hB') (by omega)
      exact l10Differ_any pc oc po oo d.at_ e.at_ d.cap e.cap d.xs e.xs B B' AP cP P BP W g1 g2 (hcell k d hd).2 (hcell' k e he).2 (hP.below (hW.mono hBP)) (Nat.le_trans hB hW.size) (Nat.le_trans hB' hW.size) (Nat.le_trans hBP hW.size) (-1) (by rw [hat k d hd, hat' k e he]; exact hvt) hPl
    have hpq := fun (k : Nat) (d e : CardV) (hd : D[k]? = some d) (he : E[k]? = some e) => pairQ_at (P := P) hd he
    have hhit := fun t => decksR_hit (G := holes D) (H := holes E) (P := P) (t := t)
    have hnone := decksR_none (G := holes D) (H := holes E) (P := P)
    rw [hHm] at hnone
    simp only [hHm] at hhit
    rw [holes_len, holes_len] at hnone
    obtain ⟨R, hR⟩ : ∃ R, decksR (holes D) (holes E) P = R := ⟨_, rfl⟩
    obtain ⟨q, hq⟩ : ∃ q, pairQ (holes D) (holes E) P = q := ⟨_, rfl⟩
    rw [hR, hq] at hnone
    simp only [hR, hq] at hhit
    simp only [hq] at hpq
    rw [hR]
    obtain ⟨nd, hND⟩ : ∃ n, D.length = n := ⟨_, rfl⟩
    obtain ⟨ne, hNE⟩ : ∃ n, E.length = n := ⟨_, rfl⟩
    obtain ⟨m, hM⟩ : ∃ m, P.length = m := ⟨_, rfl⟩
    obtain ⟨wd, hWD⟩ : ∃ wd, widthH (holes D) = wd := ⟨_, rfl⟩
    obtain ⟨we, hWE⟩ : ∃ we, widthH (holes E) = we := ⟨_, rfl⟩
    simp only [hND] at hd hw
    simp only [hNE] at hd' hw'
    simp only [hM] at hv
    simp only [hWD] at hw hv
    simp only [hWE] at hw' hv
    simp only [hM] at hdf
    rw [hND, hNE] at hn0 hnone
    rw [hND, hNE, hM]
    have HD := Lib.hid hd
    have HD' := Lib.hid hd'
    have HW := Lib.hid hw
    have HW' := Lib.hid hw'
    have HV := Lib.hid hv
    have H := Lib.hid h
    have H' := Lib.hid h'
    have HM := Lib.hid l00Min_any
    have HDF := Lib.hid hdf
    have HPQ := Lib.hid hpq
    have HHIT := Lib.hid hhit
    have HNONE := Lib.hid hnone
    have HND := Lib.hid hND
    have HNE := Lib.hid hNE
    have HN0 := Lib.hid hn0
    have hn40 : n ≤ 40 := by omega
    have HDD := Lib.hid hD40
    have HEE := Lib.hid hE40
    clear hd hd' hw hw' hv hWD hWE h h' hP hl hl' e1 e2 e3 ec ev hvt hPl hat hat' hHm hdf hpq hhit hnone hR hq hND hNE hM hn0 hn hn' hPn hD40 hE40 f1 f2 f3 f4
    go_enter Try.func41, Try.ntmps41
    go_wp2_with fail
    refine (HD.out _ (Below.refl _ _)).mono ?_
    rintro e w1 ⟨rfl, hb⟩
    have B1 := Lib.hid hb
    clear hb
    go_wp2_with fail
    refine (HD'.out _ B1.out).mono ?_
    rintro e w2 ⟨rfl, hb⟩
    have B2 := Lib.hid (below_step B1.out hb)
    clear hb
    go_wp2_with fail
    refine (HW.out _ B2.out).mono ?_
    rintro e w3 ⟨rfl, hb⟩
    have B3 := Lib.hid (below_step B2.out hb)
    clear hb
    go_wp2_with fail
    refine (HW'.out _ B3.out).mono ?_
    rintro e w4 ⟨rfl, hb⟩
    have B4 := Lib.hid (below_step B3.out hb)
    clear hb
    go_wp2_with fail
    refine (HV.out _ B4.out).mono ?_
    rintro e w5 ⟨rfl, hb⟩
    have B5 := Lib.hid (below_step B4.out hb)
    clear hb
    go_wp2
    go_loopw [8] (fun x wr => ∃ t : Nat, t ≤ n ∧ x = .int .i64 t ∧ Hid (Below w5.heap.size w5 wr) ∧ Hid (∀ k, k < t → q k = false)) (fun x _ => n - (intOf x).toNat)
    case atStart => exact ⟨0, Nat.zero_le _, rfl, Below.refl _ _, fun k hk => by omega⟩
    case round =>
      obtain ⟨t, ht, rfl, HB, HK⟩ := hrel
      have t0 : (0 : Int) ≤ (t : Int) := Int.natCast_nonneg _
      by_cases hlt : t < n
      · have h1 := HN0.out
        have h2 := HND.out
        have h3 := HNE.out
        obtain ⟨d, hd⟩ : ∃ d, D[t]? = some d := ⟨D[t]'(by omega), List.getElem?_eq_getElem _⟩
        obtain ⟨e, he⟩ : ∃ e, E[t]? = some e := ⟨E[t]'(by omega), List.getElem?_eq_getElem _⟩
        have BD := below_step B5.out HB.out
        obtain ⟨b1, o1, rfl, _, hc1⟩ := (H.out.below (BD.mono hB)) (by omega)
        obtain ⟨b2, o2, rfl, _, hc2⟩ := (H'.out.below (BD.mono hB')) (by omega)
        have c1 := (hc1 t d hd).1
        have c2 := (hc2 t e he).1
        unfold CardV.value at c1 c2
        have hdf := HDF.out t d e hd he b1 (o1 + t) b2 (o2 + t) wr.drew BD.drew c1 c2
        have hpq := HPQ.out t d e hd he
        have hdl : (difL d.xs e.xs P).length ≤ P.length := wherePl_len _ _
        obtain ⟨L, hL⟩ : ∃ L, difL d.xs e.xs P = L := ⟨_, rfl⟩
        rw [hL] at hdf hpq
        obtain ⟨ll, hll⟩ : ∃ ll, L.length = ll := ⟨_, rfl⟩
        unfold GivesL at hdf
        rw [hll] at hdf hpq
        have HDFF := Lib.hid hdf
        have HPQQ := Lib.hid hpq
        have t1 : (t : Int) < (nd : Int) := by omega
        have t2 : (t : Int) < (ne : Int) := by omega
        have t3 : t < nd := by omega
        have t4 : t < ne := by omega
        clear h1 h2 h3 hd he hdf hpq hdl hL hll hc1 hc2 c1 c2 BD
        by_cases hz : 0 < ll
        · have hqt : q t = true := by rw [HPQQ.out]; simp [hz]
          have hres := HHIT.out t hlt HK.out hqt
          have HRES := Lib.hid hres
          have g1 : (ll : Int) > 0 := by omega
          clear hres hqt
          go_wp2
          go_region_with (go_at_call 70; refine HDFF.out.mono ?_; rintro e9 w9 ⟨A9, c9, rfl, hb3, _⟩; have HB3 := Lib.hid (below_step (Below.drew HB.out) hb3); clear hb3)
          all_goals
            have BB := Lib.hid (below_step B5.out HB3.out)
            go_wp2
            go_ret2
            exact ⟨by rw [HRES.out]; rfl, BB.out⟩
        · have hqt : q t = false := by rw [HPQQ.out]; simp [hz]
          have g1 : ¬ (ll : Int) > 0 := by omega
          have HK1 : Hid (∀ k, k < t + 1 → q k = false) := fun k hk => by
            by_cases hkt : k < t
            · exact HK.out k hkt
            · obtain rfl : k = t := by omega
              exact hqt
          clear hqt
          go_wp2
          go_region_with (go_at_call 70; refine HDFF.out.mono ?_; rintro e9 w9 ⟨A9, c9, rfl, hb3, _⟩; have HB3 := Lib.hid (below_step (Below.drew HB.out) hb3); clear hb3)
          all_goals
            go_wp2
            go_roundw
            case rel => exact ⟨t + 1, by omega, by go_num, HB3, HK1⟩
            case measure => simp [intOf]; omega
      · have htn : t = n := by omega
        have hk := HK.out
        rw [htn] at hk
        have hres := HNONE.out hk
        have BB := Lib.hid (below_step B5.out HB.out)
        have hmn := HN0.out
        clear hk
        by_cases heq : nd = ne
        · rw [if_pos heq] at hres
          have HRES := Lib.hid hres
          have g1 : ((nd : Int) != (ne : Int)) = false := by simp [heq]
          have t1 : ¬ (t : Int) < (nd : Int) := by omega
          clear hres heq hmn htn
          go_wp2
          go_ret2
          exact ⟨by rw [HRES.out]; rfl, BB.out⟩
        · rw [if_neg heq] at hres
          have hmi : (min (nd : Int) (ne : Int)) = (n : Int) := by omega
          have hm := fun W => HM.out (nd : Int) (ne : Int) W
          simp only [hmi] at hm
          have HMM := Lib.hid hm
          have HRES := Lib.hid hres
          have g1 : ((nd : Int) != (ne : Int)) = true := by simp; omega
          clear hres hm hmi
          by_cases hc : nd ≤ t
          · have t1 : ¬ (t : Int) < (nd : Int) := by omega
            clear heq hmn htn hc
            go_wp2_with (go_at_call 72; refine (HMM.out _).mono ?_; rintro e w' ⟨rfl, rfl⟩)
            go_ret2
            exact ⟨by rw [HRES.out]; first | rfl | (rw [HN0.out]; rfl), BB.out⟩
          · have t1 : (t : Int) < (nd : Int) := by omega
            have t2 : ¬ (t : Int) < (ne : Int) := by omega
            clear heq hmn htn hc
            go_wp2_with (go_at_call 72; refine (HMM.out _).mono ?_; rintro e w' ⟨rfl, rfl⟩)
            go_ret2
            exact ⟨by rw [HRES.out]; first | rfl | (rw [HN0.out]; rfl), BB.out⟩
end
end Go.Proofs.Ytamookdlbmbncaa
