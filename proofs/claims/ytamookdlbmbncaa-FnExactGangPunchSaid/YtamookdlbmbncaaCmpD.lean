/- impl.checkCopies; impl.CompareDecks and spec.CompareDecks answer the first card in which two decks differ: contracts. -/
import Derived.Test.YtamookdlbmbncaaDiffer
import Derived.Test.YtamookdlbmbncaaReprD
namespace Go.Proofs.Ytamookdlbmbncaa
open Go.ChangeShapes Go.WideShapes Go.ChangeAt Go.RowKit

/-- the first card in which two decks differ -/
def decksR (G H : List (List Int)) (P : List (Int × Int)) : Int :=
  match (List.range (min G.length H.length)).find? (pairQ G H P) with
  | some k => k
  | none => if G.length = H.length then -1 else ((min G.length H.length : Nat) : Int)
def decksV (G H : List (List Int)) (P : List (Int × Int)) : Int := if decksC G H P = 0 then decksR G H P else 0
theorem decksR_hit {G H : List (List Int)} {P : List (Int × Int)} {t : Nat} (h1 : t < min G.length H.length) (h2 : ∀ k, k < t → pairQ G H P k = false) (h3 : pairQ G H P t = true) : decksR G H P = t := by
  have : (List.range (min G.length H.length)).find? (pairQ G H P) = some t := by
    rw [List.find?_range_eq_some]
    exact ⟨h3, List.mem_range.2 h1, fun j hj => by rw [h2 j hj]; rfl⟩
  rw [decksR, this]
theorem decksR_none {G H : List (List Int)} {P : List (Int × Int)} (h2 : ∀ k, k < min G.length H.length → pairQ G H P k = false) : decksR G H P = if G.length = H.length then -1 else ((min G.length H.length : Nat) : Int) := by
  have : (List.range (min G.length H.length)).find? (pairQ G H P) = none := by
    rw [List.find?_range_eq_none]
    exact fun i hi => by rw [h2 i hi]; rfl
  rw [decksR, this]
theorem decksC_cases (G H : List (List Int)) (P : List (Int × Int)) : (deckB G = false ∧ decksC G H P = 1 ∧ decksV G H P = 0) ∨ (deckB G = true ∧ deckB H = false ∧ decksC G H P = 1 ∧ decksV G H P = 0) ∨ (deckB G = true ∧ deckB H = true ∧ validP P (widthH G) (widthH H) = false ∧ decksC G H P = 2 ∧ decksV G H P = 0) ∨ (deckB G = true ∧ deckB H = true ∧ validP P (widthH G) (widthH H) = true ∧ decksC G H P = 0 ∧ decksV G H P = decksR G H P) := by
  unfold decksV decksC
  cases deckB G <;> cases deckB H <;> cases validP P (widthH G) (widthH H) <;> simp
theorem pairQ_at {D E : List CardV} {P : List (Int × Int)} {k : Nat} {d e : CardV} (hd : D[k]? = some d) (he : E[k]? = some e) : pairQ (holes D) (holes E) P k = decide (0 < (difL d.xs e.xs P).length) := by
  unfold pairQ
  rw [holesAt hd, holesAt he]
  rfl

section
variable (A : Option Addr) (c : Nat) (D : List CardV) (B : Nat) (A' : Option Addr) (c' : Nat) (E : List CardV) (B' : Nat) (AP : Option Addr) (cP : Nat) (P : List (Int × Int)) (BP : Nat) (w : World) (h : Deck w B A D) (h' : Deck w B' A' E) (hP : Copies w BP AP P) (hB : B ≤ w.heap.size) (hB' : B' ≤ w.heap.size) (hBP : BP ≤ w.heap.size) (hn : D.length ≤ 1048576) (hn' : E.length ≤ 1048576) (hPn : P.length ≤ 1048576) (hl : ∀ d ∈ D, d.xs.length ≤ 1048576) (hl' : ∀ d ∈ E, d.xs.length ≤ 1048576)
include h h' hP hB hB' hBP hn hn' hPn hl hl'

set_option maxHeartbeats 1000000 in
theorem checkCopies_any : Calls Try.prog 66 #[.slice A D.length c, .slice A' E.length c', .slice AP P.length cP] w fun e w' => e = .returned (.int .i64 (decksC (holes D) (holes E) P)) ∧ Below w.heap.size w w' := by
  have hd := fun W (hW : Below w.heap.size w W) => implValidDeck_any A c D B W (h.below (hW.mono hB)) (Nat.le_trans hB hW.size) hn hl
  have hd' := fun W (hW : Below w.heap.size w W) => implValidDeck_any A' c' E B' W (h'.below (hW.mono hB')) (Nat.le_trans hB' hW.size) hn' hl'
  have hw := fun W (hW : Below w.heap.size w W) => widthOf_any A c D B W (h.below (hW.mono hB)) hn hl
  have hw' := fun W (hW : Below w.heap.size w W) => widthOf_any A' c' E B' W (h'.below (hW.mono hB')) hn' hl'
  have hv := fun W (hW : Below w.heap.size w W) => implValidCopies_any AP cP P (widthH (holes D)) (widthH (holes E)) BP W (hP.below (hW.mono hBP)) (Nat.le_trans hBP hW.size) hPn
  rcases decksC_cases (holes D) (holes E) P with ⟨e1, ec, _⟩ | ⟨e1, e2, ec, _⟩ | ⟨e1, e2, e3, ec, _⟩ | ⟨e1, e2, e3, ec, _⟩
  · rw [ec]
    simp only [e1] at hd
    obtain ⟨nd, hND⟩ : ∃ n, D.length = n := ⟨_, rfl⟩
    obtain ⟨ne, hNE⟩ : ∃ n, E.length = n := ⟨_, rfl⟩
    obtain ⟨m, hM⟩ : ∃ m, P.length = m := ⟨_, rfl⟩
    obtain ⟨wd, hWD⟩ : ∃ wd, widthH (holes D) = wd := ⟨_, rfl⟩
    obtain ⟨we, hWE⟩ : ∃ we, widthH (holes E) = we := ⟨_, rfl⟩
    simp only [hND] at hd hw
    simp only [hNE] at hd' hw'
    simp only [hM] at hv
    simp only [hWD] at hw hv
    simp only [hWE] at hw' hv
    rw [hND, hNE, hM]
    have HD := Lib.hid hd
    clear hd hd' hw hw' hv h h' hP hl hl' e1 ec hND hNE hM hWD hWE hn hn' hPn
    go_enter Try.func66, Try.ntmps66
    go_wp2_with fail
    refine (HD.out _ (Below.refl _ _)).mono ?_
    rintro e w1 ⟨rfl, hb⟩
    have B1 := Lib.hid hb
    clear hb
    go_wp2
    go_ret
    exact ⟨rfl, B1.out⟩
  · rw [ec]
    simp only [e1] at hd
    simp only [e2] at hd'
    obtain ⟨nd, hND⟩ : ∃ n, D.length = n := ⟨_, rfl⟩
    obtain ⟨ne, hNE⟩ : ∃ n, E.length = n := ⟨_, rfl⟩
    obtain ⟨m, hM⟩ : ∃ m, P.length = m := ⟨_, rfl⟩
    obtain ⟨wd, hWD⟩ : ∃ wd, widthH (holes D) = wd := ⟨_, rfl⟩
    obtain ⟨we, hWE⟩ : ∃ we, widthH (holes E) = we := ⟨_, rfl⟩
    simp only [hND] at hd hw
    simp only [hNE] at hd' hw'
    simp only [hM] at hv
    simp only [hWD] at hw hv
    simp only [hWE] at hw' hv
    rw [hND, hNE, hM]
    have HD := Lib.hid hd
    have HD' := Lib.hid hd'
    clear hd hd' hw hw' hv h h' hP hl hl' e1 ec hND hNE hM hWD hWE hn hn' hPn e2
    go_enter Try.func66, Try.ntmps66
    go_wp2_with fail
    refine (HD.out _ (Below.refl _ _)).mono ?_
    rintro e w1 ⟨rfl, hb⟩
    have B1 := Lib.hid hb
    clear hb
    go_wp2_with fail
    refine (HD'.out _ B1.out).mono ?_
    rintro e w2 ⟨rfl, hb⟩
    have B2 := Lib.hid (below_step B1.out hb)
    clear hb
    go_wp2
    go_ret
    exact ⟨rfl, B2.out⟩
  · rw [ec]
    simp only [e1] at hd
    simp only [e2] at hd'
    simp only [e3] at hv
    obtain ⟨nd, hND⟩ : ∃ n, D.length = n := ⟨_, rfl⟩
    obtain ⟨ne, hNE⟩ : ∃ n, E.length = n := ⟨_, rfl⟩
    obtain ⟨m, hM⟩ : ∃ m, P.length = m := ⟨_, rfl⟩
    obtain ⟨wd, hWD⟩ : ∃ wd, widthH (holes D) = wd := ⟨_, rfl⟩
    obtain ⟨we, hWE⟩ : ∃ we, widthH (holes E) = we := ⟨_, rfl⟩
    simp only [hND] at hd hw
    simp only [hNE] at hd' hw'
    simp only [hM] at hv
    simp only [hWD] at hw hv
    simp only [hWE] at hw' hv
    rw [hND, hNE, hM]
    have HD := Lib.hid hd
    have HD' := Lib.hid hd'
    have HW := Lib.hid hw
    have HW' := Lib.hid hw'
    have HV := Lib.hid hv
    clear hd hd' hw hw' hv h h' hP hl hl' e1 ec hND hNE hM hWD hWE hn hn' hPn e2 e3
    go_enter Try.func66, Try.ntmps66
    go_wp2_with fail
    refine (HD.out _ (Below.refl _ _)).mono ?_
    rintro e w1 ⟨rfl, hb⟩
    have B1 := Lib.hid hb
    clear hb
    go_wp2_with fail
    refine (HD'.out _ B1.out).mono ?_
    rintro e w2 ⟨rfl, hb⟩
    have B2 := Lib.hid (below_step B1.out hb)
    clear hb
    go_wp2_with fail
    refine (HW.out _ B2.out).mono ?_
    rintro e w3 ⟨rfl, hb⟩
    have B3 := Lib.hid (below_step B2.out hb)
    clear hb
    go_wp2_with fail
    refine (HW'.out _ B3.out).mono ?_
    rintro e w4 ⟨rfl, hb⟩
    have B4 := Lib.hid (below_step B3.out hb)
    clear hb
    go_wp2_with fail
    refine (HV.out _ B4.out).mono ?_
    rintro e w5 ⟨rfl, hb⟩
    have B5 := Lib.hid (below_step B4.out hb)
    clear hb
    go_wp2
    go_ret
    exact ⟨rfl, B5.out⟩
  · rw [ec]
    simp only [e1] at hd
    simp only [e2] at hd'
    simp only [e3] at hv
    obtain ⟨nd, hND⟩ : ∃ n, D.length = n := ⟨_, rfl⟩
    obtain ⟨ne, hNE⟩ : ∃ n, E.length = n := ⟨_, rfl⟩
    obtain ⟨m, hM⟩ : ∃ m, P.length = m := ⟨_, rfl⟩
    obtain ⟨wd, hWD⟩ : ∃ wd, widthH (holes D) = wd := ⟨_, rfl⟩
    obtain ⟨we, hWE⟩ : ∃ we, widthH (holes E) = we := ⟨_, rfl⟩
    simp only [hND] at hd hw
    simp only [hNE] at hd' hw'
    simp only [hM] at hv
    simp only [hWD] at hw hv
    simp only [hWE] at hw' hv
    rw [hND, hNE, hM]
    have HD := Lib.hid hd
    have HD' := Lib.hid hd'
    have HW := Lib.hid hw
    have HW' := Lib.hid hw'
    have HV := Lib.hid hv
    clear hd hd' hw hw' hv h h' hP hl hl' e1 ec hND hNE hM hWD hWE hn hn' hPn e2 e3
    go_enter Try.func66, Try.ntmps66
    go_wp2_with fail
    refine (HD.out _ (Below.refl _ _)).mono ?_
    rintro e w1 ⟨rfl, hb⟩
    have B1 := Lib.hid hb
    clear hb
    go_wp2_with fail
    refine (HD'.out _ B1.out).mono ?_
    rintro e w2 ⟨rfl, hb⟩
    have B2 := Lib.hid (below_step B1.out hb)
    clear hb
    go_wp2_with fail
    refine (HW.out _ B2.out).mono ?_
    rintro e w3 ⟨rfl, hb⟩
    have B3 := Lib.hid (below_step B2.out hb)
    clear hb
    go_wp2_with fail
    refine (HW'.out _ B3.out).mono ?_
    rintro e w4 ⟨rfl, hb⟩
    have B4 := Lib.hid (below_step B3.out hb)
    clear hb
    go_wp2_with fail
    refine (HV.out _ B4.out).mono ?_
    rintro e w5 ⟨rfl, hb⟩
    have B5 := Lib.hid (below_step B4.out hb)
    clear hb
    go_wp2
    go_ret
    exact ⟨rfl, B5.out⟩

set_option maxRecDepth 100000 in
set_option maxHeartbeats 4000000 in
theorem implCompareDecks_any : Calls Try.prog 42 #[.slice A D.length c, .slice A' E.length c', .slice AP P.length cP] w fun e w' => e = .returned (.tuple #[.int .i64 (decksV (holes D) (holes E) P), .int .i64 (decksC (holes D) (holes E) P)]) ∧ Below w.heap.size w w' := by
  have hc := checkCopies_any A c D B A' c' E B' AP cP P BP w h h' hP hB hB' hBP hn hn' hPn hl hl'
  by_cases e0 : decksC (holes D) (holes E) P = 0
  · rcases decksC_cases (holes D) (holes E) P with ⟨_, ec, _⟩ | ⟨_, _, ec, _⟩ | ⟨_, _, _, ec, _⟩ | ⟨e1, e2, e3, ec, ev⟩
    · omega
    · omega
    · omega
    obtain ⟨f1, f2, f3, f4, hvt, hPl⟩ := validP_parts e3
    have hD40 : D.length ≤ 40 := by have := deck_len e1; rwa [holes_len] at this
    have hE40 : E.length ≤ 40 := by have := deck_len e2; rwa [holes_len] at this
    have hat : ∀ (k : Nat) (d : CardV), D[k]? = some d → d.xs.length = widthH (holes D) := fun k d hd => (deck_width e1 (holesAt hd)).2
    have hat' : ∀ (k : Nat) (d : CardV), E[k]? = some d → d.xs.length = widthH (holes E) := fun k d hd => (deck_width e2 (holesAt hd)).2
    rw [ec] at hc ⊢
    rw [ev]
    obtain ⟨n, hn0⟩ : ∃ n, min D.length E.length = n := ⟨_, rfl⟩
    have hHm : min (holes D).length (holes E).length = n := by rw [holes_len, holes_len]; exact hn0
    have hbs := fun W (hW : Below w.heap.size w W) => beside_any A' A c' c E.length D.length n E D B' B W (h'.below (hW.mono hB')) (h.below (hW.mono hB)) (Nat.le_trans hB' hW.size) (Nat.le_trans hB hW.size) rfl rfl (by omega) (by omega) (by omega) hE40 hD40
    have hdf : ∀ (k : Nat) (d e : CardV), D[k]? = some d → E[k]? = some e → ∀ W : World, Below w.heap.size w W → Calls Try.prog 71 #[.agg #[.slice d.at_ d.xs.length d.cap, .slice e.at_ e.xs.length e.cap], .slice AP P.length cP] W (GivesL (difL d.xs e.xs P) W) := fun k d e hd he W hW => by
      obtain ⟨hk, _⟩ := List.getElem?_eq_some_iff.1 hd
      obtain ⟨hk', _⟩ := List.getElem?_eq_some_iff.1 he
      obtain ⟨_, _, _, _, hcell⟩ := h.below (hW.mono hB) (by omega)
      obtain ⟨_, _, _, _, hcell'⟩ := h'.below (hW.mono hB') (by omega)
      exact differences_any d.at_ e.at_ d.cap e.cap d.xs e.xs B B' AP cP P BP W (hcell k d hd).2 (hcell' k e he).2 (hP.below (hW.mono hBP)) (Nat.le_trans hB hW.size) (Nat.le_trans hB' hW.size) (Nat.le_trans hBP hW.size) (-1) (by rw [hat k d hd, hat' k e he]; exact hvt) hPl
    have hpq := fun (k : Nat) (d e : CardV) (hd : D[k]? = some d) (he : E[k]? = some e) => pairQ_at (P := P) hd he
    have hhit := fun t => decksR_hit (G := holes D) (H := holes E) (P := P) (t := t)
    have hnone := decksR_none (G := holes D) (H := holes E) (P := P)
    rw [hHm] at hnone
    simp only [hHm] at hhit
    rw [holes_len, holes_len] at hnone
    obtain ⟨R, hR⟩ : ∃ R, decksR (holes D) (holes E) P = R := ⟨_, rfl⟩
    obtain ⟨q, hq⟩ : ∃ q, pairQ (holes D) (holes E) P = q := ⟨_, rfl⟩
    rw [hR, hq] at hnone
    simp only [hR, hq] at hhit
    simp only [hq] at hpq
    rw [hR]
    obtain ⟨nd, hND⟩ : ∃ n, D.length = n := ⟨_, rfl⟩
    obtain ⟨ne, hNE⟩ : ∃ n, E.length = n := ⟨_, rfl⟩
    obtain ⟨m, hM⟩ : ∃ m, P.length = m := ⟨_, rfl⟩
    rw [hND, hNE, hM] at hc
    simp only [hND, hNE] at hbs
    simp only [hM] at hdf
    rw [hND, hNE] at hn0 hnone
    rw [hND, hNE, hM]
    have HC := Lib.hid hc
    have HBS := Lib.hid hbs
    have HDF := Lib.hid hdf
    have HPQ := Lib.hid hpq
    have HHIT := Lib.hid hhit
    have HNONE := Lib.hid hnone
    have HND := Lib.hid hND
    have HNE := Lib.hid hNE
    have HN0 := Lib.hid hn0
    have hn40 : n ≤ 40 := by omega
    have HDD := Lib.hid hD40
    have HEE := Lib.hid hE40
    clear hc h h' hP hl hl' e0 e1 e2 e3 ec ev hvt hPl hat hat' hHm hbs hdf hpq hhit hnone hR hq hND hNE hM hn0 hn hn' hPn hD40 hE40 f1 f2 f3 f4
    go_enter Try.func42, Try.ntmps42
    go_wp2_with fail
    refine HC.out.mono ?_
    rintro e w1 ⟨rfl, hb⟩
    have B1 := Lib.hid hb
    clear hb
    go_wp2_with fail
    refine (HBS.out _ B1.out).mono ?_
    rintro e w2 ⟨g, rfl, hg, hb, hpr⟩
    have B2 := Lib.hid (below_step B1.out hb)
    have HPR := Lib.hid hpr
    clear hb hpr hg HBS HC
    go_wp2
    go_loopw [24] (fun x wr => ∃ t : Nat, t ≤ n ∧ x = .int .i64 t ∧ Hid (Below w2.heap.size w2 wr) ∧ Hid (∀ k, k < t → q k = false)) (fun x _ => n - (intOf x).toNat)
    case atStart => exact ⟨0, Nat.zero_le _, rfl, Below.refl _ _, fun k hk => by omega⟩
    case round =>
      obtain ⟨t, ht, rfl, HB, HK⟩ := hrel
      by_cases hlt : t < n
      · have h1 := HN0.out
        have h2 := HND.out
        have h3 := HNE.out
        obtain ⟨d, hd⟩ : ∃ d, D[t]? = some d := ⟨D[t]'(by omega), List.getElem?_eq_getElem _⟩
        obtain ⟨e, he⟩ : ∃ e, E[t]? = some e := ⟨E[t]'(by omega), List.getElem?_eq_getElem _⟩
        have c1 := (HPR.out.later HB.out).fst (e := d) (by rw [List.length_take]; omega) (by rw [List.getElem?_take_of_lt hlt]; exact hd)
        have c2 := (HPR.out.later HB.out).snd (by rw [List.length_take]; omega) he
        unfold CardV.value at c1 c2
        have bw := below_box wr (.cells #[.slice d.at_ d.xs.length d.cap, .slice e.at_ e.xs.length e.cap] 94)
        have hdf := HDF.out t d e hd he _ (below_step B2.out (below_step HB.out bw))
        obtain ⟨s0, s1⟩ := pair_box wr (.slice d.at_ d.xs.length d.cap) (.slice e.at_ e.xs.length e.cap)
        have hpq := HPQ.out t d e hd he
        have hdl : (difL d.xs e.xs P).length ≤ P.length := wherePl_len _ _
        obtain ⟨L, hL⟩ : ∃ L, difL d.xs e.xs P = L := ⟨_, rfl⟩
        rw [hL] at hdf hpq
        obtain ⟨ll, hll⟩ : ∃ ll, L.length = ll := ⟨_, rfl⟩
        unfold GivesL at hdf
        rw [hll] at hdf hpq
        obtain ⟨W1, hW1⟩ : ∃ W1, wr.alloc (.cells #[.slice d.at_ d.xs.length d.cap, .slice e.at_ e.xs.length e.cap] 94) = W1 := ⟨_, rfl⟩
        rw [hW1] at hdf s0 s1 bw
        have HB1 := Lib.hid (below_step HB.out bw)
        obtain ⟨ld, hld⟩ : ∃ l, d.xs.length = l := ⟨_, rfl⟩
        obtain ⟨le, hle⟩ : ∃ l, e.xs.length = l := ⟨_, rfl⟩
        rw [hld, hle] at hdf
        rw [hld] at c1 s0 hW1
        rw [hle] at c2 s1 hW1
        have HDFF := Lib.hid hdf
        have HPQQ := Lib.hid hpq
        have t0 : (0 : Int) ≤ (t : Int) := Int.natCast_nonneg _
        have t1 : (t : Int) < (n : Int) := by omega
        clear h1 h2 h3 hd he bw hdf hpq hdl hL hll hld hle
        go_wp2_with fail
        refine HDFF.out.mono ?_
        rintro e9 w3 ⟨A9, c9, rfl, hb3, _⟩
        have HB3 := Lib.hid (below_step HB1.out hb3)
        clear hb3
        by_cases hz : 0 < ll
        · have hqt : q t = true := by rw [HPQQ.out]; simp [hz]
          have hres := HHIT.out t hlt HK.out hqt
          have HRES := Lib.hid hres
          have g1 : (ll : Int) > 0 := by omega
          have BB := Lib.hid (below_step B2.out HB3.out)
          clear hres hqt hz
          go_wp2
          go_ret2
          exact ⟨by rw [HRES.out]; rfl, BB.out⟩
        · have hqt : q t = false := by rw [HPQQ.out]; simp [hz]
          have g1 : ¬ (ll : Int) > 0 := by omega
          have HK1 : Hid (∀ k, k < t + 1 → q k = false) := fun k hk => by
            by_cases hkt : k < t
            · exact HK.out k hkt
            · obtain rfl : k = t := by omega
              exact hqt
          clear hqt hz
          go_wp2
          go_roundw
          case rel => exact ⟨t + 1, by omega, by go_num, HB3, HK1⟩
          case measure => simp [intOf]; omega
      · obtain rfl : t = n := by omega
        have t1 : ¬ (t : Int) < (t : Int) := by omega
        have hres := HNONE.out HK.out
        have BB := Lib.hid (below_step B2.out HB.out)
        by_cases heq : nd = ne
        · rw [if_pos heq] at hres
          have HRES := Lib.hid hres
          have g1 : ((nd : Int) != (ne : Int)) = false := by simp [heq]
          clear hres heq
          go_wp2
          go_ret2
          exact ⟨by rw [HRES.out]; rfl, BB.out⟩
        · rw [if_neg heq] at hres
          have HRES := Lib.hid hres
          have g1 : ((nd : Int) != (ne : Int)) = true := by simp; omega
          clear hres heq
          go_wp2
          go_ret2
          exact ⟨by rw [HRES.out]; rfl, BB.out⟩
  · have ev : decksV (holes D) (holes E) P = 0 := if_neg e0
    rw [ev]
    obtain ⟨k, hk⟩ : ∃ k, decksC (holes D) (holes E) P = k := ⟨_, rfl⟩
    rw [hk] at hc e0 ⊢
    obtain ⟨nd, hND⟩ : ∃ n, D.length = n := ⟨_, rfl⟩
    obtain ⟨ne, hNE⟩ : ∃ n, E.length = n := ⟨_, rfl⟩
    obtain ⟨m, hM⟩ : ∃ m, P.length = m := ⟨_, rfl⟩
    rw [hND, hNE, hM] at hc ⊢
    have g1 : (k != 0) = true := by simpa using e0
    have HC := Lib.hid hc
    clear hc h h' hP hl hl' e0 ev hk hND hNE hM hn hn' hPn
    go_enter Try.func42, Try.ntmps42
    go_wp2_with fail
    refine HC.out.mono ?_
    rintro e w1 ⟨rfl, hb⟩
    have B1 := Lib.hid hb
    clear hb
    go_wp2
    go_ret2
    exact ⟨rfl, B1.out⟩
end
end Go.Proofs.Ytamookdlbmbncaa
