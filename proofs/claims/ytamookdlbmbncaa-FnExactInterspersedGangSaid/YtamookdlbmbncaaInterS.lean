/- spec.InterspersedGang answers the deck with copies from the last master: a contract. -/
import Derived.Test.YtamookdlbmbncaaInterC
import Derived.Test.YtamookdlbmbncaaOwnD
namespace Go.Proofs.Ytamookdlbmbncaa
open Go.ChangeShapes Go.WideShapes Go.ChangeAt Go.RowKit

theorem inB_col {k : Int} {z : Nat} : inB k 0 ((z : Int) - 1) = (decide (0 ≤ k) && decide (k < (z : Int))) := by
  unfold inB
  congr 1
  exact decide_eq_decide.2 (by omega)
theorem width_small {H : List (List Int)} (h : deckB H = true) : widthH H ≤ 20 := by
  unfold widthH
  split
  · omega
  · rename_i h0
    obtain ⟨xs, hx⟩ : ∃ xs, H[0]? = some xs := ⟨H[0]'(by omega), List.getElem?_eq_getElem _⟩
    obtain ⟨g1, g2⟩ := deck_width h hx
    have := (okB_parts g1).2
    rw [g2] at this
    rwa [widthH, if_neg h0] at this
section
variable (A : Option Addr) (c : Nat) (D : List CardV) (B : Nat) (k : Int) (AP : Option Addr) (cP : Nat) (P : List (Int × Int)) (BP : Nat) (w : World) (h : Deck w B A D) (hP : Copies w BP AP P) (hB : B ≤ w.heap.size) (hBP : BP ≤ w.heap.size) (hn : D.length ≤ 1048576) (hPn : P.length ≤ 1048576) (hl : ∀ d ∈ D, d.xs.length ≤ 1048576)
include h hP hB hBP hn hPn hl

set_option maxRecDepth 100000 in
set_option maxHeartbeats 4000000 in
theorem specInter_any : Calls Try.prog 34 #[.slice A D.length c, .int .i64 k, .slice AP P.length cP] w (GivesDC (interV (holes D) k P) (interC (holes D) k P) w) := by
  have hd := fun W (hW : Below w.heap.size w W) => l02Deck_any A c D B W (h.below (hW.mono hB)) (Nat.le_trans hB hW.size) hn hl
  have hw := fun W (hW : Below w.heap.size w W) => l07WidthOf_any A c D B W (h.below (hW.mono hB)) hn hl
  have hin := fun W => in_any k 0 ((widthH (holes D) : Int) - 1) W
  have hv := fun W (hW : Below w.heap.size w W) => specValidCopies_any AP cP P (widthH (holes D)) (widthH (holes D)) BP W (hP.below (hW.mono hBP)) (Nat.le_trans hBP hW.size) hPn
  simp only [inB_col] at hin
  rcases interC_cases (holes D) k P with ⟨e1, ec, ea⟩ | ⟨e1, e2, ec, ea⟩ | ⟨e1, e2, e3, ec, ea⟩ | ⟨e1, e2, e3, e4, ec, ea⟩ | ⟨e1, e2, e3, e4, ec, ea⟩
  · rw [ec, ea]
    simp only [e1] at hd
    obtain ⟨n, hN⟩ : ∃ n, D.length = n := ⟨_, rfl⟩
    obtain ⟨m, hM⟩ : ∃ m, P.length = m := ⟨_, rfl⟩
    obtain ⟨z, hZ⟩ : ∃ z, widthH (holes D) = z := ⟨_, rfl⟩
    simp only [hN] at hd hw
    simp only [hM] at hv
    simp only [hZ] at hw hv hin
    rw [hN, hM]
    have HD := Lib.hid hd
    clear hd hw hv hin h hP hl ec ea hN hM hZ hn hPn e1
    go_enter Try.func34, Try.ntmps34
    go_wp2_with fail
    refine (HD.out _ (Below.refl _ _)).mono ?_
    rintro e w1 ⟨rfl, hb⟩
    have B1 := Lib.hid hb
    clear hb
    go_wp2
    go_ret2
    exact ⟨none, 0, [], rfl, rfl, B1.out, DeckAt.nil (Nat.le_refl _)⟩
  · by_cases e3 : 0 ≤ k ∧ k < (widthH (holes D) : Int)
    · rw [ec, ea]
      simp only [e1] at hd
      simp only [e2] at hv
      simp only [colB_true e3] at hin
      have hz20 := width_small e1
      obtain ⟨n, hN⟩ : ∃ n, D.length = n := ⟨_, rfl⟩
      obtain ⟨m, hM⟩ : ∃ m, P.length = m := ⟨_, rfl⟩
      obtain ⟨z, hZ⟩ : ∃ z, widthH (holes D) = z := ⟨_, rfl⟩
      simp only [hN] at hd hw
      simp only [hM] at hv
      simp only [hZ] at hw hv hin
      rw [hN, hM]
      have HD := Lib.hid hd
      have HW := Lib.hid hw
      have HI := Lib.hid hin
      have HV := Lib.hid hv
      rw [hZ] at hz20
      have hwr : IntKind.i64.wrap ((z : Int) - 1) = (z : Int) - 1 := IntWalk.i64_in _ (by omega)
      clear hd hw hv hin h hP hl ec ea hN hM hZ hn hPn e1 e2 e3
      go_enter Try.func34, Try.ntmps34
      go_wp2_with fail
      refine (HD.out _ (Below.refl _ _)).mono ?_
      rintro e w1 ⟨rfl, hb⟩
      have B1 := Lib.hid hb
      clear hb
      go_wp2_with fail
      refine (HW.out _ B1.out).mono ?_
      rintro e w2 ⟨rfl, hb⟩
      have B2 := Lib.hid (below_step B1.out hb)
      clear hb
      go_wp2_with fail
      refine (HI.out _).mono ?_
      rintro e w92 ⟨rfl, rfl⟩
      go_wp2_with fail
      refine (HV.out _ B2.out).mono ?_
      rintro e w3 ⟨rfl, hb⟩
      have B3 := Lib.hid (below_step B2.out hb)
      clear hb
      go_wp2
      go_ret2
      exact ⟨none, 0, [], rfl, rfl, B3.out, DeckAt.nil (Nat.le_refl _)⟩
    · rw [ec, ea]
      simp only [e1] at hd
      simp only [colB_false e3] at hin
      have hz20 := width_small e1
      obtain ⟨n, hN⟩ : ∃ n, D.length = n := ⟨_, rfl⟩
      obtain ⟨m, hM⟩ : ∃ m, P.length = m := ⟨_, rfl⟩
      obtain ⟨z, hZ⟩ : ∃ z, widthH (holes D) = z := ⟨_, rfl⟩
      simp only [hN] at hd hw
      simp only [hM] at hv
      simp only [hZ] at hw hv hin
      rw [hN, hM]
      have HD := Lib.hid hd
      have HW := Lib.hid hw
      have HI := Lib.hid hin
      rw [hZ] at hz20
      have hwr : IntKind.i64.wrap ((z : Int) - 1) = (z : Int) - 1 := IntWalk.i64_in _ (by omega)
      clear hd hw hv hin h hP hl ec ea hN hM hZ hn hPn e1 e2 e3
      go_enter Try.func34, Try.ntmps34
      go_wp2_with fail
      refine (HD.out _ (Below.refl _ _)).mono ?_
      rintro e w1 ⟨rfl, hb⟩
      have B1 := Lib.hid hb
      clear hb
      go_wp2_with fail
      refine (HW.out _ B1.out).mono ?_
      rintro e w2 ⟨rfl, hb⟩
      have B2 := Lib.hid (below_step B1.out hb)
      clear hb
      go_wp2_with fail
      refine (HI.out _).mono ?_
      rintro e w92 ⟨rfl, rfl⟩
      go_wp2
      go_ret2
      exact ⟨none, 0, [], rfl, rfl, B2.out, DeckAt.nil (Nat.le_refl _)⟩
  · rw [ec, ea]
    simp only [e1] at hd
    simp only [colB_false e3] at hin
    have hz20 := width_small e1
    obtain ⟨n, hN⟩ : ∃ n, D.length = n := ⟨_, rfl⟩
    obtain ⟨m, hM⟩ : ∃ m, P.length = m := ⟨_, rfl⟩
    obtain ⟨z, hZ⟩ : ∃ z, widthH (holes D) = z := ⟨_, rfl⟩
    simp only [hN] at hd hw
    simp only [hM] at hv
    simp only [hZ] at hw hv hin
    rw [hN, hM]
    have HD := Lib.hid hd
    have HW := Lib.hid hw
    have HI := Lib.hid hin
    rw [hZ] at hz20
    have hwr : IntKind.i64.wrap ((z : Int) - 1) = (z : Int) - 1 := IntWalk.i64_in _ (by omega)
    clear hd hw hv hin h hP hl ec ea hN hM hZ hn hPn e1 e2 e3
    go_enter Try.func34, Try.ntmps34
    go_wp2_with fail
    refine (HD.out _ (Below.refl _ _)).mono ?_
    rintro e w1 ⟨rfl, hb⟩
    have B1 := Lib.hid hb
    clear hb
    go_wp2_with fail
    refine (HW.out _ B1.out).mono ?_
    rintro e w2 ⟨rfl, hb⟩
    have B2 := Lib.hid (below_step B1.out hb)
    clear hb
    go_wp2_with fail
    refine (HI.out _).mono ?_
    rintro e w92 ⟨rfl, rfl⟩
    go_wp2
    go_ret2
    exact ⟨none, 0, [], rfl, rfl, B2.out, DeckAt.nil (Nat.le_refl _)⟩
  · obtain ⟨xs, h0, hm⟩ := e4
    have e4 : mastB xs k.toNat = false := hm
    clear hm
    simp only [e1] at hd
    simp only [e2] at hv
    simp only [colB_true e3] at hin
    have hz20 := width_small e1
    obtain ⟨k', rfl⟩ : ∃ k' : Nat, k = k' := ⟨k.toNat, by omega⟩
    rw [Int.toNat_natCast] at e4
    obtain ⟨f1, f2, f3, f4, hvt, hPl⟩ := validP_parts e2
    have hD40 : D.length ≤ 40 := by have := deck_len e1; rwa [holes_len] at this
    have hat : ∀ (i : Nat) (d : CardV), D[i]? = some d → d.xs.length = widthH (holes D) := fun i d hd => (deck_width e1 (holesAt hd)).2
    have hcp := fun W (hW : Below w.heap.size w W) => l02Copy_any A c D D.length B W (h.below (hW.mono hB)) (Nat.le_trans hB hW.size) rfl hD40 (fun d hd => by
      obtain ⟨i, hi⟩ := List.mem_iff_getElem?.1 hd
      rw [hat i d hi]; omega)
    rw [ec, ea]
    have hpos : 0 < D.length := by
      obtain ⟨hi, _⟩ := List.getElem?_eq_some_iff.1 h0
      rwa [holes_len] at hi
    obtain ⟨d, hd0⟩ : ∃ d, D[0]? = some d := ⟨D[0]'hpos, List.getElem?_eq_getElem _⟩
    have hdx : d.xs = xs := by
      have := holesAt hd0
      rw [h0] at this
      exact (Option.some.inj this).symm
    subst hdx
    have hdl := hat 0 d hd0
    obtain ⟨b, off, rfl, hb, hcell⟩ := h hpos
    obtain ⟨c1, hi1⟩ := hcell 0 d hd0
    obtain ⟨bd, od, hda, hbd, hcd⟩ := hi1 (by omega)
    have c2 := hcd k' (by omega)
    unfold CardV.value at c1
    rw [Nat.add_zero, hda] at c1
    have C1 := Lib.hid (fun W (hW : Below w.heap.size w W) => cell_kept c1 hW)
    have C2 := Lib.hid (fun W (hW : Below w.heap.size w W) => cell_kept c2 hW)
    obtain ⟨x, hx⟩ : ∃ x, d.xs[k']?.getD 0 = x := ⟨_, rfl⟩
    obtain ⟨y, hy⟩ : ∃ y, bits .and .i64 x 2 = y := ⟨_, rfl⟩
    have hy0 : (y != 0) = false := by
      unfold mastB at e4
      rw [hx, hy] at e4
      simpa using e4
    rw [hx] at C2
    obtain ⟨n, hN⟩ : ∃ n, D.length = n := ⟨_, rfl⟩
    obtain ⟨m, hM⟩ : ∃ m, P.length = m := ⟨_, rfl⟩
    obtain ⟨z, hZ⟩ : ∃ z, widthH (holes D) = z := ⟨_, rfl⟩
    rw [hdl, hZ] at C1
    rw [hN] at hpos
    simp only [hN] at hd hw hcp
    simp only [hM] at hv
    simp only [hZ] at hw hv hin
    rw [hZ] at hz20 e3
    rw [hN, hM]
    have HD := Lib.hid hd
    have HW := Lib.hid hw
    have HI := Lib.hid hin
    have HV := Lib.hid hv
    have HCP := Lib.hid hcp
    have k0 : (0 : Int) ≤ (k' : Int) := Int.natCast_nonneg _
    have k1 : (k' : Int) < (z : Int) := e3.2
    have k2 : k' < z := by omega
    have n1 : (0 : Int) < (n : Int) := by omega
    have hwr : IntKind.i64.wrap ((z : Int) - 1) = (z : Int) - 1 := IntWalk.i64_in _ (by omega)
    clear hd hw hv hin hcp h hP hl e1 e2 e3 e4 ec ea hN hM hZ hn hPn hcell c1 c2 hi1 hcd h0 hd0 hdl hx hvt hPl hat hD40 f1 f2 f3 f4 hb hbd hda
    go_enter Try.func34, Try.ntmps34
    go_wp2_with fail
    refine (HD.out _ (Below.refl _ _)).mono ?_
    rintro e w1 ⟨rfl, hb⟩
    have B1 := Lib.hid hb
    clear hb
    go_wp2_with fail
    refine (HW.out _ B1.out).mono ?_
    rintro e w2 ⟨rfl, hb⟩
    have B2 := Lib.hid (below_step B1.out hb)
    clear hb
    go_wp2_with fail
    refine (HI.out _).mono ?_
    rintro e w92 ⟨rfl, rfl⟩
    go_wp2_with fail
    refine (HV.out _ B2.out).mono ?_
    rintro e w3 ⟨rfl, hb⟩
    have B3 := Lib.hid (below_step B2.out hb)
    clear hb
    go_wp2_with fail
    refine (HCP.out _ B3.out).mono ?_
    rintro e w4 hg
    obtain ⟨g, cap, E, rfl, _, _, hb, _⟩ := copied_deck hg
    have B4 := Lib.hid (below_step B3.out hb)
    clear hg hb
    go_wp2
    go_loopw [10, 11] (fun ma x wr => ma = .int .i64 (-1) ∧ x = .int .i64 0 ∧ Hid (Below w.heap.size w wr)) (fun _ x _ => n - (intOf x).toNat)
    case atStart => exact ⟨rfl, rfl, B4⟩
    case round =>
      obtain ⟨rfl, rfl, HB⟩ := hrel
      have r1 := C1.out wr HB.out
      have r2 := C2.out wr HB.out
      go_wp2
      go_ret2
      exact ⟨none, 0, [], rfl, rfl, HB.out, DeckAt.nil (Nat.le_refl _)⟩
  · simp only [e1] at hd
    simp only [e2] at hv
    simp only [colB_true e3] at hin
    have hz20 := width_small e1
    obtain ⟨k', rfl⟩ : ∃ k' : Nat, k = k' := ⟨k.toNat, by omega⟩
    rw [Int.toNat_natCast] at e4
    obtain ⟨f1, f2, f3, f4, hvt, hPl⟩ := validP_parts e2
    have hD40 : D.length ≤ 40 := by have := deck_len e1; rwa [holes_len] at this
    have hat : ∀ (i : Nat) (d : CardV), D[i]? = some d → d.xs.length = widthH (holes D) := fun i d hd => (deck_width e1 (holesAt hd)).2
    have hcp := fun W (hW : Below w.heap.size w W) => l02Copy_any A c D D.length B W (h.below (hW.mono hB)) (Nat.le_trans hB hW.size) rfl hD40 (fun d hd => by
      obtain ⟨i, hi⟩ := List.mem_iff_getElem?.1 hd
      rw [hat i d hi]; omega)
    rw [ec, ea]
    rw [Int.toNat_natCast]
    have hlast : ∀ (t : Nat) (d : CardV), D[t]? = some d → (lastM (holes D) k' (t + 1) = if mastB d.xs k' = true then d.xs else lastM (holes D) k' t) ∧ interAt (holes D) k' P t = (if mastB d.xs k' = true then d.xs else xferTo (lastM (holes D) k' t) d.xs P) := fun t d hd => by
      refine ⟨?_, ?_⟩
      · rw [lastM, holesAt hd]; rfl
      · rw [interAt, holesAt hd]; rfl
    have hf0 : ∀ d, D[0]? = some d → mastB d.xs k' = true := fun d hd => e4 d.xs (holesAt hd)
    have hl10 := fun (i t : Nat) (d e : CardV) (hd : D[i]? = some d) (pc oc po oo g cap : Nat) (ex : List Value) (W : World) (hW : Below w.heap.size w W) (h1 : W.cell? ⟨pc, oc, none⟩ = some d.value) (h2 : W.cell? ⟨po, oo, none⟩ = some (.slice (some ⟨g, 0, none⟩) e.xs.length cap)) (hR : Row W g e.xs ex) (he : e.xs.length = widthH (holes D)) (hg : w.heap.size ≤ g) (hpc : pc ≠ g) (hpo : po ≠ g) (hI : Ints W B d.at_ d.xs) =>
      l10Copy_any pc oc po oo d.at_ d.cap d.xs B g cap e.xs ex AP cP P BP W h1 hI h2 hR (hP.below (hW.mono hBP)) (Nat.le_trans hB hg) (Nat.le_trans hBP hg) hpc hpo (-1) (by rw [hat i d hd, he]; exact hvt) hPl (by rw [hat i d hd]; omega)
    have hpt := fun t => partL_set (f := interAt (holes D) k' P) (H := holes D) (t := t)
    have hps := fun (t : Nat) (d : CardV) (hd : D[t]? = some d) (hq : interAt (holes D) k' P t = d.xs) => partL_same (holesAt hd) hq
    have hpa := fun (t : Nat) (d : CardV) (hd : D[t]? = some d) => (partL_at (f := interAt (holes D) k' P) (H := holes D) (t := t) (by obtain ⟨hi, _⟩ := List.getElem?_eq_some_iff.1 hd; rwa [holes_len])).trans (holesAt hd)
    have hp0 := partL_zero (interAt (holes D) k' P) (holes D)
    have hpn : partL (interAt (holes D) k' P) (holes D) D.length = interL (holes D) k' P := by
      have := partL_all (interAt (holes D) k' P) (holes D)
      rw [holes_len] at this
      rw [this, interL, holes_len]
    have hIL : (interL (holes D) k' P).length = D.length := by rw [interL_length, holes_len]
    obtain ⟨X, hX⟩ : ∃ X, interL (holes D) k' P = X := ⟨_, rfl⟩
    rw [hX] at hpn hIL ⊢
    obtain ⟨IA, hIA⟩ : ∃ f, interAt (holes D) k' P = f := ⟨_, rfl⟩
    rw [hIA] at hp0 hpn
    simp only [hIA] at hlast hpt hps hpa
    obtain ⟨n, hN⟩ : ∃ n, D.length = n := ⟨_, rfl⟩
    obtain ⟨m, hM⟩ : ∃ m, P.length = m := ⟨_, rfl⟩
    obtain ⟨z, hZ⟩ : ∃ z, widthH (holes D) = z := ⟨_, rfl⟩
    simp only [hN] at hd hw hcp
    rw [hN] at hpn hIL hD40
    simp only [hM] at hv hl10
    simp only [hZ] at hw hv hin hl10 hat
    rw [hZ] at hz20 e3
    rw [hN, hM]
    have H := Lib.hid h
    have HN := Lib.hid hN
    have HD := Lib.hid hd
    have HW := Lib.hid hw
    have HI := Lib.hid hin
    have HV := Lib.hid hv
    have HCP := Lib.hid hcp
    have HLT := Lib.hid hlast
    have HF0 := Lib.hid hf0
    have HL10 := Lib.hid hl10
    have HPT := Lib.hid hpt
    have HPS := Lib.hid hps
    have HPA := Lib.hid hpa
    have HP0 := Lib.hid hp0
    have HPN := Lib.hid hpn
    have HIL := Lib.hid hIL
    have HAT := Lib.hid hat
    have k0 : (0 : Int) ≤ (k' : Int) := Int.natCast_nonneg _
    have k1 : (k' : Int) < (z : Int) := e3.2
    have k2 : k' < z := by omega
    have hwr : IntKind.i64.wrap ((z : Int) - 1) = (z : Int) - 1 := IntWalk.i64_in _ (by omega)
    clear hd hw hv hin hcp h hP hl e1 e2 e3 e4 ec ea hN hM hZ hn hPn hvt hPl hat f1 f2 f3 f4 hlast hf0 hl10 hpt hps hpa hp0 hpn hIL hX hIA
    go_enter Try.func34, Try.ntmps34
    go_wp2_with fail
    refine (HD.out _ (Below.refl _ _)).mono ?_
    rintro e w1 ⟨rfl, hb⟩
    have B1 := Lib.hid hb
    clear hb
    go_wp2_with fail
    refine (HW.out _ B1.out).mono ?_
    rintro e w2 ⟨rfl, hb⟩
    have B2 := Lib.hid (below_step B1.out hb)
    clear hb
    go_wp2_with fail
    refine (HI.out _).mono ?_
    rintro e w92 ⟨rfl, rfl⟩
    go_wp2_with fail
    refine (HV.out _ B2.out).mono ?_
    rintro e w3 ⟨rfl, hb⟩
    have B3 := Lib.hid (below_step B2.out hb)
    clear hb
    go_wp2_with fail
    refine (HCP.out _ B3.out).mono ?_
    rintro e w4 hg
    obtain ⟨g, cap, E, rfl, hEl, hEh, hb, hown⟩ := copied_deck hg
    have B4 := Lib.hid (below_step B3.out hb)
    have HEL := Lib.hid hEl
    have HEH := Lib.hid hEh
    have HOW := Lib.hid hown
    clear hg hb hEl hEh hown
    go_wp2
    go_loopw [10, 11] (fun ma x wr => ∃ t : Nat, ∃ mi : Int, ∃ E : List CardV, t ≤ n ∧ x = .int .i64 t ∧ ma = .int .i64 mi ∧ Hid (E.length = n) ∧ Hid (holes E = partL IA (holes D) t) ∧ Hid (Below w.heap.size w wr) ∧ Hid (OwnD wr w3.heap.size g E) ∧ Hid (0 < t → ∃ (j : Nat) (d : CardV), mi = j ∧ j < n ∧ D[j]? = some d ∧ lastM (holes D) k' t = d.xs)) (fun _ x _ => n - (intOf x).toNat)
    case atStart => exact ⟨0, -1, E, Nat.zero_le _, rfl, rfl, HEL, by show _ = _; rw [HP0.out]; exact HEH.out, B4, HOW, fun h0 => by omega⟩
    case round =>
      obtain ⟨t, mi, E, ht, rfl, rfl, HL, HH, HB, HO, HM⟩ := hrel
      by_cases hlt : t < n
      · obtain ⟨d, hd⟩ : ∃ d, D[t]? = some d := ⟨D[t]'(by rw [HN.out]; exact hlt), List.getElem?_eq_getElem _⟩
        have hdl := HAT.out t d hd
        obtain ⟨b, off, rfl, hb, hcell⟩ := (H.out.below (HB.out.mono hB)) (by rw [HN.out]; omega)
        obtain ⟨c1, hi1⟩ := hcell t d hd
        obtain ⟨bd, od, hda, hbd, hcd⟩ := hi1 (by omega)
        have c2 := hcd k' (by omega)
        unfold CardV.value at c1
        rw [hda, hdl] at c1
        obtain ⟨x, hx⟩ : ∃ x, d.xs[k']?.getD 0 = x := ⟨_, rfl⟩
        obtain ⟨y, hy⟩ : ∃ y, bits .and .i64 x 2 = y := ⟨_, rfl⟩
        have hmb : mastB d.xs k' = (y != 0) := by
          unfold mastB
          rw [hx, hy]
          by_cases h0 : y = 0 <;> simp [h0]
        rw [hx] at c2
        obtain ⟨l1, l2⟩ := HLT.out t d hd
        have t0 : (0 : Int) ≤ (t : Int) := Int.natCast_nonneg _
        have t1 : (t : Int) < (n : Int) := by omega
        rw [hmb] at l1 l2
        cases hyy : (y != 0)
        · rw [hyy, if_neg (by simp)] at l1 l2
          have hpos : 0 < t := by
            rcases Nat.eq_zero_or_pos t with h0 | h0
            · subst h0
              have := HF0.out d hd
              rw [hmb, hyy] at this
              cases this
            · exact h0
          obtain ⟨j, dj, rfl, hj, hdj, hlm⟩ := HM.out hpos
          obtain ⟨cj, hij⟩ := hcell j dj hdj
          obtain ⟨e, he⟩ : ∃ e, E[t]? = some e := ⟨E[t]'(by rw [HL.out]; exact hlt), List.getElem?_eq_getElem _⟩
          have hex : e.xs = d.xs := by
            have h1 := holesAt he
            rw [HH.out, HPA.out t d hd] at h1
            exact (Option.some.inj h1).symm
          obtain ⟨ge, ex, hea, hel, her⟩ := HO.out.rows.each e (List.mem_of_getElem? he)
          have hec := HO.out.cards t e he
          obtain ⟨cs, hcs⟩ := HO.out.block
          have hne := row_not_cards her hcs
          have hsz := B3.out.size
          unfold CardV.value at hec
          rw [hea] at hec
          have hcall := HL10.out j t dj e hdj b (off + j) g t ge e.cap ex wr.drew HB.out.drew cj hec her.drew (by rw [hex]; exact hdl) (by omega) (by omega) (fun q => hne q.symm) hij
          have hot := fun W (hg : wr.drew.grownBy W (some ge)) (hr : Row W ge (xferTo dj.xs e.xs P) ex) => OwnD.turn (OwnD.later HO.out (Below.refl _ wr).drew) he hea (xferTo_length _ _ _) hg hr
          have hhs := holes_set E t ⟨e.at_, e.cap, xferTo dj.xs e.xs P⟩
          rw [HH.out] at hhs
          have hps := HPT.out t
          rw [l2, hlm] at hps
          have hxe : xferTo dj.xs e.xs P = xferTo dj.xs d.xs P := by rw [hex]
          simp only [hxe] at hhs
          rw [hps] at hhs
          rw [← hxe] at hhs
          have HCALL := Lib.hid hcall
          have HOT := Lib.hid hot
          have HHS := Lib.hid hhs
          have HM1 : Hid (0 < t + 1 → ∃ (i : Nat) (d : CardV), (j : Int) = i ∧ i < n ∧ D[i]? = some d ∧ lastM (holes D) k' (t + 1) = d.xs) := fun _ => ⟨j, dj, rfl, hj, hdj, by rw [l1]; exact hlm⟩
          have HGE := Lib.hid (show w.heap.size ≤ ge by omega)
          have j0 : (0 : Int) ≤ (j : Int) := Int.natCast_nonneg _
          have j1 : (j : Int) < (n : Int) := by omega
          have j2 : ¬ (j : Int) < 0 := by omega
          have tc : t < cap ∨ True := Or.inr trivial
          have HLS : Hid ((E.set t ⟨e.at_, e.cap, xferTo dj.xs e.xs P⟩).length = n) := by show _ = _; rw [List.length_set]; exact HL.out
          clear hd hdl hcell hi1 hcd hx hmb l1 l2 hdj hlm cj hij he hex hea hel her hec hcs hne hcall hot hhs hps hxe hb hbd hda HM tc
          go_wp2
          go_region_with (go_at_call 56; refine HCALL.out.mono ?_; rintro e9 w9 ⟨rfl, hg9, hr9⟩; have HG9 := Lib.hid hg9; have HR9 := Lib.hid hr9; clear hg9 hr9)
          all_goals
            go_wp2
            go_roundw
            case rel => exact ⟨t + 1, _, _, by omega, by go_num, rfl, HLS, HHS, Lib.hid (below_only HB.out.drew HG9.out HGE.out), Lib.hid (HOT.out _ HG9.out HR9.out), HM1⟩
            case measure => simp [intOf]; omega
        · rw [hyy, if_pos rfl] at l1 l2
          have HS := Lib.hid (HPS.out t d hd l2)
          have HM1 : Hid (0 < t + 1 → ∃ (i : Nat) (d : CardV), (t : Int) = i ∧ i < n ∧ D[i]? = some d ∧ lastM (holes D) k' (t + 1) = d.xs) := fun _ => ⟨t, d, rfl, hlt, hd, l1⟩
          clear hd hdl hcell hi1 hcd hx hmb l1 l2 hb hbd hda HM
          go_wp2
          go_roundw
          case rel => exact ⟨t + 1, _, E, by omega, by go_num, rfl, HL, by show _ = _; rw [HS.out]; exact HH.out, HB, HO, HM1⟩
          case measure => simp [intOf]; omega
      · obtain rfl : t = n := by omega
        have t1 : ¬ (t : Int) < (t : Int) := by omega
        have hh := HH.out
        rw [HPN.out] at hh
        have HHX := Lib.hid hh
        have HDA := Lib.hid (HO.out.deckAt.widen B3.out.size (Nat.le_refl _) (Nat.le_refl _))
        clear hh
        go_wp2
        go_ret2
        exact ⟨some ⟨g, 0, none⟩, _, E, by rw [HIL.out]; rfl, HHX.out, HB.out, HDA.out⟩
end
end Go.Proofs.Ytamookdlbmbncaa
