/- spec.GangPunch answers the deck with copies from a master: a contract. -/
import Derived.Test.YtamookdlbmbncaaGang
namespace Go.Proofs.Ytamookdlbmbncaa
open Go.ChangeShapes Go.WideShapes Go.ChangeAt Go.RowKit

section
variable (A : Option Addr) (c : Nat) (xs : List Int) (B : Nat) (A' : Option Addr) (c' : Nat) (D : List CardV) (B' : Nat) (AP : Option Addr) (cP : Nat) (P : List (Int × Int)) (BP : Nat) (w : World) (h : Ints w B A xs) (h' : Deck w B' A' D) (hP : Copies w BP AP P) (hB : B ≤ w.heap.size) (hB' : B' ≤ w.heap.size) (hBP : BP ≤ w.heap.size) (hn : xs.length ≤ 1048576) (hn' : D.length ≤ 1048576) (hPn : P.length ≤ 1048576) (hl' : ∀ d ∈ D, d.xs.length ≤ 1048576)
include h h' hP hB hB' hBP hn hn' hPn hl'

set_option maxRecDepth 100000 in
set_option maxHeartbeats 4000000 in
theorem specGang_any : Calls Try.prog 32 #[.agg #[.slice A xs.length c], .slice A' D.length c', .slice AP P.length cP] w (GivesDC (gangA xs (holes D) P) (gangC xs (holes D) P) w) := by
  obtain ⟨W0, hW0⟩ : ∃ W0, w.alloc (.cells #[.slice A xs.length c] 33) = W0 := ⟨_, rfl⟩
  have b0 : Below w.heap.size w W0 := by rw [← hW0]; exact below_box w _
  have p0 : W0.cell? ⟨w.heap.size, 0, none⟩ = some (.slice A xs.length c) := by rw [← hW0]; simp
  have s0 : W0.heap.size = w.heap.size + 1 := by rw [← hW0]; simp
  have ho := l02Ok_any A c xs B w.heap.size 0 W0 p0 (h.below (b0.mono hB)) hn
  have hd := fun W (hW : Below w.heap.size w W) => l02Deck_any A' c' D B' W (h'.below (hW.mono hB')) (Nat.le_trans hB' hW.size) hn' hl'
  have hw := fun W (hW : Below w.heap.size w W) => l07WidthOf_any A' c' D B' W (h'.below (hW.mono hB')) hn' hl'
  have hv := fun W (hW : Below w.heap.size w W) => specValidCopies_any AP cP P xs.length (widthH (holes D)) BP W (hP.below (hW.mono hBP)) (Nat.le_trans hBP hW.size) hPn
  rcases gangC_cases xs (holes D) P with ⟨e1, ec, ea⟩ | ⟨e1, e2, ec, ea⟩ | ⟨e1, e2, e3, ec, ea⟩ | ⟨e1, e2, e3, ec, ea⟩
  · rw [ec, ea]
    rw [e1] at ho
    obtain ⟨nx, hNX⟩ : ∃ n, xs.length = n := ⟨_, rfl⟩
    obtain ⟨n, hN⟩ : ∃ n, D.length = n := ⟨_, rfl⟩
    obtain ⟨m, hM⟩ : ∃ m, P.length = m := ⟨_, rfl⟩
    obtain ⟨z, hZ⟩ : ∃ z, widthH (holes D) = z := ⟨_, rfl⟩
    rw [hNX] at p0 hW0
    simp only [hN] at hd hw
    simp only [hM, hNX] at hv
    simp only [hZ] at hw hv
    rw [hNX, hN, hM]
    have HO := Lib.hid ho
    have B0 := Lib.hid b0
    subst hW0
    clear ho hd hw hv b0 p0 s0 h h' hP e1 ec ea hNX hN hM hZ hn hn' hPn hl'
    go_enter Try.func32, Try.ntmps32
    go_wp2_with (go_at_call 55; refine HO.out.mono ?_; rintro e w' ⟨rfl, rfl⟩)
    go_ret2
    exact ⟨none, 0, [], rfl, rfl, B0.out, DeckAt.nil (Nat.le_refl _)⟩
  · rw [ec, ea]
    rw [e1] at ho
    simp only [e2] at hd
    obtain ⟨nx, hNX⟩ : ∃ n, xs.length = n := ⟨_, rfl⟩
    obtain ⟨n, hN⟩ : ∃ n, D.length = n := ⟨_, rfl⟩
    obtain ⟨m, hM⟩ : ∃ m, P.length = m := ⟨_, rfl⟩
    obtain ⟨z, hZ⟩ : ∃ z, widthH (holes D) = z := ⟨_, rfl⟩
    rw [hNX] at p0 hW0
    simp only [hN] at hd hw
    simp only [hM, hNX] at hv
    simp only [hZ] at hw hv
    rw [hNX, hN, hM]
    have HO := Lib.hid ho
    have HD := Lib.hid (hd _ b0)
    have B0 := Lib.hid b0
    subst hW0
    clear ho hd hw hv b0 p0 s0 h h' hP e1 e2 ec ea hNX hN hM hZ hn hn' hPn hl'
    go_enter Try.func32, Try.ntmps32
    go_wp2_with (first | (go_at_call 55; refine HO.out.mono ?_; rintro e w' ⟨rfl, rfl⟩) | (go_at_call 58; refine HD.out.mono ?_; rintro e w' ⟨rfl, hb⟩; have B1 := Lib.hid (below_step B0.out hb); clear hb))
    go_ret2
    exact ⟨none, 0, [], rfl, rfl, B1.out, DeckAt.nil (Nat.le_refl _)⟩
  · rw [ec, ea]
    rw [e1] at ho
    simp only [e2] at hd
    simp only [e3] at hv
    obtain ⟨nx, hNX⟩ : ∃ n, xs.length = n := ⟨_, rfl⟩
    obtain ⟨n, hN⟩ : ∃ n, D.length = n := ⟨_, rfl⟩
    obtain ⟨m, hM⟩ : ∃ m, P.length = m := ⟨_, rfl⟩
    obtain ⟨z, hZ⟩ : ∃ z, widthH (holes D) = z := ⟨_, rfl⟩
    rw [hNX] at p0 hW0
    simp only [hN] at hd hw
    simp only [hM, hNX] at hv
    simp only [hZ] at hw hv
    rw [hNX, hN, hM]
    have HO := Lib.hid ho
    have HD := Lib.hid (hd _ b0)
    have HW := Lib.hid hw
    have HV := Lib.hid hv
    have B0 := Lib.hid b0
    subst hW0
    clear ho hd hw hv b0 s0 h h' hP e1 e2 e3 ec ea hNX hN hM hZ hn hn' hPn hl'
    go_enter Try.func32, Try.ntmps32
    go_wp2_with (first | (go_at_call 55; refine HO.out.mono ?_; rintro e w' ⟨rfl, rfl⟩) | fail)
    refine HD.out.mono ?_
    rintro e W9 ⟨rfl, hb⟩
    have B1 := Lib.hid (below_step B0.out hb)
    have q0 := cell_kept p0 hb
    clear hb p0
    go_wp2_with fail
    have HS : Hid (Below W9.drew.heap.size W9.drew W9.drew) := Below.refl _ _
    have HC : Hid (Below w.heap.size w W9.drew) := B1.out.drew
    go_region_held3 (fun W => W.cell? ⟨w.heap.size, 0, none⟩ = some (.slice A nx c))
      (first | exact cell_kept (w := W9.drew) q0 HS.out | go_keep)
      (first
        | (go_at_call 59
           refine (HW.out _ HC.out).mono ?_
           rintro e wz ⟨rfl, hb⟩
           have HC := Lib.hid (below_step HC.out hb)
           have HS := Lib.hid (below_step HS.out hb)
           clear hb)
        | (go_at_call 13
           refine (HV.out _ HC.out).mono ?_
           rintro e wz ⟨rfl, hb⟩
           have HC := Lib.hid (below_step HC.out hb)
           have HS := Lib.hid (below_step HS.out hb)
           clear hb))
    all_goals
      go_wp2
      go_ret2
      exact ⟨none, 0, [], rfl, rfl, HC.out, DeckAt.nil (Nat.le_refl _)⟩
  · rw [ec, ea]
    rw [e1] at ho
    simp only [e2] at hd
    obtain ⟨f1, f2, f3, f4, hvt, hPl⟩ := validP_parts e3
    simp only [e3] at hv
    have hD40 : D.length ≤ 40 := by have := deck_len e2; rwa [holes_len] at this
    have hat : ∀ (i : Nat) (d : CardV), D[i]? = some d → d.xs.length = widthH (holes D) := fun i d hd => (deck_width e2 (holesAt hd)).2
    have hcp := fun W (hW : Below w.heap.size w W) => l02Copy_any A' c' D D.length B' W (h'.below (hW.mono hB')) (Nat.le_trans hB' hW.size) rfl hD40 (fun d hd => by
      obtain ⟨i, hi⟩ := List.mem_iff_getElem?.1 hd
      rw [hat i d hi]; omega)
    have hl10 := fun (e : CardV) (po oo g cap : Nat) (ex : List Value) (W : World) (hW : Below w.heap.size w W) (h1 : W.cell? ⟨w.heap.size, 0, none⟩ = some (.slice A xs.length c)) (h2 : W.cell? ⟨po, oo, none⟩ = some (.slice (some ⟨g, 0, none⟩) e.xs.length cap)) (hR : Row W g e.xs ex) (he : e.xs.length = widthH (holes D)) (hg : w.heap.size < g) (hpo : po ≠ g) =>
      l10Copy_any w.heap.size 0 po oo A c xs B g cap e.xs ex AP cP P BP W h1 (h.below (hW.mono hB)) h2 hR (hP.below (hW.mono hBP)) (by omega) (by omega) (by omega) hpo (-1) (by rw [he]; exact hvt) hPl (okB_parts e1).2
    have hpt := fun t => partL_set (f := fun i => xferTo xs ((holes D)[i]?.getD []) P) (H := holes D) (t := t)
    have hpa := fun (t : Nat) (d : CardV) (hd : D[t]? = some d) => (partL_at (f := fun i => xferTo xs ((holes D)[i]?.getD []) P) (H := holes D) (t := t) (by obtain ⟨hi, _⟩ := List.getElem?_eq_some_iff.1 hd; rwa [holes_len])).trans (holesAt hd)
    have hpf : ∀ (t : Nat) (d : CardV), D[t]? = some d → xferTo xs ((holes D)[t]?.getD []) P = xferTo xs d.xs P := fun t d hd => by
      rw [holesAt hd]
      rfl
    have hp0 := partL_zero (fun i => xferTo xs ((holes D)[i]?.getD []) P) (holes D)
    have hpn : partL (fun i => xferTo xs ((holes D)[i]?.getD []) P) (holes D) D.length = (holes D).map fun ys => xferTo xs ys P := by
      have := partL_all (fun i => xferTo xs ((holes D)[i]?.getD []) P) (holes D)
      rw [holes_len] at this
      rw [this]
      apply List.ext_getElem?
      intro i
      by_cases hi : i < (holes D).length
      · rw [List.getElem?_map, List.getElem?_map, List.getElem?_range (by rwa [holes_len] at hi), List.getElem?_eq_getElem hi]
        simp [hi]
      · rw [List.getElem?_eq_none (by simp [holes] at hi ⊢; omega), List.getElem?_eq_none (by simp at hi ⊢; omega)]
    have hXl : ((holes D).map fun ys => xferTo xs ys P).length = D.length := by simp [holes]
    obtain ⟨X, hX⟩ : ∃ X, ((holes D).map fun ys => xferTo xs ys P) = X := ⟨_, rfl⟩
    rw [hX] at hpn hXl ⊢
    generalize hIA : (fun i : Nat => xferTo xs ((holes D)[i]?.getD []) P) = IA at hp0 hpn hpt hpa
    obtain ⟨nx, hNX⟩ : ∃ n, xs.length = n := ⟨_, rfl⟩
    obtain ⟨n, hN⟩ : ∃ n, D.length = n := ⟨_, rfl⟩
    obtain ⟨m, hM⟩ : ∃ m, P.length = m := ⟨_, rfl⟩
    obtain ⟨z, hZ⟩ : ∃ z, widthH (holes D) = z := ⟨_, rfl⟩
    rw [hNX] at p0 hW0
    simp only [hN] at hd hw
    simp only [hM, hNX] at hv
    simp only [hZ] at hw hv
    rw [hNX, hN, hM]
    rw [hN] at hpn hXl hD40
    simp only [hN] at hcp
    simp only [hM, hNX, hZ] at hl10
    simp only [hZ] at hat
    have HO := Lib.hid ho
    have HD := Lib.hid (hd _ b0)
    have HW := Lib.hid hw
    have HV := Lib.hid hv
    have B0 := Lib.hid b0
    have HCP := Lib.hid hcp
    have HL10 := Lib.hid hl10
    have HPT := Lib.hid hpt
    have HPA := Lib.hid hpa
    have HPF := Lib.hid hpf
    have HP0 := Lib.hid hp0
    have HPN := Lib.hid hpn
    have HXL := Lib.hid hXl
    have HAT := Lib.hid hat
    have HN := Lib.hid hN
    have HS0 := Lib.hid s0
    have HSB := Lib.hid b0.size
    subst hW0
    clear ho hd hw hv hcp hl10 hpt hpa hpf hp0 hpn hXl b0 s0 h h' hP e1 e2 e3 ec ea hNX hN hM hZ hn hn' hPn hl' hat hvt hPl hX hIA f1 f2 f3 f4
    go_enter Try.func32, Try.ntmps32
    go_wp2_with (first | (go_at_call 55; refine HO.out.mono ?_; rintro e w' ⟨rfl, rfl⟩) | fail)
    refine HD.out.mono ?_
    rintro e W9 ⟨rfl, hb⟩
    have B1 := Lib.hid (below_step B0.out hb)
    have hsz : w.heap.size < W9.heap.size := by have h1 := HS0.out; have h2 := hb.size; omega
    have q0 := cell_kept p0 hb
    clear hb p0
    go_wp2_with fail
    have HS : Hid (Below W9.drew.heap.size W9.drew W9.drew) := Below.refl _ _
    have HC : Hid (Below w.heap.size w W9.drew) := B1.out.drew
    go_region_held3 (fun W => W.cell? ⟨w.heap.size, 0, none⟩ = some (.slice A nx c))
      (first | exact cell_kept (w := W9.drew) q0 HS.out | go_keep)
      (first
        | (go_at_call 59
           refine (HW.out _ HC.out).mono ?_
           rintro e wz ⟨rfl, hb⟩
           have HC := Lib.hid (below_step HC.out hb)
           have HS := Lib.hid (below_step HS.out hb)
           clear hb)
        | (go_at_call 13
           refine (HV.out _ HC.out).mono ?_
           rintro e wz ⟨rfl, hb⟩
           have HC := Lib.hid (below_step HC.out hb)
           have HS := Lib.hid (below_step HS.out hb)
           clear hb))
    all_goals
      rename World => w3
      have q3 : w3.cell? ⟨w.heap.size, 0, none⟩ = some (.slice A nx c) := cell_kept (w := W9.drew) q0 HS.out
      have hsz3 : w.heap.size < w3.heap.size := Nat.lt_of_lt_of_le hsz HS.out.size
      go_wp2_with fail
      refine (HCP.out _ HC.out).mono ?_
      rintro e w4 hg
      obtain ⟨g, cap, E, rfl, hEl, hEh, hb, hown⟩ := copied_deck hg
      have q4 := cell_kept q3 hb
      have B4 := Lib.hid (below_step HC.out hb)
      have HEL := Lib.hid hEl
      have HEH := Lib.hid hEh
      have HOW := Lib.hid hown
      clear hg hb hEl hEh hown q3 q0 HS
      go_wp2
      go_loopw [9] (fun x wr => ∃ t : Nat, ∃ E : List CardV, t ≤ n ∧ x = .int .i64 t ∧ Hid (E.length = n) ∧ Hid (holes E = partL IA (holes D) t) ∧ Hid (Below w.heap.size w wr) ∧ Hid (OwnD wr w3.heap.size g E) ∧ Hid (wr.cell? ⟨w.heap.size, 0, none⟩ = some (.slice A nx c))) (fun x _ => n - (intOf x).toNat)
      case atStart => exact ⟨0, E, Nat.zero_le _, rfl, HEL, by show _ = _; rw [HP0.out]; exact HEH.out, B4, HOW, q4⟩
      case round =>
        obtain ⟨t, E, ht, rfl, HL, HH, HB, HOO, HQ⟩ := hrel
        by_cases hlt : t < n
        · obtain ⟨d, hd⟩ : ∃ d, D[t]? = some d := ⟨D[t]'(by rw [HN.out]; exact hlt), List.getElem?_eq_getElem _⟩
          have hdl := HAT.out t d hd
          obtain ⟨e, he⟩ : ∃ e, E[t]? = some e := ⟨E[t]'(by rw [HL.out]; exact hlt), List.getElem?_eq_getElem _⟩
          have hex : e.xs = d.xs := by
            have h1 := holesAt he
            rw [HH.out, HPA.out t d hd] at h1
            exact (Option.some.inj h1).symm
          obtain ⟨ge, ex, hea, hel, her⟩ := HOO.out.rows.each e (List.mem_of_getElem? he)
          have hec := HOO.out.cards t e he
          obtain ⟨cs, hcs⟩ := HOO.out.block
          have hne := row_not_cards her hcs
          unfold CardV.value at hec
          rw [hea] at hec
          have r0 := HQ.out
          have hcall := HL10.out e g t ge e.cap ex wr HB.out r0 hec her (by rw [hex]; exact hdl) (by omega) (fun q => hne q.symm)
          have hot := fun W (hg : wr.grownBy W (some ge)) (hr : Row W ge (xferTo xs e.xs P) ex) => OwnD.turn HOO.out he hea (xferTo_length _ _ _) hg hr
          have hhs := holes_set E t ⟨e.at_, e.cap, xferTo xs e.xs P⟩
          rw [HH.out] at hhs
          have hps := HPT.out t
          rw [HPF.out t d hd] at hps
          have hxe : xferTo xs e.xs P = xferTo xs d.xs P := by rw [hex]
          simp only [hxe] at hhs
          rw [hps] at hhs
          rw [← hxe] at hhs
          have HCALL := Lib.hid hcall
          have HOT := Lib.hid hot
          have HHS := Lib.hid hhs
          have HGE := Lib.hid (show w.heap.size < ge by omega)
          have HLS : Hid ((E.set t ⟨e.at_, e.cap, xferTo xs e.xs P⟩).length = n) := by show _ = _; rw [List.length_set]; exact HL.out
          have t0 : (0 : Int) ≤ (t : Int) := Int.natCast_nonneg _
          have t1 : (t : Int) < (n : Int) := by omega
          clear hd hdl he hex hea hel her hec hcs hne hcall hot hhs hps hxe
          go_wp2_with fail
          refine HCALL.out.mono ?_
          rintro e9 w9 ⟨rfl, hg9, hr9⟩
          have HB9 := Lib.hid (below_only HB.out hg9 (Nat.le_of_lt HGE.out))
          have HO9 := Lib.hid (HOT.out _ hg9 hr9)
          have q9 := cell_only hg9 r0 (by show w.heap.size ≠ ge; exact Nat.ne_of_lt HGE.out)
          clear hg9 hr9 r0
          go_wp2
          go_roundw
          case rel => exact ⟨t + 1, _, by omega, by go_num, HLS, HHS, HB9, HO9, q9⟩
          case measure => simp [intOf]; omega
        · obtain rfl : t = n := by omega
          have t1 : ¬ (t : Int) < (t : Int) := by omega
          have hh := HH.out
          rw [HPN.out] at hh
          have HHX := Lib.hid hh
          have HDA := Lib.hid (HOO.out.deckAt.widen HC.out.size (Nat.le_refl _) (Nat.le_refl _))
          clear hh
          go_wp2
          go_ret2
          exact ⟨some ⟨g, 0, none⟩, _, E, by rw [HXL.out]; rfl, HHX.out, HB.out, HDA.out⟩
end
end Go.Proofs.Ytamookdlbmbncaa
