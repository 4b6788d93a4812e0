/- spec.ReproduceDeck answers the deck with the copied columns: a contract. -/
import Derived.Test.YtamookdlbmbncaaReprD
import Derived.Test.YtamookdlbmbncaaOwnMem
namespace Go.Proofs.Ytamookdlbmbncaa
open Go.ChangeShapes Go.WideShapes Go.ChangeAt Go.RowKit

section
variable (A : Option Addr) (c : Nat) (D : List CardV) (B : Nat) (w : World) (h : Deck w B A D) (hB : B ≤ w.heap.size) (hn : D.length ≤ 1048576) (hl : ∀ d ∈ D, d.xs.length ≤ 1048576)
include h hB hn hl

set_option maxRecDepth 100000 in
set_option maxHeartbeats 4000000 in
theorem specReprD_any (AP : Option Addr) (cP : Nat) (P : List (Int × Int)) (BP : Nat) (x : Int) (hP : Copies w BP AP P) (hBP : BP ≤ w.heap.size) (hPn : P.length ≤ 1048576) :
    Calls Try.prog 26 #[.slice A D.length c, .slice AP P.length cP, .int .i64 x] w (GivesDC (reprA (holes D) P x) (reprC (holes D) P x) w) := by
  have hd := fun W (hW : Below w.heap.size w W) => l02Deck_any A c D B W (h.below (hW.mono hB)) (Nat.le_trans hB hW.size) hn hl
  have hw := fun W (hW : Below w.heap.size w W) => l07WidthOf_any A c D B W (h.below (hW.mono hB)) hn hl
  have hv := fun W (hW : Below w.heap.size w W) => specValidCopies_any AP cP P (widthH (holes D)) x BP W (hP.below (hW.mono hBP)) (Nat.le_trans hBP hW.size) hPn
  rcases reprC_cases (holes D) P x with ⟨e1, ec, ea⟩ | ⟨e1, e2, ec, ea⟩ | ⟨e1, e2, ec, ea⟩
  · rw [ec, ea]
    simp only [e1] at hd
    obtain ⟨n, hN⟩ : ∃ n, D.length = n := ⟨_, rfl⟩
    obtain ⟨m, hM⟩ : ∃ m, P.length = m := ⟨_, rfl⟩
    simp only [hN] at hd
    rw [hN, hM]
    have HD := Lib.hid hd
    clear hd hw hv h hl hP e1 ec ea hN hM hn hPn
    go_enter Try.func26, Try.ntmps26
    go_wp2_with (go_at_call 58; refine (HD.out _ (Below.refl _ _)).mono ?_; rintro e w1 ⟨rfl, hb⟩; have B1 := Lib.hid hb; clear hb)
    go_ret2
    exact ⟨none, 0, [], rfl, rfl, B1.out, DeckAt.nil (Nat.le_refl _)⟩
  · rw [ec, ea]
    simp only [e1] at hd
    simp only [e2] at hv
    obtain ⟨n, hN⟩ : ∃ n, D.length = n := ⟨_, rfl⟩
    obtain ⟨m, hM⟩ : ∃ m, P.length = m := ⟨_, rfl⟩
    obtain ⟨wd, hWD⟩ : ∃ wd, widthH (holes D) = wd := ⟨_, rfl⟩
    simp only [hN] at hd hw
    simp only [hM] at hv
    simp only [hWD] at hw hv
    rw [hN, hM]
    have HD := Lib.hid hd
    have HW := Lib.hid hw
    have HV := Lib.hid hv
    clear hd hw hv h hl hP e1 e2 ec ea hN hM hWD hn hPn
    go_enter Try.func26, Try.ntmps26
    go_wp2_with fail
    refine (HD.out _ (Below.refl _ _)).mono ?_
    rintro e w1 ⟨rfl, hb⟩
    have B1 := Lib.hid hb
    clear hb
    go_wp2_with fail
    refine (HW.out _ B1.out).mono ?_
    rintro e w2 ⟨rfl, hb⟩
    have B2 := Lib.hid (below_step B1.out hb)
    clear hb
    go_wp2_with fail
    refine (HV.out _ B2.out).mono ?_
    rintro e w3 ⟨rfl, hb⟩
    have B3 := Lib.hid (below_step B2.out hb)
    clear hb
    go_wp2
    go_ret2
    exact ⟨none, 0, [], rfl, rfl, B3.out, DeckAt.nil (Nat.le_refl _)⟩
  · rw [ec, ea]
    simp only [e1] at hd
    simp only [e2] at hv
    obtain ⟨f1, f2, f3, f4, hvt, hPl⟩ := validP_parts e2
    obtain ⟨z, rfl⟩ : ∃ z : Nat, x = z := ⟨x.toNat, by omega⟩
    have hn40 : D.length ≤ 40 := by
      have := deck_len e1
      rwa [holes_len] at this
    have hat : ∀ (k : Nat) (d : CardV), D[k]? = some d → d.xs.length = widthH (holes D) := fun k d hd => (deck_width e1 (holesAt hd)).2
    obtain ⟨ic, hi0, hz0, hz1, hz2⟩ := info_parts info_card
    obtain ⟨ob, hmk2, hrow⟩ := make_ints z (by omega)
    have hcp := fun (k : Nat) (d : CardV) (hk : D[k]? = some d) (pc oc po g : Nat) (W : World) (hW : Below w.heap.size w W) (h1 : W.cell? ⟨pc, oc, none⟩ = some (.slice d.at_ d.xs.length d.cap)) (hI : Ints W B d.at_ d.xs) (h2 : W.cell? ⟨po, 0, none⟩ = some (.slice (some ⟨g, 0, none⟩) z z)) (hR : Row W g (List.replicate z 0) []) (hg : w.heap.size ≤ g) (hpc : pc ≠ g) (hpo : po ≠ g) =>
      l10Copy_any pc oc po 0 d.at_ d.cap d.xs B g z (List.replicate z 0) [] AP cP P BP W h1 hI (by rw [List.length_replicate]; exact h2) hR (hP.below (hW.mono hBP)) (Nat.le_trans hB hg) (Nat.le_trans hBP hg) hpc hpo (-1) (by rw [List.length_replicate, hat k d hk]; exact hvt) hPl (by rw [hat k d hk]; omega)
    rw [Int.toNat_natCast]
    have hgt : ∀ (k : Nat) (d : CardV), D[k]? = some d → ((holes D).map fun xs => xferTo xs (List.replicate z 0) P)[k]? = some (xferTo d.xs (List.replicate z 0) P) ∧ (xferTo d.xs (List.replicate z 0) P).length = z := fun k d hd => by
      refine ⟨by rw [List.getElem?_map, holesAt hd]; rfl, ?_⟩
      rw [xferTo_length, List.length_replicate]
    have hHl : ((holes D).map fun xs => xferTo xs (List.replicate z 0) P).length = D.length := by rw [List.length_map, holes_len]
    obtain ⟨X, hX⟩ : ∃ X, ((holes D).map fun xs => xferTo xs (List.replicate z 0) P) = X := ⟨_, rfl⟩
    rw [hX] at hHl ⊢
    simp only [hX] at hgt
    obtain ⟨n, hN⟩ : ∃ n, D.length = n := ⟨_, rfl⟩
    obtain ⟨m, hM⟩ : ∃ m, P.length = m := ⟨_, rfl⟩
    obtain ⟨wd, hWD⟩ : ∃ wd, widthH (holes D) = wd := ⟨_, rfl⟩
    simp only [hN] at hd hw
    rw [hN] at hHl hn40
    simp only [hM] at hv hcp
    simp only [hWD] at hw hv
    rw [hN, hM]
    have HD := Lib.hid hd
    have HW := Lib.hid hw
    have HV := Lib.hid hv
    have HCP := Lib.hid hcp
    have HGT := Lib.hid hgt
    have HHL := Lib.hid hHl
    have HN := Lib.hid hN
    have H := Lib.hid h
    have HRW := Lib.hid hrow
    clear hd hw hv h hl hP e1 e2 ec ea hN hM hWD hn hPn hHl hX hat hvt hPl hgt hcp hrow
    go_enter Try.func26, Try.ntmps26
    go_wp2_with fail
    refine (HD.out _ (Below.refl _ _)).mono ?_
    rintro e w1 ⟨rfl, hb⟩
    have B1 := Lib.hid hb
    clear hb
    go_wp2_with fail
    refine (HW.out _ B1.out).mono ?_
    rintro e w2 ⟨rfl, hb⟩
    have B2 := Lib.hid (below_step B1.out hb)
    clear hb
    go_wp2_with fail
    refine (HV.out _ B2.out).mono ?_
    rintro e w3 ⟨rfl, hb⟩
    have B3 := Lib.hid (below_step B2.out hb)
    have HE0 := Lib.hid (empty_cards w3)
    clear hb HD HW HV
    go_wp2
    go_loopw [8, 9] (fun vo x wr => ∃ t cap : Nat, ∃ g : Nat, ∃ E : List CardV, t ≤ n ∧ x = .int .i64 t ∧ vo = .slice (some ⟨g, 0, none⟩) t cap ∧ Hid (E.length = t) ∧ Hid (holes E = X.take t) ∧ Hid (Below w3.heap.size w3 wr) ∧ Hid (wr.ownsRow w3.heap.size 33 1 (.slice (some ⟨g, 0, none⟩) t cap) t (E.map CardV.value)) ∧ Hid (NewRows wr w3.heap.size E)) (fun _ x _ => n - (intOf x).toNat)
    case atStart => exact ⟨0, 0, w3.heap.size, [], Nat.zero_le _, rfl, rfl, rfl, by show _ = _; simp [holes], below_box w3 _, HE0, NewRows.nil⟩
    case round =>
      obtain ⟨t, cap, g, E, ht, rfl, rfl, HE, HS, HB, HO, HR⟩ := hrel
      by_cases hlt : t < n
      · obtain ⟨d, hd⟩ : ∃ d, D[t]? = some d := ⟨D[t]'(by rw [HN.out]; exact hlt), List.getElem?_eq_getElem _⟩
        have BD := below_step B3.out HB.out
        have bsz : w.heap.size ≤ wr.heap.size := BD.size
        obtain ⟨b, off, rfl, hb, hcell⟩ := (H.out.below (BD.mono hB)) (by rw [HN.out]; omega)
        obtain ⟨hc, hi⟩ := hcell t d hd
        obtain ⟨y1, y2⟩ := HGT.out t d hd
        have bw1 := below_box wr ob
        have bw2 := below_step bw1 (below_box (wr.alloc ob) (.cells #[.slice (some ⟨wr.heap.size, 0, none⟩) z z] 33))
        have hr1 := (HRW.out wr).alloc (.cells #[.slice (some ⟨wr.heap.size, 0, none⟩) z z] 33)
        have s1 := new_cell (wr.alloc ob) (.slice (some ⟨wr.heap.size, 0, none⟩) z z) 33
        rw [World.size_alloc] at s1
        have hc2 := cell_kept hc bw2
        unfold CardV.value at hc2 hc
        have hcall := HCP.out t d hd b (off + t) (wr.heap.size + 1) wr.heap.size _ (below_step BD bw2) hc2 ((hi.below (bw2.mono (Nat.le_trans hB bsz)))) s1 hr1 bsz (by omega) (by omega)
        obtain ⟨Y, hY⟩ : ∃ Y, xferTo d.xs (List.replicate z 0) P = Y := ⟨_, rfl⟩
        rw [hY] at y1 y2 hcall
        have HH1 : Hid (∀ e : CardV, e.xs = Y → holes (E ++ [e]) = X.take (t + 1)) := fun e he => by
          rw [List.take_add_one, y1, ← HS.out]
          simp [holes, he]
        have hm2 := hmk2 wr
        have e0 : (wr.alloc ob).heap.size = wr.heap.size + 1 := World.size_alloc _ _
        obtain ⟨W1, hW1⟩ : ∃ W1, wr.alloc ob = W1 := ⟨_, rfl⟩
        rw [hW1] at hcall bw2 s1 hm2 e0
        obtain ⟨W2, hW2⟩ : ∃ W2, W1.alloc (.cells #[.slice (some ⟨wr.heap.size, 0, none⟩) z z] 33) = W2 := ⟨_, rfl⟩
        rw [hW2] at hcall bw2 s1
        have HCALL := Lib.hid hcall
        have HBW := Lib.hid bw2
        have HY2 := Lib.hid y2
        have E0 := Lib.hid e0
        have t0 : (0 : Int) ≤ (t : Int) := Int.natCast_nonneg _
        have t1 : (t : Int) < (n : Int) := by omega
        clear hcell hd hi hc hc2 hcall bw1 bw2 hr1 y1 y2 hY hmk2 hW1 BD bsz e0
        go_wp2_with fail
        rw [E0.out]
        refine HCALL.out.mono ?_
        rintro e w5 ⟨rfl, hg5, hrow5⟩
        have s5 := cell_only hg5 s1 (by show wr.heap.size + 1 ≠ wr.heap.size; omega)
        have hb3 := below_only HBW.out hg5 (Nat.le_refl _)
        have HB3 := Lib.hid (below_step HB.out hb3)
        have HR3 := Lib.hid (HR.out.more hb3 (e := ⟨some ⟨wr.heap.size, 0, none⟩, z, Y⟩) rfl (Nat.le_refl _) HB.out.size hrow5)
        have HO3 : Hid (w5.ownsRow w3.heap.size 33 1 (.slice (some ⟨g, 0, none⟩) t cap) t (E.map CardV.value)) := own_moved HO.out (fun i _ hi => hb3.block i hi)
        have hw3 : w3.heap.size ≤ w5.heap.size := HB3.out.size
        have hval : CardV.value ⟨some ⟨wr.heap.size, 0, none⟩, z, Y⟩ = .slice (some ⟨wr.heap.size, 0, none⟩) z z := by unfold CardV.value; rw [HY2.out]
        have HVAL := Lib.hid hval
        clear hb3 hrow5 hg5 hval
        go_wp2_with (at_builtin; refine wpList_append_own _ rfl _ _ 43 rfl w3.heap.size 33 ic (.agg #[.slice none 0 0]) 1 24 Try.underlying43 hi0 hz0 hz1 hz2 rfl (by decide) _ _ _ rfl (HO3.out.alloc _) ⟨w5.heap.size, 0, none⟩ 1 1 [.slice (some ⟨wr.heap.size, 0, none⟩) z z] rfl rfl (card_news w5 _) ?c2 ?c3 ?c4 ?c5 ?_; rotate_left 4; intro v9 w9 hown hgrow hiff; have hv9 : v9 ≠ .slice none 0 0 := (fun e => by have := (hiff.1 e).1; cases this); obtain ⟨ho, hbb, hrr⟩ := own_card (x := ⟨some ⟨wr.heap.size, 0, none⟩, z, Y⟩) (by rw [HVAL.out]; exact hown) (by rw [HVAL.out]; exact hgrow) HO3.out HB3.out (Nat.le_refl _) hw3 HR3.out; obtain ⟨g9, cap9, rfl⟩ := row_shape ho hv9; have HO9 := Lib.hid ho; have HB9 := Lib.hid hbb; have HR9 := Lib.hid hrr; clear hown hgrow hiff hv9 ho hbb hrr)
        case c2 => intro u hu; simp at hu; subst hu; rfl
        case c3 => unfold maxLen; omega
        case c4 => omega
        case c5 => simp; omega
        go_roundw
        case rel => exact ⟨t + 1, cap9, g9, E ++ [(⟨some ⟨wr.heap.size, 0, none⟩, z, Y⟩ : CardV)], by omega, by go_num, rfl, by show _ = _; simp [HE.out], HH1.out _ rfl, HB9, HO9, HR9⟩
        case measure => simp [intOf]; omega
      · obtain rfl : t = n := by omega
        have t1 : ¬ (t : Int) < (t : Int) := by omega
        have hh : holes E = X := by rw [HS.out, List.take_of_length_le (by rw [HHL.out]; omega)]
        have HHH := Lib.hid hh
        obtain ⟨A9, c9, e9, hda⟩ := own_deckAt HO.out HE.out HR.out (Nat.le_refl _)
        have HDA := Lib.hid (hda.widen B3.out.size (Nat.le_refl _) (Nat.le_refl _))
        have HA9 := Lib.hid e9
        have BB := Lib.hid (below_step B3.out HB.out)
        clear hh hda e9
        go_wp2
        go_ret2
        exact ⟨A9, c9, E, by rw [HA9.out, HHL.out]; rfl, HHH.out, BB.out, HDA.out⟩
end
end Go.Proofs.Ytamookdlbmbncaa
