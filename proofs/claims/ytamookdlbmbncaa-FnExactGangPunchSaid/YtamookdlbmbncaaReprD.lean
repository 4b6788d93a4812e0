/- spec.l07WidthOf; impl.ReproduceDeck and spec.ReproduceDeck answer the deck with the copied columns: contracts. -/
import Derived.Test.YtamookdlbmbncaaFeed
import Derived.Test.YtamookdlbmbncaaCopyI
namespace Go.Proofs.Ytamookdlbmbncaa
open Go.ChangeShapes Go.WideShapes Go.ChangeAt Go.RowKit

theorem l07WidthOf_any (A : Option Addr) (c : Nat) (D : List CardV) (B : Nat) (w : World) (h : Deck w B A D) (hn : D.length ≤ 1048576) (hl : ∀ d ∈ D, d.xs.length ≤ 1048576) :
    Calls Try.prog 59 #[.slice A D.length c] w fun e w' => e = .returned (.int .i64 (widthH (holes D))) ∧ Below w.heap.size w w' := by
  by_cases h0 : D.length = 0
  · have e : widthH (holes D) = 20 := by simp [widthH, holes, h0]
    rw [e, h0]
    clear h hl e h0 hn
    go_enter Try.func59, Try.ntmps59
    go_wp2
    go_ret
    exact ⟨rfl, Below.refl _ _⟩
  · obtain ⟨d, hd⟩ : ∃ d, D[0]? = some d := ⟨D[0]'(by omega), List.getElem?_eq_getElem _⟩
    have e : widthH (holes D) = d.xs.length := by
      rw [widthH, if_neg (by simpa [holes] using h0)]
      simp [firstZ, holes, hd]
    rw [e]
    obtain ⟨b, off, rfl, hb, hcell⟩ := h (by omega)
    have hc : w.cell? ⟨b, off, none⟩ = some d.value := (hcell 0 d hd).1
    have hm := hl d (List.mem_of_getElem? hd)
    unfold CardV.value at hc
    obtain ⟨n, hN⟩ : ∃ n, D.length = n := ⟨_, rfl⟩
    obtain ⟨m, hM⟩ : ∃ m, d.xs.length = m := ⟨_, rfl⟩
    rw [hM] at hc hm ⊢
    rw [hN] at hn h0 ⊢
    have i0 : ((n : Int) == 0) = false := by simp; omega
    have i1 : (0 : Int) < (n : Int) := by omega
    clear hcell hl e hd hb hN hM h
    go_enter Try.func59, Try.ntmps59
    go_wp2
    go_ret
    exact ⟨rfl, Below.refl _ _⟩

theorem reprA_length (H : List (List Int)) (P : List (Int × Int)) (x : Int) : (reprA H P x).length ≤ 1048576 := by
  rcases reprC_cases H P x with ⟨_, _, e⟩ | ⟨_, _, _, e⟩ | ⟨hd, _, _, e⟩ <;> rw [e]
  · simp
  · simp
  · have := deck_len hd
    simp; omega
theorem tot_le {H : List (List Int)} (hl : H.length ≤ 40) (h : ∀ xs ∈ H, xs.length ≤ 20) : totH H ≤ 1048576 := by
  have : ∀ (L : List (List Int)), (∀ xs ∈ L, xs.length ≤ 20) → totH L ≤ L.length * 20 := by
    intro L
    induction L with
    | nil => intro _; simp [totH]
    | cons x L ih =>
      intro h
      have h1 := h x (by simp)
      have h2 := ih fun y hy => h y (by simp [hy])
      simp only [totH, List.map_cons, List.sum_cons, List.length_cons, Nat.succ_mul] at h2 ⊢
      omega
  have := this H h
  omega
theorem reprA_total (H : List (List Int)) (P : List (Int × Int)) (x : Int) : totH (reprA H P x) ≤ 1048576 := by
  rcases reprC_cases H P x with ⟨_, _, e⟩ | ⟨_, _, _, e⟩ | ⟨hd, hv, _, e⟩ <;> rw [e]
  · simp [totH]
  · simp [totH]
  · have := deck_len hd
    obtain ⟨_, _, h1, h2, _⟩ := validP_parts hv
    refine tot_le (by simpa using this) fun xs hxs => ?_
    obtain ⟨y, _, rfl⟩ := List.mem_map.1 hxs
    rw [xferTo_length, List.length_replicate]
    omega

section
variable (A : Option Addr) (c : Nat) (D : List CardV) (B : Nat) (w : World) (h : Deck w B A D) (hB : B ≤ w.heap.size) (hn : D.length ≤ 1048576) (hl : ∀ d ∈ D, d.xs.length ≤ 1048576)
include h hB hn hl

set_option maxRecDepth 100000 in
set_option maxHeartbeats 2000000 in
theorem implReprD_any (AP : Option Addr) (cP : Nat) (P : List (Int × Int)) (BP : Nat) (x : Int) (hP : Copies w BP AP P) (hBP : BP ≤ w.heap.size) (hPn : P.length ≤ 1048576) :
    Calls Try.prog 28 #[.slice A D.length c, .slice AP P.length cP, .int .i64 x] w (GivesDC (reprA (holes D) P x) (reprC (holes D) P x) w) := by
  have hd := fun W (hW : Below w.heap.size w W) => implValidDeck_any A c D B W (h.below (hW.mono hB)) (Nat.le_trans hB hW.size) hn hl
  have hw := fun W (hW : Below w.heap.size w W) => widthOf_any A c D B W (h.below (hW.mono hB)) hn hl
  have hv := fun W (hW : Below w.heap.size w W) => implValidCopies_any AP cP P (widthH (holes D)) x BP W (hP.below (hW.mono hBP)) (Nat.le_trans hBP hW.size) hPn
  rcases reprC_cases (holes D) P x with ⟨e1, ec, ea⟩ | ⟨e1, e2, ec, ea⟩ | ⟨e1, e2, ec, ea⟩
  · rw [ec, ea]
    simp only [e1] at hd
    obtain ⟨n, hN⟩ : ∃ n, D.length = n := ⟨_, rfl⟩
    obtain ⟨m, hM⟩ : ∃ m, P.length = m := ⟨_, rfl⟩
    simp only [hN] at hd
    rw [hN, hM]
    have HD := Lib.hid hd
    clear hd hw hv h hl hP e1 ec ea hN hM hn hPn
    go_enter Try.func28, Try.ntmps28
    go_wp2_with (go_at_call 60; refine (HD.out _ (Below.refl _ _)).mono ?_; rintro e w1 ⟨rfl, hb⟩; have B1 := Lib.hid hb; clear hb)
    go_ret2
    exact ⟨none, 0, [], rfl, rfl, B1.out, DeckAt.nil (Nat.le_refl _)⟩
  · rw [ec, ea]
    simp only [e1] at hd
    simp only [e2] at hv
    obtain ⟨n, hN⟩ : ∃ n, D.length = n := ⟨_, rfl⟩
    obtain ⟨m, hM⟩ : ∃ m, P.length = m := ⟨_, rfl⟩
    obtain ⟨wd, hWD⟩ : ∃ wd, widthH (holes D) = wd := ⟨_, rfl⟩
    simp only [hN] at hd hw
    simp only [hM] at hv
    simp only [hWD] at hw hv
    rw [hN, hM]
    have HD := Lib.hid hd
    have HW := Lib.hid hw
    have HV := Lib.hid hv
    clear hd hw hv h hl hP e1 e2 ec ea hN hM hWD hn hPn
    go_enter Try.func28, Try.ntmps28
    go_wp2_with fail
    refine (HD.out _ (Below.refl _ _)).mono ?_
    rintro e w1 ⟨rfl, hb⟩
    have B1 := Lib.hid hb
    clear hb
    go_wp2_with fail
    refine (HW.out _ B1.out).mono ?_
    rintro e w2 ⟨rfl, hb⟩
    have B2 := Lib.hid (below_step B1.out hb)
    clear hb
    go_wp2_with fail
    refine (HV.out _ B2.out).mono ?_
    rintro e w3 ⟨rfl, hb⟩
    have B3 := Lib.hid (below_step B2.out hb)
    clear hb
    go_wp2
    go_ret2
    exact ⟨none, 0, [], rfl, rfl, B3.out, DeckAt.nil (Nat.le_refl _)⟩
  · rw [ec, ea]
    simp only [e1] at hd
    simp only [e2] at hv
    obtain ⟨f1, f2, f3, f4, hvt, hPl⟩ := validP_parts e2
    obtain ⟨z, rfl⟩ : ∃ z : Nat, x = z := ⟨x.toNat, by omega⟩
    have hn40 : D.length ≤ 40 := by
      have := deck_len e1
      rwa [holes_len] at this
    have hat : ∀ (k : Nat) (d : CardV), D[k]? = some d → d.xs.length = widthH (holes D) := fun k d hd => (deck_width e1 (holesAt hd)).2
    have hbl := fun W => blank_any A c D.length z W hn40 (by omega)
    have hbs := fun W (E : List CardV) (g : Nat) (hW : Below w.heap.size w W) (hE : E.length = D.length) (hDE : DeckAt W w.heap.size W.heap.size (some ⟨g, 0, none⟩) E) => beside_any (some ⟨g, 0, none⟩) A D.length c D.length D.length D.length E D W.heap.size B W hDE.deck (h.below (hW.mono hB)) (Nat.le_refl _) (Nat.le_trans hB hW.size) hE rfl (Nat.le_refl _) (Nat.le_refl _) (Or.inl rfl) hn40 hn40
    have hHl : ((holes D).map fun xs => xferTo xs (List.replicate (z : Int).toNat 0) P).length = D.length := by rw [List.length_map, holes_len]
    have hrp := fun W (E : List CardV) (gp lo : Nat) (hW : Below w.heap.size w W) (hE : E.length = D.length) (hz : holes E = List.replicate D.length (List.replicate z 0)) (hNR : NewRows W lo E) (hpr : PairRow W gp (D.take D.length) E D.length) => runPunched_any gp D.length (D.take D.length) E AP cP P BP ((holes D).map fun xs => xferTo xs (List.replicate (z : Int).toNat 0) P) W hpr (by simp) (by omega) (hP.below (hW.mono hBP)) (Nat.le_trans hBP hW.size) hn40 hPl (fun k r d hr hd => by
      rw [List.take_length] at hr
      obtain ⟨hk, _⟩ := List.getElem?_eq_some_iff.1 hr
      obtain ⟨bb, off, hA, hbb, hcell⟩ := h.below (hW.mono hB) (by omega)
      obtain ⟨gd, ex, g1, g2, g3⟩ := hNR.each d (List.mem_of_getElem? hd)
      have hdx : d.xs = List.replicate z 0 := by
        have := holesAt hd
        rw [hz, List.getElem?_replicate, if_pos hk] at this
        exact (Option.some.inj this).symm
      have hrw := hat k r hr
      refine ⟨(hcell k r hr).2.more (Nat.le_trans hB hW.size), ?_, ?_, ?_, ?_, ?_, ?_⟩
      · rw [g1]
        exact g3.ints.more g3.lt
      · rw [hrw, hdx, List.length_replicate]
        exact hvt
      · omega
      · rw [hdx, List.length_replicate]; omega
      · rw [hdx, List.length_replicate]; omega
      · rw [List.getElem?_map, holesAt hr, hdx, Int.toNat_natCast]
        rfl) hHl
    obtain ⟨X, hX⟩ : ∃ X, ((holes D).map fun xs => xferTo xs (List.replicate (z : Int).toNat 0) P) = X := ⟨_, rfl⟩
    rw [hX] at hHl ⊢
    simp only [hX] at hrp
    obtain ⟨n, hN⟩ : ∃ n, D.length = n := ⟨_, rfl⟩
    obtain ⟨m, hM⟩ : ∃ m, P.length = m := ⟨_, rfl⟩
    obtain ⟨wd, hWD⟩ : ∃ wd, widthH (holes D) = wd := ⟨_, rfl⟩
    simp only [hN] at hd hw hbl hbs hrp hHl
    simp only [hM] at hv hrp
    simp only [hWD] at hw hv
    rw [hN, hM]
    have HD := Lib.hid hd
    have HW := Lib.hid hw
    have HV := Lib.hid hv
    have HBL := Lib.hid hbl
    have HBS := Lib.hid hbs
    have HRP := Lib.hid hrp
    have HHL := Lib.hid hHl
    clear hd hw hv h hl hP e1 e2 ec ea hN hM hWD hn hPn hbl hbs hrp hHl hX hat hvt hPl hn40
    go_enter Try.func28, Try.ntmps28
    go_wp2_with fail
    refine (HD.out _ (Below.refl _ _)).mono ?_
    rintro e w1 ⟨rfl, hb⟩
    have B1 := Lib.hid hb
    clear hb
    go_wp2_with fail
    refine (HW.out _ B1.out).mono ?_
    rintro e w2 ⟨rfl, hb⟩
    have B2 := Lib.hid (below_step B1.out hb)
    clear hb
    go_wp2_with fail
    refine (HV.out _ B2.out).mono ?_
    rintro e w3 ⟨rfl, hb⟩
    have B3 := Lib.hid (below_step B2.out hb)
    clear hb
    go_wp2_with fail
    refine (HBL.out _).mono ?_
    rintro e w4 hg
    obtain ⟨g, E, rfl, hEl, hEz, hb, hg1, hg2, hnr⟩ := hg
    have hda := hnr.deckAt (g := g) (fun _ => ⟨hg1, hg2⟩) (fun i d hd => by rw [cards_cell hg2 i, cellsOf_get E n i d hd])
    have B4 := Lib.hid (below_step B3.out hb)
    have HBS2 := Lib.hid (HBS.out w4 E g B4.out hEl (hda.widen B3.out.size (Nat.le_refl _) (Nat.le_refl _)))
    have HEL := Lib.hid hEl
    have HEZ := Lib.hid hEz
    have HNR := Lib.hid hnr
    clear hb hg1 hg2 hnr hda hEl hEz
    go_wp2_with fail
    refine HBS2.out.mono ?_
    rintro e w5 ⟨gp, rfl, hgp, hb, hpr⟩
    have B5 := Lib.hid (below_step B4.out hb)
    have HRP2 := Lib.hid (HRP.out w5 E gp w3.heap.size B5.out HEL.out HEZ.out (HNR.out.later hb) hpr)
    clear hb hgp hpr
    go_wp2_with fail
    refine HRP2.out.mono ?_
    rintro e w6 hg
    obtain ⟨g6, E6, rfl, hEl6, hE6, hb6, hda6⟩ := hg.deck
    have B6 := Lib.hid (below_step B5.out hb6)
    have HDA := Lib.hid (hda6.widen B5.out.size (Nat.le_refl _) (Nat.le_refl _))
    have HE6 := Lib.hid hE6
    clear hg hb6 hda6 hEl6 hE6
    go_wp2
    go_ret2
    exact ⟨some ⟨g6, 0, none⟩, n, E6, by rw [HHL.out]; rfl, HE6.out, B6.out, HDA.out⟩
end
end Go.Proofs.Ytamookdlbmbncaa
