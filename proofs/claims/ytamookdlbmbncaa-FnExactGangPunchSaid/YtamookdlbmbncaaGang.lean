/- impl.GangPunch and spec.GangPunch answer the deck with copies from a master: contracts. -/
import Derived.Test.YtamookdlbmbncaaRepeat
import Derived.Test.YtamookdlbmbncaaCmpK
import Derived.Test.YtamookdlbmbncaaInterMath
import Derived.Test.YtamookdlbmbncaaOwnD
namespace Go.Proofs.Ytamookdlbmbncaa
open Go.ChangeShapes Go.WideShapes Go.ChangeAt Go.RowKit

theorem gangC_cases (m : List Int) (H : List (List Int)) (P : List (Int × Int)) : (okB m = false ∧ gangC m H P = 1 ∧ gangA m H P = []) ∨ (okB m = true ∧ deckB H = false ∧ gangC m H P = 1 ∧ gangA m H P = []) ∨ (okB m = true ∧ deckB H = true ∧ validP P m.length (widthH H) = false ∧ gangC m H P = 2 ∧ gangA m H P = []) ∨ (okB m = true ∧ deckB H = true ∧ validP P m.length (widthH H) = true ∧ gangC m H P = 0 ∧ gangA m H P = H.map fun xs => xferTo m xs P) := by
  unfold gangA gangC
  cases okB m <;> cases deckB H <;> cases validP P m.length (widthH H) <;> simp
theorem gang_checks (m : List Int) (H : List (List Int)) (P : List (Int × Int)) : decksC [m] H P = gangC m H P := by
  unfold decksC gangC
  rw [deckB_one, widthH_one]
theorem gangA_length (m : List Int) (H : List (List Int)) (P : List (Int × Int)) : (gangA m H P).length ≤ 1048576 := by
  rcases gangC_cases m H P with ⟨_, _, e⟩ | ⟨_, _, _, e⟩ | ⟨_, _, _, _, e⟩ | ⟨_, h, _, _, e⟩ <;> rw [e]
  · simp
  · simp
  · simp
  · have := deck_len h
    simp; omega
theorem gangA_total (m : List Int) (H : List (List Int)) (P : List (Int × Int)) : totH (gangA m H P) ≤ 1048576 := by
  rcases gangC_cases m H P with ⟨_, _, e⟩ | ⟨_, _, _, e⟩ | ⟨_, _, _, _, e⟩ | ⟨_, h, _, _, e⟩ <;> rw [e]
  · simp [totH]
  · simp [totH]
  · simp [totH]
  · have := deck_len h
    refine tot_le (by simpa using this) fun xs hxs => ?_
    obtain ⟨y, hy, rfl⟩ := List.mem_map.1 hxs
    rw [xferTo_length]
    obtain ⟨i, hi⟩ := List.mem_iff_getElem?.1 hy
    exact (okB_parts (deck_width h hi).1).2

section
variable (A : Option Addr) (c : Nat) (xs : List Int) (B : Nat) (A' : Option Addr) (c' : Nat) (D : List CardV) (B' : Nat) (AP : Option Addr) (cP : Nat) (P : List (Int × Int)) (BP : Nat) (w : World) (h : Ints w B A xs) (h' : Deck w B' A' D) (hP : Copies w BP AP P) (hB : B ≤ w.heap.size) (hB' : B' ≤ w.heap.size) (hBP : BP ≤ w.heap.size) (hn : xs.length ≤ 1048576) (hn' : D.length ≤ 1048576) (hPn : P.length ≤ 1048576) (hl' : ∀ d ∈ D, d.xs.length ≤ 1048576)
include h h' hP hB hB' hBP hn hn' hPn hl'

set_option maxRecDepth 100000 in
set_option maxHeartbeats 4000000 in
theorem implGang_any : Calls Try.prog 33 #[.agg #[.slice A xs.length c], .slice A' D.length c', .slice AP P.length cP] w (GivesDC (gangA xs (holes D) P) (gangC xs (holes D) P) w) := by
  obtain ⟨W0, hW0⟩ : ∃ W0, w.alloc (.cells #[.slice A xs.length c] 33) = W0 := ⟨_, rfl⟩
  have b0 : Below w.heap.size w W0 := by rw [← hW0]; exact below_box w _
  have p0 : W0.cell? ⟨w.heap.size, 0, none⟩ = some (.slice A xs.length c) := by rw [← hW0]; simp
  have hd1 := one_deck (c := c) (h.below (b0.mono hB)) (Nat.le_trans hB b0.size)
  have b1 := below_box W0 (.cells #[.slice A xs.length c] 33)
  have b01 := below_step b0 b1
  have s0 : W0.heap.size = w.heap.size + 1 := by rw [← hW0]; simp
  have s1 : (W0.alloc (.cells #[.slice A xs.length c] 33)).heap.size = W0.heap.size + 1 := World.size_alloc _ _
  have hc := checkCopies_any _ 1 [⟨A, c, xs⟩] _ A' c' D B' AP cP P BP _ hd1 (h'.below (b01.mono hB')) (hP.below (b01.mono hBP)) (by omega) (Nat.le_trans hB' b01.size) (Nat.le_trans hBP b01.size) (by simp) hn' hPn (fun d hd => by obtain rfl := List.mem_singleton.1 hd; exact hn) hl'
  have q0 := cell_kept p0 b1
  have hh1 : holes [(⟨A, c, xs⟩ : CardV)] = [xs] := rfl
  have hl1 : [(⟨A, c, xs⟩ : CardV)].length = 1 := rfl
  rw [hh1, hl1, gang_checks] at hc
  by_cases e0 : gangC xs (holes D) P = 0
  · rcases gangC_cases xs (holes D) P with ⟨_, e, _⟩ | ⟨_, _, e, _⟩ | ⟨_, _, _, e, _⟩ | ⟨o1, o2, o3, _, ea⟩
    · omega
    · omega
    · omega
    obtain ⟨f1, f2, f3, f4, hvt, hPl⟩ := validP_parts o3
    have hD40 : D.length ≤ 40 := by have := deck_len o2; rwa [holes_len] at this
    have hat : ∀ (i : Nat) (d : CardV), D[i]? = some d → d.xs.length = widthH (holes D) := fun i d hd => (deck_width o2 (holesAt hd)).2
    have hrep := fun (b : Nat) W (hx : W.cell? ⟨b, 0, none⟩ = some (.slice A xs.length c)) => repeat_any b (.slice A xs.length c) rfl D.length W hx hD40
    have hDR : ∀ (g : Nat) (W : World), Below w.heap.size w W → W.heap[g]? = some (.cells (reps (.slice A xs.length c) D.length D.length).toArray 33 (0, 0)) → Deck W W.heap.size (some ⟨g, 0, none⟩) (List.replicate D.length ⟨A, c, xs⟩) := fun g W hW hg _ => by
      refine ⟨g, 0, rfl, ?_, fun i d hd => ?_⟩
      · rcases Nat.lt_or_ge g W.heap.size with hlt | hge
        · exact hlt
        · rw [Array.getElem?_eq_none hge] at hg
          cases hg
      · obtain ⟨hi, hd2⟩ := List.getElem?_eq_some_iff.1 hd
        rw [List.length_replicate] at hi
        rw [List.getElem_replicate] at hd2
        subst hd2
        rw [Nat.zero_add]
        refine ⟨?_, (h.below (hW.mono hB)).more (Nat.le_trans hB hW.size)⟩
        rw [cell_of_row W g i _ _ _ hg]
        simp only [List.getElem?_toArray]
        exact reps_get hi
    have hbs := fun W (g : Nat) (hW : Below w.heap.size w W) (hR : Deck W W.heap.size (some ⟨g, 0, none⟩) (List.replicate D.length ⟨A, c, xs⟩)) => beside_any A' (some ⟨g, 0, none⟩) c' D.length D.length D.length D.length D (List.replicate D.length ⟨A, c, xs⟩) B' W.heap.size W (h'.below (hW.mono hB')) hR (Nat.le_trans hB' hW.size) (Nat.le_refl _) rfl (by simp) (Nat.le_refl _) (Nat.le_refl _) (Or.inl rfl) hD40 hD40
    have hrp := fun W (gp : Nat) (hW : Below w.heap.size w W) (hpr : PairRow W gp ((List.replicate D.length (⟨A, c, xs⟩ : CardV)).take D.length) D D.length) => runPunched_any gp D.length ((List.replicate D.length (⟨A, c, xs⟩ : CardV)).take D.length) D AP cP P BP ((holes D).map fun ys => xferTo xs ys P) W hpr (by simp) (Nat.le_refl _) (hP.below (hW.mono hBP)) (Nat.le_trans hBP hW.size) hD40 hPl (fun t r d hr hd => by
      obtain ⟨ht, _⟩ := List.getElem?_eq_some_iff.1 hd
      rw [List.getElem?_take_of_lt ht, List.getElem?_replicate, if_pos ht] at hr
      obtain rfl := Option.some.inj hr
      obtain ⟨_, _, _, _, hcell⟩ := h'.below (hW.mono hB') (by omega)
      have hxl := (okB_parts o1).2
      refine ⟨(h.below (hW.mono hB)).more (Nat.le_trans hB hW.size), (hcell t d hd).2.more (Nat.le_trans hB' hW.size), ?_, hxl, by rw [hat t d hd]; omega, by rw [hat t d hd]; omega, ?_⟩
      · rw [hat t d hd]; exact hvt
      · rw [List.getElem?_map, holesAt hd]; rfl) (by simp [holes])
    have hXl : ((holes D).map fun ys => xferTo xs ys P).length = D.length := by simp [holes]
    rw [e0] at hc ⊢
    rw [ea]
    obtain ⟨X, hX⟩ : ∃ X, ((holes D).map fun ys => xferTo xs ys P) = X := ⟨_, rfl⟩
    rw [hX] at hXl ⊢
    simp only [hX] at hrp
    obtain ⟨R, hR⟩ : ∃ R, List.replicate D.length (⟨A, c, xs⟩ : CardV) = R := ⟨_, rfl⟩
    simp only [hR] at hDR hbs hrp
    obtain ⟨nx, hNX⟩ : ∃ n, xs.length = n := ⟨_, rfl⟩
    obtain ⟨n, hN⟩ : ∃ n, D.length = n := ⟨_, rfl⟩
    obtain ⟨m, hM⟩ : ∃ m, P.length = m := ⟨_, rfl⟩
    rw [hN, hM] at hc
    rw [hNX] at q0 b01 hW0
    rw [hN] at hXl
    simp only [hN, hNX] at hrep hDR
    simp only [hN] at hbs hrp
    simp only [hM] at hrp
    rw [hNX] at hc
    rw [hNX, hN, hM]
    obtain ⟨W1, hW1⟩ : ∃ W1, W0.alloc (.cells #[.slice A nx c] 33) = W1 := ⟨_, rfl⟩
    rw [hW1] at hc q0 b01
    rw [s0] at hc
    have HC := Lib.hid hc
    have HREP := Lib.hid hrep
    have HDR := Lib.hid hDR
    have HBS := Lib.hid hbs
    have HRP := Lib.hid hrp
    have HXL := Lib.hid hXl
    have B01 := Lib.hid b01
    subst hW0
    clear hc hrep hDR hbs hrp hXl b0 b1 b01 p0 hd1 h h' hP e0 o1 o2 o3 ea hX hR hNX hN hM s0 s1 hn hn' hPn hl' hat hvt hPl hD40 f1 f2 f3 f4
    go_enter Try.func33, Try.ntmps33
    go_wp2_with fail
    refine HC.out.mono ?_
    rintro e w2 ⟨rfl, hb⟩
    have B2 := Lib.hid (below_step B01.out hb)
    have r0 := cell_kept q0 hb
    have bx := below_box w2 (.cells #[.slice A nx c] 33)
    have hcell := new_cell w2 (.slice A nx c) 33
    have B3 := Lib.hid (below_step B2.out bx)
    have hrp2 := HREP.out w2.heap.size _ hcell
    obtain ⟨W3, hW3⟩ : ∃ W3, w2.alloc (.cells #[.slice A nx c] 33) = W3 := ⟨_, rfl⟩
    rw [hW3] at B3 hrp2
    have HREP2 := Lib.hid hrp2
    clear hb bx hcell hrp2
    go_wp2_with fail
    refine HREP2.out.mono ?_
    rintro e w4 ⟨g, rfl, _, hb, hg⟩
    have B4 := Lib.hid (below_step B3.out hb)
    have HDK := Lib.hid (HDR.out g w4 B4.out hg)
    have HBS2 := Lib.hid (HBS.out w4 g B4.out HDK.out)
    clear hb hg hW3
    go_wp2_with fail
    refine HBS2.out.mono ?_
    rintro e w5 ⟨gp, rfl, _, hb, hpr⟩
    have B5 := Lib.hid (below_step B4.out hb)
    have HRP2 := Lib.hid (HRP.out w5 gp B5.out hpr)
    clear hb hpr
    go_wp2_with fail
    refine HRP2.out.mono ?_
    rintro e w6 hg
    obtain ⟨g6, E6, rfl, hEl6, hE6, hb6, hda6⟩ := hg.deck
    have B6 := Lib.hid (below_step B5.out hb6)
    have HDA := Lib.hid (hda6.widen B5.out.size (Nat.le_refl _) (Nat.le_refl _))
    have HE6 := Lib.hid hE6
    clear hg hb6 hda6 hEl6 hE6
    go_wp2
    go_ret2
    exact ⟨some ⟨g6, 0, none⟩, n, E6, by rw [HXL.out]; rfl, HE6.out, B6.out, HDA.out⟩
  · have ea : gangA xs (holes D) P = [] := if_neg e0
    obtain ⟨k, hk⟩ : ∃ k, gangC xs (holes D) P = k := ⟨_, rfl⟩
    rw [hk] at hc e0
    rw [ea, hk]
    obtain ⟨nx, hNX⟩ : ∃ n, xs.length = n := ⟨_, rfl⟩
    obtain ⟨n, hN⟩ : ∃ n, D.length = n := ⟨_, rfl⟩
    obtain ⟨m, hM⟩ : ∃ m, P.length = m := ⟨_, rfl⟩
    rw [hN, hM, hNX] at hc
    rw [hNX] at b01 hW0
    rw [hNX, hN, hM]
    have g1 : (k != 0) = true := by simpa using e0
    obtain ⟨W1, hW1⟩ : ∃ W1, W0.alloc (.cells #[.slice A nx c] 33) = W1 := ⟨_, rfl⟩
    rw [hW1] at hc b01
    rw [s0] at hc
    have HC := Lib.hid hc
    have B01 := Lib.hid b01
    subst hW0
    clear hc b0 b1 b01 p0 q0 hd1 h h' hP e0 ea hk hNX hN hM s0 s1 hn hn' hPn hl'
    go_enter Try.func33, Try.ntmps33
    go_wp2_with fail
    refine HC.out.mono ?_
    rintro e w2 ⟨rfl, hb⟩
    have B2 := Lib.hid (below_step B01.out hb)
    clear hb
    go_wp2
    go_ret2
    exact ⟨none, 0, [], rfl, rfl, B2.out, DeckAt.nil (Nat.le_refl _)⟩
end
end Go.Proofs.Ytamookdlbmbncaa
