/- impl.ReproduceCard and spec.ReproduceCard answer a card with the copied columns: contracts. -/
import Derived.Test.YtamookdlbmbncaaReprS
namespace Go.Proofs.Ytamookdlbmbncaa
open Go.ChangeShapes Go.WideShapes Go.ChangeAt Go.RowKit

theorem deckB_one (xs : List Int) : deckB [xs] = okB xs := by
  unfold deckB
  simp [goodB, firstZ]
theorem widthH_one (xs : List Int) : widthH [xs] = xs.length := by simp [widthH, firstZ]
/-- one card in a list of one's own -/
theorem one_deck {w : World} {A : Option Addr} {c B : Nat} {xs : List Int} (h : Ints w B A xs) (hB : B ≤ w.heap.size) : Deck (w.alloc (.cells #[.slice A xs.length c] 33)) (w.heap.size + 1) (some ⟨w.heap.size, 0, none⟩) [⟨A, c, xs⟩] := fun _ => by
  refine ⟨w.heap.size, 0, rfl, by omega, fun i d hd => ?_⟩
  match i, hd with
  | 0, hd =>
    obtain rfl : (⟨A, c, xs⟩ : CardV) = d := by simpa using hd
    exact ⟨new_cell w _ _, (h.alloc hB _).more (by omega)⟩
theorem reprC_one (xs : List Int) (P : List (Int × Int)) (x : Int) : reprC [xs] P x = if okB xs = false then 1 else if validP P xs.length x = false then 2 else 0 := by
  rw [reprC, deckB_one, widthH_one]

/-- a card of one's own, or none, and a code -/
def GivesCC (ys : List Int) (code : Int) (w : World) (e : Ending) (w' : World) : Prop :=
  (code = 0 ∧ GivesCard ys w e w') ∨ (code ≠ 0 ∧ GivesCode code w e w')

section
variable (A : Option Addr) (c : Nat) (xs : List Int) (B : Nat) (AP : Option Addr) (cP : Nat) (P : List (Int × Int)) (BP : Nat) (x : Int) (w : World) (h : Ints w B A xs) (hP : Copies w BP AP P) (hB : B ≤ w.heap.size) (hBP : BP ≤ w.heap.size) (hn : xs.length ≤ 1048576) (hPn : P.length ≤ 1048576)
include h hP hB hBP hn hPn

set_option maxHeartbeats 1000000 in
theorem implReprCard_any : Calls Try.prog 20 #[.agg #[.slice A xs.length c], .slice AP P.length cP, .int .i64 x] w (GivesCC (xferTo xs (List.replicate x.toNat 0) P) (reprC [xs] P x) w) := by
  have b0 := (below_box w (.cells #[.slice A xs.length c] 33)).alloc (by simp) (.cells #[.slice none 0 0] 33)
  have b1 := below_step b0 (below_box ((w.alloc (.cells #[.slice A xs.length c] 33)).alloc (.cells #[.slice none 0 0] 33)) (.cells #[.slice A xs.length c] 33))
  have hd0 := one_deck (c := c) (h.below (b0.mono hB)) (by simp; omega)
  have hr := implReprD_any _ 1 [⟨A, c, xs⟩] _ _ hd0 (by simp) (by simp) (fun d hd => by obtain rfl := List.mem_singleton.1 hd; exact hn) AP cP P BP x (hP.below (b1.mono hBP)) (by simp; omega) hPn
  have hh : holes [(⟨A, c, xs⟩ : CardV)] = [xs] := rfl
  rw [hh] at hr
  have hs0 : ((w.alloc (.cells #[.slice A xs.length c] 33)).alloc (.cells #[.slice none 0 0] 33)).heap.size = w.heap.size + 2 := by simp
  rw [hs0] at hr
  have p1 : ((w.alloc (.cells #[.slice A xs.length c] 33)).alloc (.cells #[.slice none 0 0] 33)).cell? ⟨w.heap.size + 1, 0, none⟩ = some (.slice none 0 0) := by simp [go_sem]
  have f1 : ((w.alloc (.cells #[.slice A xs.length c] 33)).alloc (.cells #[.slice none 0 0] 33)).frozen? ⟨w.heap.size + 1, 0, none⟩ = false := by simp [go_sem]
  have p2 := cell_kept p1 (below_box _ (.cells #[.slice A xs.length c] 33))
  have f2 := frozen_kept p1 f1 (below_box _ (.cells #[.slice A xs.length c] 33))
  obtain ⟨n, hN⟩ : ∃ n, xs.length = n := ⟨_, rfl⟩
  obtain ⟨m, hM⟩ : ∃ m, P.length = m := ⟨_, rfl⟩
  have hl1 : [(⟨A, c, xs⟩ : CardV)].length = 1 := rfl
  have hlen : (xferTo xs (List.replicate x.toNat 0) P).length = x.toNat := by rw [xferTo_length, List.length_replicate]
  by_cases e : reprC [xs] P x = 0
  · have ha : reprA [xs] P x = [xferTo xs (List.replicate x.toNat 0) P] := by rw [reprA, if_pos e]; rfl
    rw [ha, e] at hr
    rw [e]
    obtain ⟨Y, hY⟩ : ∃ Y, xferTo xs (List.replicate x.toNat 0) P = Y := ⟨_, rfl⟩
    rw [hY] at hr hlen ⊢
    unfold GivesDC at hr
    rw [hl1, hN, hM] at hr
    rw [hN] at b1 p2 f2
    rw [hN, hM]
    have HR := Lib.hid hr
    have B1 := Lib.hid b1
    obtain ⟨W1, hW1⟩ : ∃ W1, ((w.alloc (.cells #[.slice A n c] 33)).alloc (.cells #[.slice none 0 0] 33)).alloc (.cells #[.slice A n c] 33) = W1 := ⟨_, rfl⟩
    rw [hW1] at HR B1 p2 f2
    have hsW : w.heap.size + 2 ≤ W1.heap.size := by rw [← hW1]; simp
    clear hr b0 b1 hd0 h hP e ha hY hh hs0 hl1 hN hM p1 f1
    go_enter Try.func20, Try.ntmps20
    go_wp2_with fail
    refine HR.out.mono ?_
    rintro e w2 ⟨A2, cap, E, rfl, hE, hb, hda⟩
    have hE1 : E.length = 1 := by have := congrArg List.length hE; rwa [holes_len] at this
    obtain ⟨d, hd⟩ : ∃ d, E[0]? = some d := ⟨E[0]'(by omega), List.getElem?_eq_getElem _⟩
    have hdx : d.xs = Y := by
      have := holesAt hd
      rw [hE] at this
      simpa using this.symm
    obtain ⟨g, rfl, g1, g2, g3⟩ := hda.top (by omega)
    obtain ⟨gd, ex, r1, r2, r3, _, r5⟩ := hda.rows 0 d hd
    have c1 := g3 0 d hd
    have q2 := cell_kept p2 hb
    have qf := frozen_kept p2 f2 hb
    have B2 := Lib.hid (below_step B1.out hb)
    have HRW := Lib.hid r5
    have hgd : w.heap.size + 2 ≤ gd := by omega
    unfold CardV.value at c1
    rw [r1, hdx] at c1
    rw [hdx] at HRW
    obtain ⟨ly, hly⟩ : ∃ l, Y.length = l := ⟨_, rfl⟩
    rw [hly] at c1
    have HLY := Lib.hid hly
    have HLN := Lib.hid hlen
    clear hE hb hda hd hdx g3 r5 hE1 r1 r3 g1 g2 hly r2 hlen
    go_wp2
    refine bodyPost_ret (v := .tuple #[.agg #[.slice (some ⟨gd, 0, none⟩) ly d.cap], .int .i64 0]) (by simp [results, Try.results20, go_sem, q2]) rfl (Or.inl ⟨rfl, gd, d.cap, ex, by rw [HLY.out], by omega, ?_, ?_⟩)
    · exact B2.out.setCell (by simp) _
    · exact HRW.out.far (by simp; omega) _
  · have ha : reprA [xs] P x = [] := by rw [reprA, if_neg e]
    obtain ⟨k, hk⟩ : ∃ k, reprC [xs] P x = k := ⟨_, rfl⟩
    rw [ha, hk] at hr
    rw [hk] at e ⊢
    obtain ⟨Y, hY⟩ : ∃ Y, xferTo xs (List.replicate x.toNat 0) P = Y := ⟨_, rfl⟩
    rw [hY]
    unfold GivesDC at hr
    rw [hl1, hN, hM] at hr
    rw [hN] at b1 p2 f2
    rw [hN, hM]
    have HR := Lib.hid hr
    have B1 := Lib.hid b1
    have g1 : (k != 0) = true := by simpa using e
    have HE := Lib.hid e
    clear hr b0 b1 hd0 h hP e ha hY hh hs0 hl1 hN hM p1 f1 hk hlen
    go_enter Try.func20, Try.ntmps20
    go_wp2_with fail
    refine HR.out.mono ?_
    rintro e w2 ⟨A2, cap, E, rfl, _, hb, _⟩
    have q2 := cell_kept p2 hb
    have qf := frozen_kept p2 f2 hb
    have B2 := Lib.hid (below_step B1.out hb)
    clear hb
    go_wp2
    refine bodyPost_ret (v := .tuple #[.agg #[.slice none 0 0], .int .i64 k]) (by simp [results, Try.results20, go_sem, q2]) rfl (Or.inr ⟨HE.out, rfl, ?_⟩)
    exact B2.out.setCell (by simp) _
set_option maxRecDepth 100000 in
set_option maxHeartbeats 2000000 in
theorem specReprCard_any : Calls Try.prog 18 #[.agg #[.slice A xs.length c], .slice AP P.length cP, .int .i64 x] w (GivesCC (xferTo xs (List.replicate x.toNat 0) P) (reprC [xs] P x) w) := by
  have b0 := (below_box w (.cells #[.slice A xs.length c] 33)).alloc (by simp) (.cells #[.slice none 0 0] 33)
  have i0 := h.below (b0.mono hB)
  have p0 : ((w.alloc (.cells #[.slice A xs.length c] 33)).alloc (.cells #[.slice none 0 0] 33)).cell? ⟨w.heap.size, 0, none⟩ = some (.slice A xs.length c) := by simp
  have p1 : ((w.alloc (.cells #[.slice A xs.length c] 33)).alloc (.cells #[.slice none 0 0] 33)).cell? ⟨w.heap.size + 1, 0, none⟩ = some (.slice none 0 0) := by simp [go_sem]
  have f1 : ((w.alloc (.cells #[.slice A xs.length c] 33)).alloc (.cells #[.slice none 0 0] 33)).frozen? ⟨w.heap.size + 1, 0, none⟩ = false := by simp [go_sem]
  have ho := l02Ok_any A c xs B w.heap.size 0 _ p0 i0 hn
  have hv := fun W (hW : Below w.heap.size w W) => specValidCopies_any AP cP P xs.length x BP W (hP.below (hW.mono hBP)) (Nat.le_trans hBP hW.size) hPn
  have hc := reprC_one xs P x
  have hs0 : ((w.alloc (.cells #[.slice A xs.length c] 33)).alloc (.cells #[.slice none 0 0] 33)).heap.size = w.heap.size + 2 := by simp
  have hlen : (xferTo xs (List.replicate x.toNat 0) P).length = x.toNat := by rw [xferTo_length, List.length_replicate]
  obtain ⟨n, hN⟩ : ∃ n, xs.length = n := ⟨_, rfl⟩
  obtain ⟨m, hM⟩ : ∃ m, P.length = m := ⟨_, rfl⟩
  cases e1 : okB xs
  · rw [e1, if_pos rfl] at hc
    rw [e1] at ho
    rw [hc]
    obtain ⟨Y, hY⟩ : ∃ Y, xferTo xs (List.replicate x.toNat 0) P = Y := ⟨_, rfl⟩
    rw [hY]
    rw [hN] at ho b0 p1 f1
    rw [hN, hM]
    have HO := Lib.hid ho
    have B0 := Lib.hid b0
    clear ho hv hc h hP hlen hY i0 p0 hs0 hN hM e1 b0
    go_enter Try.func18, Try.ntmps18
    go_wp2_with (go_at_call 55; refine HO.out.mono ?_; rintro e w' ⟨rfl, rfl⟩)
    refine bodyPost_ret (v := .tuple #[.agg #[.slice none 0 0], .int .i64 1]) (by simp [results, Try.results18, go_sem]) rfl (Or.inr ⟨by decide, rfl, ?_⟩)
    first | exact B0.out | (refine B0.out.setCell ?_ _; first | simp | omega)
  · cases e2 : validP P xs.length x
    · rw [e1, e2, if_neg (by simp), if_pos rfl] at hc
      rw [e1] at ho
      simp only [e2] at hv
      rw [hc]
      obtain ⟨Y, hY⟩ : ∃ Y, xferTo xs (List.replicate x.toNat 0) P = Y := ⟨_, rfl⟩
      rw [hY]
      rw [hN] at ho b0 p1 f1 p0
      simp only [hN, hM] at hv
      rw [hN, hM]
      have HO := Lib.hid ho
      have B0 := Lib.hid b0
      have HV := Lib.hid (hv _ b0)
      clear ho hv hc h hP hlen hY i0 hs0 hN hM e1 e2 b0
      go_enter Try.func18, Try.ntmps18
      go_wp2_with (go_at_call 55; refine HO.out.mono ?_; rintro e w' ⟨rfl, rfl⟩)
      refine HV.out.mono ?_
      rintro e w2 ⟨rfl, hb⟩
      have B2 := Lib.hid (below_step B0.out hb)
      have q2 := cell_kept p1 hb
      have qf := frozen_kept p1 f1 hb
      clear hb
      go_wp2
      refine bodyPost_ret (v := .tuple #[.agg #[.slice none 0 0], .int .i64 2]) (by simp [results, Try.results18, go_sem, q2]) rfl (Or.inr ⟨by decide, rfl, ?_⟩)
      exact B2.out.setCell (by simp) _
    · rw [e1, e2, if_neg (by simp), if_neg (by simp)] at hc
      rw [e1] at ho
      obtain ⟨v1, v2, v3, v4, hvt, hPl⟩ := validP_parts e2
      simp only [e2] at hv
      rw [hc]
      obtain ⟨z, rfl⟩ : ∃ z : Nat, x = z := ⟨x.toNat, by omega⟩
      rw [Int.toNat_natCast] at hlen ⊢
      obtain ⟨ob, hmk2, hrow⟩ := make_ints z (by omega)
      have hcp := fun (g : Nat) (W : World) (hW : Below w.heap.size w W) (h1 : W.cell? ⟨w.heap.size, 0, none⟩ = some (.slice A xs.length c)) (h2 : W.cell? ⟨g + 1, 0, none⟩ = some (.slice (some ⟨g, 0, none⟩) z z)) (hR : Row W g (List.replicate z 0) []) (hg : w.heap.size + 2 ≤ g) =>
        l10Copy_any w.heap.size 0 (g + 1) 0 A c xs B g z (List.replicate z 0) [] AP cP P BP W h1 (h.below (hW.mono hB)) (by rw [List.length_replicate]; exact h2) hR (hP.below (hW.mono hBP)) (by omega) (by omega) (by omega) (by omega) (-1) (by rw [List.length_replicate]; exact hvt) hPl (by omega)
      obtain ⟨Y, hY⟩ : ∃ Y, xferTo xs (List.replicate z 0) P = Y := ⟨_, rfl⟩
      simp only [hY] at hcp
      rw [hY] at hlen ⊢
      rw [hN] at ho b0 p1 f1 p0
      simp only [hN, hM] at hv hcp
      rw [hN, hM]
      have HO := Lib.hid ho
      have B0 := Lib.hid b0
      have HV := Lib.hid (hv _ b0)
      have HCP := Lib.hid hcp
      have HRW := Lib.hid hrow
      have HLN := Lib.hid hlen
      clear ho hv hc h hP hlen hY i0 hN hM e1 e2 b0 hcp hrow hvt hPl hs0
      go_enter Try.func18, Try.ntmps18
      go_wp2_with (go_at_call 55; refine HO.out.mono ?_; rintro e w' ⟨rfl, rfl⟩)
      refine HV.out.mono ?_
      rintro e w3 ⟨rfl, hb⟩
      have hsz : w.heap.size + 2 ≤ w3.heap.size := by have := hb.size; simpa using this
      have B3 := Lib.hid (below_step B0.out hb)
      have q0 := cell_kept p0 hb
      have q1 := cell_kept p1 hb
      have qf := frozen_kept p1 f1 hb
      have bw1 := below_box w3 ob
      have bw2 := below_step bw1 (below_box (w3.alloc ob) (.cells #[.slice (some ⟨w3.heap.size, 0, none⟩) z z] 33))
      have hr1 := (HRW.out w3).alloc (.cells #[.slice (some ⟨w3.heap.size, 0, none⟩) z z] 33)
      have s1 := new_cell (w3.alloc ob) (.slice (some ⟨w3.heap.size, 0, none⟩) z z) 33
      rw [World.size_alloc] at s1
      have hcall := HCP.out w3.heap.size _ (below_step B3.out bw2) (cell_kept q0 bw2) s1 hr1 hsz
      have y1 := cell_kept q1 bw2
      have yf := frozen_kept q1 qf bw2
      have hm2 := hmk2 w3
      have e0 : (w3.alloc ob).heap.size = w3.heap.size + 1 := World.size_alloc _ _
      obtain ⟨W1, hW1⟩ : ∃ W1, w3.alloc ob = W1 := ⟨_, rfl⟩
      rw [hW1] at hcall bw2 s1 hm2 e0 y1 yf
      obtain ⟨W2, hW2⟩ : ∃ W2, W1.alloc (.cells #[.slice (some ⟨w3.heap.size, 0, none⟩) z z] 33) = W2 := ⟨_, rfl⟩
      rw [hW2] at hcall bw2 s1 y1 yf
      have HCALL := Lib.hid hcall
      have HBW := Lib.hid bw2
      have E0 := Lib.hid e0
      clear hb hcall bw1 bw2 hr1 hmk2 hW1 e0 p0 p1 f1 q0 q1 qf
      go_wp2_with fail
      rw [E0.out]
      refine HCALL.out.mono ?_
      rintro e w5 ⟨rfl, hg5, hrow5⟩
      have s5 := cell_only hg5 s1 (by show w3.heap.size + 1 ≠ w3.heap.size; omega)
      have z1 := cell_only hg5 y1 (by show w.heap.size + 1 ≠ w3.heap.size; omega)
      have zf := frozen_onlyP hg5 y1 yf (by show w.heap.size + 1 ≠ w3.heap.size; omega)
      have B5 := Lib.hid (below_step B3.out (below_only HBW.out hg5 (Nat.le_refl _)))
      have HR5 := Lib.hid hrow5
      clear hg5 hrow5 y1 yf s1
      go_wp2
      refine bodyPost_ret (v := .tuple #[.agg #[.slice (some ⟨w3.heap.size, 0, none⟩) z z], .int .i64 0]) (by simp [results, Try.results18, go_sem, z1]) rfl (Or.inl ⟨rfl, w3.heap.size, z, [], by rw [HLN.out], by omega, ?_, ?_⟩)
      · exact B5.out.setCell (by simp) _
      · exact HR5.out.far (by simp; omega) _
end
end Go.Proofs.Ytamookdlbmbncaa
