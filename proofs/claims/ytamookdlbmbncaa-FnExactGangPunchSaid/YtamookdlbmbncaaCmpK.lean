/- impl.CompareCards and spec.CompareCards answer the copies in which two cards differ: contracts. -/
import Derived.Test.YtamookdlbmbncaaCmpD
import Derived.Test.YtamookdlbmbncaaOneC
namespace Go.Proofs.Ytamookdlbmbncaa
open Go.ChangeShapes Go.WideShapes Go.ChangeAt Go.RowKit

def cmpC (xs ys : List Int) (P : List (Int × Int)) : Int := decksC [xs] [ys] P
def cmpL (xs ys : List Int) (P : List (Int × Int)) : List Int := if cmpC xs ys P = 0 then difL xs ys P else []
theorem cmpC_cases (xs ys : List Int) (P : List (Int × Int)) : (okB xs = false ∧ cmpC xs ys P = 1 ∧ cmpL xs ys P = []) ∨ (okB xs = true ∧ okB ys = false ∧ cmpC xs ys P = 1 ∧ cmpL xs ys P = []) ∨ (okB xs = true ∧ okB ys = true ∧ validP P xs.length ys.length = false ∧ cmpC xs ys P = 2 ∧ cmpL xs ys P = []) ∨ (okB xs = true ∧ okB ys = true ∧ validP P xs.length ys.length = true ∧ cmpC xs ys P = 0 ∧ cmpL xs ys P = difL xs ys P) := by
  unfold cmpL cmpC decksC
  rw [deckB_one, deckB_one, widthH_one, widthH_one]
  cases okB xs <;> cases okB ys <;> cases validP P xs.length ys.length <;> simp
theorem ok_valid {xs ys : List Int} (P : List (Int × Int)) (h : okB xs = true) (h' : okB ys = true) : validP P xs.length ys.length = validTo xs.length ys.length P (-1) := by
  have e1 : inB xs.length 1 20 = true := by rw [okB, Bool.and_eq_true] at h; exact h.2
  have e2 : inB ys.length 1 20 = true := by rw [okB, Bool.and_eq_true] at h'; exact h'.2
  rw [validP, e1, e2]
  rfl
theorem cmpL_length {xs ys : List Int} {P : List (Int × Int)} (hP : P.length ≤ 1048576) : (cmpL xs ys P).length ≤ 1048576 := by
  unfold cmpL
  split
  · exact Nat.le_trans (wherePl_len _ _) hP
  · simp

section
variable (A : Option Addr) (c : Nat) (xs : List Int) (B : Nat) (A' : Option Addr) (c' : Nat) (ys : List Int) (B' : Nat) (AP : Option Addr) (cP : Nat) (P : List (Int × Int)) (BP : Nat) (w : World) (h : Ints w B A xs) (h' : Ints w B' A' ys) (hP : Copies w BP AP P) (hB : B ≤ w.heap.size) (hB' : B' ≤ w.heap.size) (hBP : BP ≤ w.heap.size) (hn : xs.length ≤ 1048576) (hn' : ys.length ≤ 1048576) (hPn : P.length ≤ 1048576)
include h h' hP hB hB' hBP hn hn' hPn

set_option maxRecDepth 100000 in
set_option maxHeartbeats 2000000 in
theorem implCmp_any : Calls Try.prog 37 #[.agg #[.slice A xs.length c], .agg #[.slice A' ys.length c'], .slice AP P.length cP] w (GivesIC (cmpL xs ys P) (cmpC xs ys P) w) := by
  obtain ⟨W0, hW0⟩ : ∃ W0, (w.alloc (.cells #[.slice A xs.length c] 33)).alloc (.cells #[.slice A' ys.length c'] 33) = W0 := ⟨_, rfl⟩
  have b0 : Below w.heap.size w W0 := by rw [← hW0]; exact (below_box w _).alloc (by simp) _
  have p0 : W0.cell? ⟨w.heap.size, 0, none⟩ = some (.slice A xs.length c) := by rw [← hW0]; simp
  have p1 : W0.cell? ⟨w.heap.size + 1, 0, none⟩ = some (.slice A' ys.length c') := by rw [← hW0]; simp [go_sem]
  have hd1 := one_deck (c := c) (h.below (b0.mono hB)) (Nat.le_trans hB b0.size)
  have b1 := below_box W0 (.cells #[.slice A xs.length c] 33)
  have hd2 := one_deck (c := c') (h'.below ((below_step b0 b1).mono hB')) (Nat.le_trans hB' (below_step b0 b1).size)
  have b2 := below_box (W0.alloc (.cells #[.slice A xs.length c] 33)) (.cells #[.slice A' ys.length c'] 33)
  have s1 : (W0.alloc (.cells #[.slice A xs.length c] 33)).heap.size = W0.heap.size + 1 := World.size_alloc _ _
  have s2 : ((W0.alloc (.cells #[.slice A xs.length c] 33)).alloc (.cells #[.slice A' ys.length c'] 33)).heap.size = W0.heap.size + 2 := by rw [World.size_alloc, s1]
  have hc := checkCopies_any _ 1 [⟨A, c, xs⟩] _ _ 1 [⟨A', c', ys⟩] _ AP cP P BP _ (hd1.below (b2.mono (by rw [s1]; exact Nat.le_refl _))) hd2 (hP.below ((below_step (below_step b0 b1) b2).mono hBP)) (by omega) (by omega) (Nat.le_trans hBP (below_step (below_step b0 b1) b2).size) (by simp) (by simp) hPn (fun d hd => by obtain rfl := List.mem_singleton.1 hd; exact hn) (fun d hd => by obtain rfl := List.mem_singleton.1 hd; exact hn')
  have q0 := cell_kept (cell_kept p0 b1) b2
  have q1 := cell_kept (cell_kept p1 b1) b2
  have b3 := below_step (below_step b0 b1) b2
  have hh1 : holes [(⟨A, c, xs⟩ : CardV)] = [xs] := rfl
  have hh2 : holes [(⟨A', c', ys⟩ : CardV)] = [ys] := rfl
  have hl1 : [(⟨A, c, xs⟩ : CardV)].length = 1 := rfl
  have hl2 : [(⟨A', c', ys⟩ : CardV)].length = 1 := rfl
  have hdf := fun (hv : validTo xs.length ys.length P (-1) = true) (hPl : P.length ≤ 20) W (hW : Below w.heap.size w W) => differences_any A A' c c' xs ys B B' AP cP P BP W (h.below (hW.mono hB)) (h'.below (hW.mono hB')) (hP.below (hW.mono hBP)) (Nat.le_trans hB hW.size) (Nat.le_trans hB' hW.size) (Nat.le_trans hBP hW.size) (-1) hv hPl
  rw [hh1, hh2, hl1, hl2, s1] at hc
  have hcc : decksC [xs] [ys] P = cmpC xs ys P := rfl
  rw [hcc] at hc
  by_cases e0 : cmpC xs ys P = 0
  · rcases cmpC_cases xs ys P with ⟨_, e, _⟩ | ⟨_, _, e, _⟩ | ⟨_, _, _, e, _⟩ | ⟨o1, o2, o3, _, el⟩
    · omega
    · omega
    · omega
    have hdf2 := hdf (by rw [← ok_valid P o1 o2]; exact o3) (validP_parts o3).2.2.2.2.2
    rw [e0] at hc ⊢
    rw [el]
    obtain ⟨L, hL⟩ : ∃ L, difL xs ys P = L := ⟨_, rfl⟩
    simp only [hL] at hdf2
    rw [hL]
    obtain ⟨n, hN⟩ : ∃ n, xs.length = n := ⟨_, rfl⟩
    obtain ⟨n', hN'⟩ : ∃ n, ys.length = n := ⟨_, rfl⟩
    obtain ⟨m, hM⟩ : ∃ m, P.length = m := ⟨_, rfl⟩
    rw [hN, hN', hM] at hc
    rw [hN, hN'] at q0 q1 b3 hW0
    simp only [hN, hN', hM] at hdf2
    rw [hN, hN', hM]
    obtain ⟨W2, hW2⟩ : ∃ W2, (W0.alloc (.cells #[.slice A n c] 33)).alloc (.cells #[.slice A' n' c'] 33) = W2 := ⟨_, rfl⟩
    rw [hW2] at hc q0 q1 b3
    have s0 : W0.heap.size = w.heap.size + 2 := by rw [← hW0]; simp
    rw [s0] at hc
    have HC := Lib.hid hc
    have HDF := Lib.hid hdf2
    have B3 := Lib.hid b3
    subst hW0
    clear hc hdf hdf2 b0 b1 b2 b3 p0 p1 hd1 hd2 h h' hP e0 o1 o2 o3 el hL hN hN' hM s1 s2 hcc hn hn' hPn s0
    go_enter Try.func37, Try.ntmps37
    go_wp2_with fail
    refine HC.out.mono ?_
    rintro e w1 ⟨rfl, hb⟩
    have B4 := Lib.hid (below_step B3.out hb)
    have r0 := cell_kept q0 hb
    have r1 := cell_kept q1 hb
    clear hb
    go_wp2_with fail
    refine (HDF.out _ B4.out).mono ?_
    rintro e w2 ⟨A9, c9, rfl, hb, hi⟩
    have B5 := Lib.hid (below_step B4.out hb)
    have HI := Lib.hid (hi.wide B4.out.size (Nat.le_refl _) (Nat.le_refl _))
    clear hb hi
    go_wp2
    go_ret2
    exact ⟨A9, c9, rfl, B5.out, HI.out⟩
  · have el : cmpL xs ys P = [] := if_neg e0
    obtain ⟨k, hk⟩ : ∃ k, cmpC xs ys P = k := ⟨_, rfl⟩
    rw [hk] at hc e0
    rw [el, hk]
    obtain ⟨n, hN⟩ : ∃ n, xs.length = n := ⟨_, rfl⟩
    obtain ⟨n', hN'⟩ : ∃ n, ys.length = n := ⟨_, rfl⟩
    obtain ⟨m, hM⟩ : ∃ m, P.length = m := ⟨_, rfl⟩
    rw [hN, hN', hM] at hc
    rw [hN, hN'] at q0 q1 b3 hW0
    rw [hN, hN', hM]
    have g1 : (k != 0) = true := by simpa using e0
    obtain ⟨W2, hW2⟩ : ∃ W2, (W0.alloc (.cells #[.slice A n c] 33)).alloc (.cells #[.slice A' n' c'] 33) = W2 := ⟨_, rfl⟩
    rw [hW2] at hc b3
    have s0 : W0.heap.size = w.heap.size + 2 := by rw [← hW0]; simp
    rw [s0] at hc
    have HC := Lib.hid hc
    have B3 := Lib.hid b3
    subst hW0
    clear s0 hc hdf b0 b1 b2 b3 p0 p1 q0 q1 hd1 hd2 h h' hP e0 el hk hN hN' hM s1 s2 hcc hn hn' hPn
    go_enter Try.func37, Try.ntmps37
    go_wp2_with fail
    refine HC.out.mono ?_
    rintro e w1 ⟨rfl, hb⟩
    have B4 := Lib.hid (below_step B3.out hb)
    clear hb
    go_wp2
    go_ret2
    exact ⟨none, 0, rfl, B4.out, IAt.nil (Nat.le_refl _)⟩

set_option maxRecDepth 100000 in
set_option maxHeartbeats 2000000 in
theorem specCmp_any : Calls Try.prog 36 #[.agg #[.slice A xs.length c], .agg #[.slice A' ys.length c'], .slice AP P.length cP] w (GivesIC (cmpL xs ys P) (cmpC xs ys P) w) := by
  obtain ⟨W0, hW0⟩ : ∃ W0, (w.alloc (.cells #[.slice A xs.length c] 33)).alloc (.cells #[.slice A' ys.length c'] 33) = W0 := ⟨_, rfl⟩
  have b0 : Below w.heap.size w W0 := by rw [← hW0]; exact (below_box w _).alloc (by simp) _
  have p0 : W0.cell? ⟨w.heap.size, 0, none⟩ = some (.slice A xs.length c) := by rw [← hW0]; simp
  have p1 : W0.cell? ⟨w.heap.size + 1, 0, none⟩ = some (.slice A' ys.length c') := by rw [← hW0]; simp [go_sem]
  have o1 := l02Ok_any A c xs B w.heap.size 0 W0 p0 (h.below (b0.mono hB)) hn
  have o2 := l02Ok_any A' c' ys B' (w.heap.size + 1) 0 W0 p1 (h'.below (b0.mono hB')) hn'
  have tok : True := trivial
  have hok := fun (h1 : xs.length ≤ 20) (h2 : ys.length ≤ 20) => l10Ok_any AP cP P xs.length ys.length BP W0 (hP.below (b0.mono hBP)) (Nat.le_trans hBP b0.size) hPn h1 h2
  have hdf := fun (hv : validTo xs.length ys.length P (-1) = true) (hPl : P.length ≤ 20) W (hW : Below w.heap.size w W) (g1 : W.cell? ⟨w.heap.size, 0, none⟩ = some (.slice A xs.length c)) (g2 : W.cell? ⟨w.heap.size + 1, 0, none⟩ = some (.slice A' ys.length c')) => l10Differ_any w.heap.size 0 (w.heap.size + 1) 0 A A' c c' xs ys B B' AP cP P BP W g1 g2 (h.below (hW.mono hB)) (h'.below (hW.mono hB')) (hP.below (hW.mono hBP)) (Nat.le_trans hB hW.size) (Nat.le_trans hB' hW.size) (Nat.le_trans hBP hW.size) (-1) hv hPl
  rcases cmpC_cases xs ys P with ⟨e1, ec, el⟩ | ⟨e1, e2, ec, el⟩ | ⟨e1, e2, e3, ec, el⟩ | ⟨e1, e2, e3, ec, el⟩
  · rw [ec, el]
    rw [e1] at o1
    obtain ⟨n, hN⟩ : ∃ n, xs.length = n := ⟨_, rfl⟩
    obtain ⟨n', hN'⟩ : ∃ n, ys.length = n := ⟨_, rfl⟩
    obtain ⟨m, hM⟩ : ∃ m, P.length = m := ⟨_, rfl⟩
    rw [hN, hN'] at hW0
    rw [hN, hN', hM]
    have H1 := Lib.hid o1
    have B0 := Lib.hid b0
    subst hW0
    clear o1 o2 hok hdf b0 p0 p1 h h' hP e1 ec el hN hN' hM hn hn' hPn
    go_enter Try.func36, Try.ntmps36
    go_wp2_with (go_at_call 55; refine H1.out.mono ?_; rintro e w' ⟨rfl, rfl⟩)
    go_ret2
    exact ⟨none, 0, rfl, B0.out, IAt.nil (Nat.le_refl _)⟩
  · rw [ec, el]
    rw [e1] at o1
    rw [e2] at o2
    obtain ⟨n, hN⟩ : ∃ n, xs.length = n := ⟨_, rfl⟩
    obtain ⟨n', hN'⟩ : ∃ n, ys.length = n := ⟨_, rfl⟩
    obtain ⟨m, hM⟩ : ∃ m, P.length = m := ⟨_, rfl⟩
    rw [hN, hN'] at hW0
    rw [hN, hN', hM]
    have H1 := Lib.hid o1
    have H2 := Lib.hid o2
    have B0 := Lib.hid b0
    subst hW0
    clear o1 o2 hok hdf b0 p0 p1 h h' hP e1 e2 ec el hN hN' hM hn hn' hPn
    go_enter Try.func36, Try.ntmps36
    go_wp2_with (first | (go_at_call 55; have _t := tok; refine H1.out.mono ?_; rintro e w' ⟨rfl, rfl⟩; clear tok _t) | (go_at_call 55; refine H2.out.mono ?_; rintro e w' ⟨rfl, rfl⟩))
    go_ret2
    exact ⟨none, 0, rfl, B0.out, IAt.nil (Nat.le_refl _)⟩
  · rw [ec, el]
    have hok2 := hok (okB_parts e1).2 (okB_parts e2).2
    rw [← ok_valid P e1 e2, e3] at hok2
    rw [e1] at o1
    rw [e2] at o2
    obtain ⟨n, hN⟩ : ∃ n, xs.length = n := ⟨_, rfl⟩
    obtain ⟨n', hN'⟩ : ∃ n, ys.length = n := ⟨_, rfl⟩
    obtain ⟨m, hM⟩ : ∃ m, P.length = m := ⟨_, rfl⟩
    rw [hN, hN'] at hW0
    rw [hN, hN', hM] at hok2
    rw [hN, hN', hM]
    have H1 := Lib.hid o1
    have H2 := Lib.hid o2
    have H3 := Lib.hid hok2
    have B0 := Lib.hid b0
    subst hW0
    clear o1 o2 hok hok2 hdf b0 p0 p1 h h' hP e1 e2 e3 ec el hN hN' hM hn hn' hPn
    go_enter Try.func36, Try.ntmps36
    go_wp2_with (first | (go_at_call 55; have _t := tok; refine H1.out.mono ?_; rintro e w' ⟨rfl, rfl⟩; clear tok _t) | (go_at_call 55; refine H2.out.mono ?_; rintro e w' ⟨rfl, rfl⟩) | (go_at_call 49; refine H3.out.mono ?_; rintro e w' ⟨rfl, hb⟩; have B1 := Lib.hid (below_step B0.out hb); clear hb))
    go_ret2
    exact ⟨none, 0, rfl, B1.out, IAt.nil (Nat.le_refl _)⟩
  · have hdf2 := hdf (by rw [← ok_valid P e1 e2]; exact e3) (validP_parts e3).2.2.2.2.2
    have hok2 := hok (okB_parts e1).2 (okB_parts e2).2
    rw [← ok_valid P e1 e2, e3] at hok2
    rw [e1] at o1
    rw [e2] at o2
    rw [ec, el]
    obtain ⟨L, hL⟩ : ∃ L, difL xs ys P = L := ⟨_, rfl⟩
    simp only [hL] at hdf2
    rw [hL]
    obtain ⟨n, hN⟩ : ∃ n, xs.length = n := ⟨_, rfl⟩
    obtain ⟨n', hN'⟩ : ∃ n, ys.length = n := ⟨_, rfl⟩
    obtain ⟨m, hM⟩ : ∃ m, P.length = m := ⟨_, rfl⟩
    rw [hN, hN'] at hW0
    rw [hN] at p0
    rw [hN'] at p1
    rw [hN, hN', hM] at hok2
    simp only [hN, hN', hM] at hdf2
    rw [hN, hN', hM]
    have H1 := Lib.hid o1
    have H2 := Lib.hid o2
    have H3 := Lib.hid hok2
    have HDF := Lib.hid hdf2
    have B0 := Lib.hid b0
    subst hW0
    clear o1 o2 hok hok2 hdf hdf2 b0 h h' hP e1 e2 e3 ec el hL hN hN' hM hn hn' hPn
    go_enter Try.func36, Try.ntmps36
    go_wp2_with (first | (go_at_call 55; have _t := tok; refine H1.out.mono ?_; rintro e w' ⟨rfl, rfl⟩; clear tok _t) | (go_at_call 55; refine H2.out.mono ?_; rintro e w' ⟨rfl, rfl⟩) | (go_at_call 49; refine H3.out.mono ?_; rintro e w1 ⟨rfl, hb⟩; have B1 := Lib.hid (below_step B0.out hb); have r0 := cell_kept p0 hb; have r1 := cell_kept p1 hb; clear hb) | fail)
    refine (HDF.out _ B1.out r0 r1).mono ?_
    rintro e w2 ⟨A9, c9, rfl, hb, hi⟩
    have B5 := Lib.hid (below_step B1.out hb)
    have HI := Lib.hid (hi.wide B1.out.size (Nat.le_refl _) (Nat.le_refl _))
    clear hb hi
    go_wp2
    go_ret2
    exact ⟨A9, c9, rfl, B5.out, HI.out⟩
end
end Go.Proofs.Ytamookdlbmbncaa
