/- impl.FirstStep and impl.IsSorted answer as spec's do for every deck and field: contracts. -/
import Derived.Test.YtmmppflaacabbaaDoorSortImpl
namespace Go.Proofs.YtmmppflaacabbaaDoor
open Go.ChangeShapes Go.WideShapes Go.ChangeAt Go.RowKit

theorem rks_at {D : List CardV} {i j k : Nat} {d e : CardV} {E : List CardV} (h : holes E = rks (holes D) i j) (hd : D[k]? = some d) (he : E[k]? = some e) : e.xs = (partOf d.xs i j).map rkI := by
  have h1 := holes_at he
  rw [h, rks, List.getElem?_map, holes_at hd] at h1
  exact (Option.some.inj h1).symm
theorem rks_len {D E : List CardV} {i j : Nat} (h : holes E = rks (holes D) i j) : E.length = D.length := by
  have := congrArg List.length h
  simpa [holes, rks] using this

section
variable (A : Option Addr) (c : Nat) (D : List CardV) (B : Nat) (a b : Int) (w : World) (h : Deck w B A D) (hB : B ≤ w.heap.size) (hn : D.length ≤ 1048576) (hl : ∀ d ∈ D, d.xs.length ≤ 1048576)
include h hB hn hl

set_option maxRecDepth 100000 in
set_option maxHeartbeats 4000000 in
theorem implFirstStep_any (hcap : CapsOk D) (hP : Places w) :
    Calls Tryd.prog 14 #[.slice A D.length c, .agg #[.int .i64 a, .int .i64 b]] w fun e w' => e = .returned (.tuple #[.int .i64 (stepA (holes D) a b), .int .i64 (keysC (holes D) a b)]) ∧ Below w.heap.size w w' := by
  have b0 := below_box w (.cells #[.int .i64 a, .int .i64 b] 27)
  have hk := keysOf_any A c D B a b (w.alloc (.cells #[.int .i64 a, .int .i64 b] 27)) (h.below (b0.mono hB)) (by simp; omega) hn hl hcap (hP.below b0)
  have BW := Lib.hid b0
  obtain ⟨n, hN⟩ : ∃ n, D.length = n := ⟨_, rfl⟩
  rw [stepA]
  by_cases e : keysC (holes D) a b = 0
  · obtain ⟨i, j, rfl, rfl, hij, hj, hv, hkb⟩ := keysC_zero e
    have hn40 : n ≤ 40 := by
      have := deck_len hv
      rw [← hN]
      simpa [holes] using this
    rw [e] at hk ⊢
    rw [if_pos rfl]
    rw [Int.toNat_natCast, Int.toNat_natCast] at hk ⊢
    obtain ⟨r, hr⟩ : ∃ r, stepV (holes D) i j = r := ⟨_, rfl⟩
    rw [hr]
    rw [stepV, show (holes D).length = n by simp [holes, hN]] at hr
    rw [hN] at hk ⊢
    have HK := Lib.hid hk
    have HR := Lib.hid hr
    have HN := Lib.hid hN
    have HV := Lib.hid hv
    have HJ := Lib.hid hj
    clear hk h hl hcap b0 e hv hkb hj hr hN hn hP
    go_enter Tryd.func14, Tryd.ntmps14
    go_wp2_with fail
    refine HK.out.mono ?_
    rintro e w1 (⟨h0, _⟩ | ⟨_, g, E, rfl, hb, hE, hO⟩)
    · exact absurd rfl h0
    have B1 := Lib.hid (below_step BW.out hb)
    have HO := Lib.hid hO
    have HE := Lib.hid hE
    have hEl : E.length = n := by rw [rks_len hE, HN.out]
    have HEL := Lib.hid hEl
    clear hb hO hE hEl HK
    go_wp2_with fail
    go_loopw [8] (fun x wr => ∃ t : Nat, (t + 1 ≤ n ∨ t = 0) ∧ x = .int .i64 ((t : Int) + 1) ∧ Hid (Below w1.heap.size w1 wr) ∧ Hid (stepFrom (lessB (holes D) i j) (n - (t + 1)) (t + 1) = r)) (fun x _ => n + 1 - (intOf x).toNat)
    case atStart => exact ⟨0, Or.inr rfl, rfl, Below.refl _ _, HR⟩
    case round =>
      obtain ⟨t, ht, rfl, HB, HS⟩ := hrel
      by_cases hlt : t + 1 < n
      · obtain ⟨d, hd⟩ : ∃ d, D[t + 1]? = some d := ⟨D[t + 1]'(by rw [HN.out]; exact hlt), List.getElem?_eq_getElem _⟩
        obtain ⟨d', hd'⟩ : ∃ d, D[t]? = some d := ⟨D[t]'(by rw [HN.out]; omega), List.getElem?_eq_getElem _⟩
        obtain ⟨e, he⟩ : ∃ e, E[t + 1]? = some e := ⟨E[t + 1]'(by rw [HEL.out]; exact hlt), List.getElem?_eq_getElem _⟩
        obtain ⟨e', he'⟩ : ∃ e, E[t]? = some e := ⟨E[t]'(by rw [HEL.out]; omega), List.getElem?_eq_getElem _⟩
        have HO2 := HO.out.later HB.out
        have c1 : wr.cell? ⟨g, t + 1, none⟩ = some e.value := by rw [HO2.cell (t + 1), cellsOf_get E n _ e he]
        have c2 : wr.cell? ⟨g, t, none⟩ = some e'.value := by rw [HO2.cell t, cellsOf_get E n _ e' he']
        obtain ⟨g1, a1, _, _, r1⟩ := HO2.each e (List.mem_of_getElem? he)
        obtain ⟨g2, a2, _, _, r2⟩ := HO2.each e' (List.mem_of_getElem? he')
        have x1 := rks_at HE.out hd he
        have x2 := rks_at HE.out hd' he'
        obtain ⟨y1, y2⟩ := deck_width HV.out (holes_at hd)
        obtain ⟨y3, y4⟩ := deck_width HV.out (holes_at hd')
        have l1 := partOf_length d.xs i j (by rw [y2]; exact HJ.out)
        have l2 := partOf_length d'.xs i j (by rw [y4]; exact HJ.out)
        have m1 : e.xs.length = j - i := by rw [x1]; simp [l1]
        have m2 : e'.xs.length = j - i := by rw [x2]; simp [l2]
        have h20 := (okB_parts y1).2
        have i1 := r1.ints
        have i2 := r2.ints
        rw [x1] at i1
        rw [x2] at i2
        have hc := fun m => slicesCompare_any (some ⟨g1, 0, none⟩) (some ⟨g2, 0, none⟩) e.cap e'.cap (partOf d.xs i j) (partOf d'.xs i j) (j - i) (g1 + 1) (g2 + 1) (wr.drewN m) (i1.drewN m) (i2.drewN m) l1 l2 (by have := HJ.out; omega)
        have hck := cmpK_at (i := i) (j := j) hd hd'
        unfold CardV.value at c1 c2
        rw [a1, m1] at c1
        rw [a2, m2] at c2
        obtain ⟨v, ev⟩ : ∃ v, cmpTo (partOf d.xs i j) (partOf d'.xs i j) (j - i) = v := ⟨_, rfl⟩
        rw [ev] at hck
        simp only [ev] at hc
        obtain ⟨p, hp⟩ : ∃ p, j - i = p := ⟨_, rfl⟩
        rw [hp] at c1 c2
        simp only [hp] at hc
        have HC : Hid (∀ m, Calls Tryd.prog 41 #[.slice (some ⟨g1, 0, none⟩) p e.cap, .slice (some ⟨g2, 0, none⟩) p e'.cap] (wr.drewN m) fun e w' => e = .returned (.int .i64 v) ∧ w' = wr.drewN m) := fun m => (hc m).mono fun _ _ hh => ⟨hh.1, hh.2.symm⟩
        have HCK := Lib.hid hck
        obtain ⟨z1, hz1⟩ : ∃ z, e.cap = z := ⟨_, rfl⟩
        obtain ⟨z2, hz2⟩ : ∃ z, e'.cap = z := ⟨_, rfl⟩
        rw [hz1] at c1
        rw [hz2] at c2
        simp only [hz1, hz2] at HC
        have t0 : (0 : Int) ≤ (t : Int) := Int.natCast_nonneg _
        have t1 : (t : Int) + 1 < (n : Int) := by omega
        have t2 : (t : Int) < (n : Int) := by omega
        have t3 : (0 : Int) ≤ (t : Int) + 1 := by omega
        clear hd hd' he he' HO2 a1 r1 a2 r2 x1 x2 y1 y2 y3 y4 l1 l2 m1 m2 h20 i1 i2 hc hck ev hp hz1 hz2 HR HV HE
        by_cases hv0 : v < 0
        · obtain rfl := step_yes HS.out hlt (by rw [HCK.out]; exact hv0)
          go_wp2
          go_quiet ((go_at_call 41; exact Calls.quiet_of_same (HC.out _)))
          go_wp2
          go_ret2
          exact ⟨by simp, below_step B1.out (below_drewN HB.out _)⟩
        · have HS1 := Lib.hid (step_no HS.out hlt (by rw [HCK.out]; exact hv0))
          go_wp2
          go_quiet ((go_at_call 41; exact Calls.quiet_of_same (HC.out _)))
          go_wp2
          go_roundw
          case rel => exact ⟨t + 1, Or.inl (by omega), by go_num, below_drewN HB.out _, HS1⟩
          case measure => simp [intOf]; omega
      · obtain rfl := step_end HS.out hlt
        have t1 : ¬ (t : Int) + 1 < (n : Int) := by omega
        go_wp2
        go_ret2
        exact ⟨rfl, below_step B1.out HB.out⟩
  · rw [if_neg e]
    obtain ⟨k, hk0⟩ : ∃ k, keysC (holes D) a b = k := ⟨_, rfl⟩
    rw [hk0] at hk e ⊢
    rw [hN] at hk ⊢
    have e1 : (k != 0) = true := by simpa using e
    have HK := Lib.hid hk
    clear hk h hl hcap b0 hk0 hN hn hP
    go_enter Tryd.func14, Tryd.ntmps14
    go_wp2_with fail
    refine HK.out.mono ?_
    rintro e' w1 (⟨_, rfl, hb⟩ | ⟨h0, _⟩)
    · have B1 := Lib.hid (below_step BW.out hb)
      clear hb HK
      go_wp2
      go_ret2
      exact ⟨rfl, B1.out⟩
    · exact absurd h0 e

theorem implIsSorted_any (hcap : CapsOk D) (hP : Places w) :
    Calls Tryd.prog 13 #[.slice A D.length c, .agg #[.int .i64 a, .int .i64 b]] w fun e w' => e = .returned (.tuple #[.bool (sortedA (holes D) a b), .int .i64 (keysC (holes D) a b)]) ∧ Below w.heap.size w w' := by
  have b0 := below_box w (.cells #[.int .i64 a, .int .i64 b] 27)
  have hk := implFirstStep_any A c D B a b (w.alloc (.cells #[.int .i64 a, .int .i64 b] 27)) (h.below (b0.mono hB)) (by simp; omega) hn hl hcap (hP.below b0)
  have BW := Lib.hid b0
  have hs : sortedA (holes D) a b = decide (stepA (holes D) a b < 0) := by
    rw [sortedA, stepA]
    split <;> rfl
  rw [hs]
  obtain ⟨n, hN⟩ : ∃ n, D.length = n := ⟨_, rfl⟩
  obtain ⟨r, hr⟩ : ∃ r, stepA (holes D) a b = r := ⟨_, rfl⟩
  obtain ⟨k, hk0⟩ : ∃ k, keysC (holes D) a b = k := ⟨_, rfl⟩
  rw [hN, hr, hk0] at hk
  rw [hN, hr, hk0]
  have HK := Lib.hid hk
  clear hk h hl hcap b0 hk0 hN hn hP hs hr
  go_enter Tryd.func13, Tryd.ntmps13
  go_wp2_with fail
  refine HK.out.mono ?_
  rintro e' w1 ⟨rfl, hb⟩
  have B1 := Lib.hid (below_step BW.out hb)
  clear hb HK
  go_wp2
  go_ret2
  exact ⟨rfl, B1.out⟩
end
end Go.Proofs.YtmmppflaacabbaaDoor
