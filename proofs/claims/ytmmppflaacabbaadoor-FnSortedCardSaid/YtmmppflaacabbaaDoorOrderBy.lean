/- impl.OrderBy answers the sorted places for every deck of at most 1048576 cards and columns and every field: a contract. -/
import Derived.Test.YtmmppflaacabbaaDoorOrderI
namespace Go.Proofs.YtmmppflaacabbaaDoor
open Go.ChangeShapes Go.WideShapes Go.ChangeAt Go.RowKit

section
variable (A : Option Addr) (c : Nat) (D : List CardV) (B : Nat) (a b : Int) (w : World) (h : Deck w B A D) (hB : B ≤ w.heap.size) (hn : D.length ≤ 1048576) (hl : ∀ d ∈ D, d.xs.length ≤ 1048576)
include h hB hn hl

set_option maxRecDepth 100000 in
set_option maxHeartbeats 2000000 in
theorem implOrder_any (hcap : CapsOk D) (hP : Places w) :
    Calls Tryd.prog 9 #[.slice A D.length c, .agg #[.int .i64 a, .int .i64 b]] w (GivesIC (orderA (holes D) a b) (keysC (holes D) a b) w) := by
  have b0 := below_box w (.cells #[.int .i64 a, .int .i64 b] 27)
  have hk := keysOf_any A c D B a b (w.alloc (.cells #[.int .i64 a, .int .i64 b] 27)) (h.below (b0.mono hB)) (by simp; omega) hn hl hcap (hP.below b0)
  have BW := Lib.hid b0
  obtain ⟨n, hN⟩ : ∃ n, D.length = n := ⟨_, rfl⟩
  rw [orderA]
  by_cases e : keysC (holes D) a b = 0
  · obtain ⟨i, j, rfl, rfl, hij, hj, hv, hkb⟩ := keysC_zero e
    have hn40 : n ≤ 40 := by
      have := deck_len hv
      rw [← hN]
      simpa [holes] using this
    have hHn : (holes D).length = n := by simp [holes, hN]
    rw [e] at hk ⊢
    rw [if_pos rfl]
    rw [Int.toNat_natCast, Int.toNat_natCast] at hk ⊢
    have hov : ∀ M : List Int, M.Perm (identL n) → Srt (cfK (holes D) i j) M → orderV (holes D) i j = M := fun M p s => orderV_eq (by rw [hHn]; exact p) s
    have hord := ord_K (holes D) i j n
    have hcmp := fun (E : List CardV) kb gk x y W h1 h2 h3 => orderCmp_any D E i j n kb gk x y W h1 h2 h3 hN hv hj
    obtain ⟨V, hV⟩ : ∃ V, orderV (holes D) i j = V := ⟨_, rfl⟩
    obtain ⟨cf, hcf⟩ : ∃ cf, cfK (holes D) i j = cf := ⟨_, rfl⟩
    obtain ⟨R, hR⟩ : ∃ R, rks (holes D) i j = R := ⟨_, rfl⟩
    simp only [hV, hcf, hR] at hov hord hcmp
    unfold GivesRanks at hk
    simp only [hR] at hk
    rw [hV]
    rw [hN] at hk ⊢
    have hil := identL_length n
    have hib : ∀ k, k < n → (identL n)[k]?.getD 0 = (k : Int) := fun k hk => by simp [identL, List.getElem?_range hk]
    have hie : ∀ x ∈ identL n, okK n x := fun x hx => identL_mem.1 hx
    have hir := identL_rise n
    obtain ⟨L, hL⟩ : ∃ L, identL n = L := ⟨_, rfl⟩
    simp only [hL] at hil hib hie hir hov
    have HK := Lib.hid hk
    have HOV := Lib.hid hov
    have HORD := Lib.hid hord
    have HC := Lib.hid hcmp
    have HL := Lib.hid hil
    have HI := Lib.hid hib
    have HE := Lib.hid hie
    have HR := Lib.hid hir
    have hmk := run_make_row' (P := Tryd.prog) 29 2 (.int .i64 0) 8 Tryd.underlying29 info_int64 rfl .i64 .i64 n (by omega) (by omega)
    clear hk h hl hcap b0 e hv hkb hj hN hn hP hov hord hcmp hV hcf hR hil hib hie hir hL hHn
    go_enter Tryd.func9, Tryd.ntmps9
    go_wp2_with fail
    refine HK.out.mono ?_
    rintro e w1 (⟨h0, _⟩ | ⟨_, gk, E, rfl, hb, hE, hO⟩)
    · exact absurd rfl h0
    have B1 := Lib.hid (below_step BW.out hb)
    have HO1 := Lib.hid (hO.alloc (.cells #[.slice (some ⟨gk, 0, none⟩) n n] 69))
    have HEE := Lib.hid hE
    have BK := Lib.hid (below_box w1 (.cells #[.slice (some ⟨gk, 0, none⟩) n n] 69))
    obtain ⟨W2, hW2⟩ : ∃ W2, w1.alloc (.cells #[.slice (some ⟨gk, 0, none⟩) n n] 69) = W2 := ⟨_, rfl⟩
    have kc : W2.cell? ⟨w1.heap.size, 0, none⟩ = some (.slice (some ⟨gk, 0, none⟩) n n) := by rw [← hW2]; simp
    have hs2 : W2.heap.size = w1.heap.size + 1 := by rw [← hW2]; simp
    rw [hW2] at HO1 BK
    have HW := Lib.hid hW2
    clear hb hO hE HK hW2
    go_wp2_with fail
    try rw [HW.out]
    clear hmk
    go_loopw [24] (fun x wr => ∃ t : Nat, t ≤ n ∧ x = .int .i64 t ∧ Hid (Copied W2 wr (part L t))) (fun x _ => n - (intOf x).toNat)
    case atStart =>
      refine ⟨0, Nat.zero_le _, rfl, (Below.refl _ _).alloc (Nat.le_refl _) _, by simp, ?_⟩
      rw [madeCells_int, part_zero, HL.out]
      exact heap_alloc_new W2 _
    case round =>
      obtain ⟨t, ht, rfl, HCP⟩ := hrel
      by_cases hlt : t < n
      · have hp := part_length L t (by rw [HL.out]; exact ht)
        have h3 := HCP.out.row.frozen t
        have h2 := HCP.out.row.cell (i := t) (by rw [hp, HL.out]; omega)
        have Hp := Lib.hid hp
        rw [hs2] at h2 h3
        have k0 : (0 : Int) ≤ (t : Int) := Int.natCast_nonneg _
        have k1 : (t : Int) < (n : Int) := by omega
        clear hp
        go_wp2
        go_roundw
        case rel =>
          rw [← hs2]
          refine ⟨t + 1, by omega, by go_num, ?_, ?_, ?_⟩
          · exact HCP.out.below.setCell (by simp) _
          · have := HCP.out.size
            simpa [World.setCell] using this
          · rw [← part_set L t (by rw [HL.out]; exact hlt), HI.out t hlt]
            exact HCP.out.row.set (by rw [Hp.out, HL.out]; exact hlt) _
        case measure => simp [intOf]; omega
      · have htn : t = n := by omega
        have k1 : ¬ (t : Int) < (n : Int) := by omega
        have hpa : part L t = L := by rw [htn, ← HL.out, part_all]
        rw [hpa] at HCP
        have hrow := HCP.out.row
        have hkc := cell_kept kc HCP.out.below
        have hO2 := HO1.out.later HCP.out.below
        have hne : ∀ e ∈ E, ∀ ge, e.at_ = some ⟨ge, 0, none⟩ → ge ≠ W2.heap.size := fun e he ge ha => by
          obtain ⟨g', q1, _, _, q4⟩ := HO1.out.each e he
          rw [ha] at q1
          obtain rfl : ge = g' := by simpa using q1
          exact Nat.ne_of_lt q4.lt
        have hgk := HO1.out.lt
        have hsz := HCP.out.size
        have hcs : Cmps cf (okK n) W2.heap.size (.pointer (some ⟨w1.heap.size, 0, none⟩)) wr := fun W hW x y hx hy =>
          HC.out E w1.heap.size gk x y W (cell_only hW hkc (by show w1.heap.size ≠ _; omega)) (hO2.only hW hne (by omega)) HEE.out hx hy
        have hst := sortStable_any HORD.out W2.heap.size n (.pointer (some ⟨w1.heap.size, 0, none⟩)) L [] wr hrow hcs HR.out HE.out HL.out hn40
        have BR := Lib.hid (below_step (below_step B1.out BK.out) HCP.out.below)
        rw [hs2] at hst
        have hgw : w.heap.size ≤ W2.heap.size := (below_step B1.out BK.out).size
        have HST := Lib.hid hst
        clear hpa hrow hkc hO2 hne hgk hcs hst htn kc hsz
        go_wp2_with fail
        refine HST.out.mono ?_
        rintro e w3 ⟨rfl, M, q1, q2, q3, q4⟩
        rw [← hs2] at q3 q4
        obtain rfl : V = M := HOV.out M q1 q2
        have HB3 := Lib.hid (below_only BR.out q3 hgw)
        have hle := q3.size
        have HM := Lib.hid (show V.length = n by rw [q1.length_eq, HL.out])
        have HQ := Lib.hid q4
        have hlt3 : W2.heap.size < w3.heap.size := q4.lt
        clear q1 q2 q3 q4 hle
        go_wp2
        go_ret2
        rw [hs2] at hgw hlt3
        refine ⟨some ⟨w1.heap.size + 1, 0, none⟩, n, by rw [HM.out]; rfl, HB3.out, fun _ => ⟨w1.heap.size + 1, [], rfl, hgw, hlt3, by rw [← hs2]; exact HQ.out⟩, Nat.le_refl _⟩
  · rw [if_neg e]
    obtain ⟨k, hk0⟩ : ∃ k, keysC (holes D) a b = k := ⟨_, rfl⟩
    rw [hk0] at hk e ⊢
    rw [hN] at hk ⊢
    have e1 : (k != 0) = true := by simpa using e
    have HK := Lib.hid hk
    clear hk h hl hcap b0 hk0 hN hn hP
    go_enter Tryd.func9, Tryd.ntmps9
    go_wp2_with fail
    refine HK.out.mono ?_
    rintro e' w1 (⟨_, rfl, hb⟩ | ⟨h0, _⟩)
    · have B1 := Lib.hid (below_step BW.out hb)
      have B2 := Lib.hid (B1.out.alloc B1.out.size (.cells #[.slice none 0 0] 69))
      clear hb HK
      go_wp2
      go_ret2
      exact ⟨none, 0, rfl, B2.out, IAt.nil (Nat.le_refl _)⟩
    · exact absurd h0 e
end
end Go.Proofs.YtmmppflaacabbaaDoor
