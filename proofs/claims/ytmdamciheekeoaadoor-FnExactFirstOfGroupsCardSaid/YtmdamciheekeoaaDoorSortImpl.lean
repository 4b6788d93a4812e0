/- impl.keysOf, impl.FirstStep and impl.IsSorted answer for every deck of at most 1048576 cards and columns and every field: contracts. -/
import Derived.Test.YtmdamciheekeoaaDoorSortRanks
import Derived.Test.YtmdamciheekeoaaDoorSortStep
namespace Go.Proofs.YtmdamciheekeoaaDoor
open Go.ChangeShapes Go.WideShapes Go.ChangeAt Go.RowKit

/-- the ranks of the columns from i to j of each card -/
def rks (H : List (List Int)) (i j : Nat) : List (List Int) := H.map fun xs => (partOf xs i j).map rkI
/-- slices of the ranks -/
def GivesRanks (D : List CardV) (i j n : Nat) (w : World) (e : Ending) (w' : World) : Prop :=
  ∃ g E, e = .returned (.tuple #[.slice (some ⟨g, 0, none⟩) n n, .int .i64 0]) ∧ Below w.heap.size w w' ∧ holes E = rks (holes D) i j ∧ OwnRows w' g E n

section
variable (A : Option Addr) (c : Nat) (D : List CardV) (B : Nat) (a b : Int) (w : World) (h : Deck w B A D) (hB : B ≤ w.heap.size) (hn : D.length ≤ 1048576) (hl : ∀ d ∈ D, d.xs.length ≤ 1048576)
include h hB hn hl

set_option maxRecDepth 100000 in
set_option maxHeartbeats 4000000 in
theorem keysOf_any (hcap : CapsOk D) (hP : Places w) :
    Calls Tryd.prog 87 #[.slice A D.length c, .agg #[.int .i64 a, .int .i64 b]] w fun e w' => (keysC (holes D) a b ≠ 0 ∧ GivesNoKeys (keysC (holes D) a b) w e w') ∨ (keysC (holes D) a b = 0 ∧ GivesRanks D a.toNat b.toNat D.length w e w') := by
  have b0 := below_box w (.cells #[.int .i64 a, .int .i64 b] 30)
  have p0 : (w.alloc (.cells #[.int .i64 a, .int .i64 b] 30)).cell? ⟨w.heap.size, 0, none⟩ = some (.int .i64 a) := by simp
  have p1 : (w.alloc (.cells #[.int .i64 a, .int .i64 b] 30)).cell? ⟨w.heap.size, 1, none⟩ = some (.int .i64 b) := by simp
  have hd := fun W (hW : Below B w W) => implValidDeck_any A c D B W (h.below hW) (Nat.le_trans hB hW.size) hn hl
  have hw := fun W (hW : Below B w W) => widthOf_any A c D B W (h.below hW) hn hl
  have hf := fun W => isFieldOf_any a b (widthH (holes D)) W
  have HH := Lib.hid h
  have HL := Lib.hid hl
  have HCP := Lib.hid hcap
  have HPL := Lib.hid hP
  have HD := Lib.hid hd
  have HW := Lib.hid hw
  have HF := Lib.hid hf
  have B0 := Lib.hid (b0.mono hB)
  have BW := Lib.hid b0
  obtain ⟨n, hN⟩ : ∃ n, D.length = n := ⟨_, rfl⟩
  obtain ⟨z, hz⟩ : ∃ z, widthH (holes D) = z := ⟨_, rfl⟩
  have HN := Lib.hid hN
  have HZ := Lib.hid hz
  simp only [hN, hz] at HD HW HF hn ⊢
  clear h hl hcap hd hw hf b0 hN hz hP
  rcases keysC_cases (holes D) a b with ⟨e, hv⟩ | ⟨e, hv, hf⟩ | ⟨i, j, rfl, rfl, hij, hj, hv, hf, e⟩
  · rw [e]
    simp only [hv] at HD
    clear e hv HW HF HH HCP HL HZ p0 p1
    go_enter Tryd.func87, Tryd.ntmps87
    go_wp2_with fail
    refine (HD.out _ B0.out).mono ?_
    rintro e w1 ⟨rfl, hb⟩
    have B1 := Lib.hid (below_step BW.out hb)
    clear hb
    go_wp2
    go_ret2
    exact Or.inl ⟨by decide, rfl, B1.out⟩
  · rw [e]
    simp only [hv] at HD
    rw [HZ.out] at hf
    simp only [hf] at HF
    clear e hv hf HH HCP HL HZ
    go_enter Tryd.func87, Tryd.ntmps87
    go_wp2_with fail
    refine (HD.out _ B0.out).mono ?_
    rintro e w1 ⟨rfl, hb⟩
    have B1 := Lib.hid (below_step BW.out hb)
    have B2 := Lib.hid (B0.out.trans (hb.mono (Nat.le_trans hB (by simp))))
    have q0 := cell_kept p0 hb
    have q1 := cell_kept p1 hb
    clear hb
    go_wp2_with fail
    go_region_held3 (fun W => W.cell? ⟨w.heap.size, 0, none⟩ = some (.int .i64 a) ∧ W.cell? ⟨w.heap.size, 1, none⟩ = some (.int .i64 b))
      (first | exact ⟨q0, q1⟩ | exact ⟨cell_kept (w := w1.drew) q0 K1.out, cell_kept (w := w1.drew) q1 K1.out⟩ | exact ⟨cell_kept (cell_kept (w := w1.drew) q0 K1.out) K3.out, cell_kept (cell_kept (w := w1.drew) q1 K1.out) K3.out⟩)
      (first
        | (go_at_call 50
           refine (HW.out _ B2.out.drew).mono ?_
           rintro e w2 ⟨rfl, hb⟩
           have K1 : Hid (Below w1.drew.heap.size w1.drew w2) := hb
           clear hb)
        | (go_at_call 99
           refine (HF.out _).mono ?_
           rintro e w3 ⟨rfl, hb⟩
           have K2 := Lib.hid (below_step (below_step B1.out.drew K1.out) hb)
           have K3 := Lib.hid hb
           clear hb))
    all_goals
      go_wp2
      go_ret2
      exact Or.inl ⟨by decide, rfl, K2.out⟩
  · simp only [hv] at HD
    have HV := Lib.hid hv
    have hn40 : n ≤ 40 := by
      have := deck_len hv
      rw [← HN.out]
      simpa [holes] using this
    have hf' := hf
    rw [HZ.out] at hf'
    simp only [hf'] at HF
    have HJ := Lib.hid hj
    rw [Int.toNat_natCast, Int.toNat_natCast]
    obtain ⟨r, hr⟩ : ∃ r, keysB (holes D) i j = r := ⟨_, rfl⟩
    rw [hr] at e
    rw [e]
    have HR := Lib.hid hr
    have hi0 : (0 : Int) ≤ (i : Int) := Int.natCast_nonneg _
    have hi1 : (i : Int) ≤ (j : Int) := by omega
    have hmk : ∀ W : World, (Instr.makeSlice 113 (.int .i64 n) (.int .i64 n)).run Tryd.prog W = .ok (.slice (some ⟨W.heap.size, 0, none⟩) n n) (W.alloc (.cells (cellsOf [] n).toArray 40)) := fun W => by
      obtain ⟨i0, hi0, hz0, hz1, hz2⟩ := info_parts info_list
      have hr := run_make (P := Tryd.prog) W 113 40 i0 _ Tryd.underlying113 hi0 hz0 .i64 .i64 n n (by omega) (Int.le_refl _) (by rw [hz2]; omega) (by omega)
      have e : madeCells (Value.slice none 0 0).cells ((n : Int).toNat * i0.size) = (cellsOf [] n).toArray := by
        rw [hz1, Int.toNat_natCast, Nat.mul_one]
        apply Array.ext
        · simp [size_madeCells, cellsOf, Value.cells]
        · intro i h1 h2
          simp [madeCells, cellsOf, Value.cells, Nat.mod_one]
      rw [e, Int.toNat_natCast] at hr
      exact hr
    clear hf hf' hv e hr hj
    go_enter Tryd.func87, Tryd.ntmps87
    go_wp2_with fail
    refine (HD.out _ B0.out).mono ?_
    rintro e w1 ⟨rfl, hb⟩
    have B1 := Lib.hid (below_step BW.out hb)
    have B2 := Lib.hid (B0.out.trans (hb.mono (Nat.le_trans hB (by simp))))
    have q0 := cell_kept p0 hb
    have q1 := cell_kept p1 hb
    clear hb p0 p1
    go_wp2_with fail
    go_region_held3 (fun W => W.cell? ⟨w.heap.size, 0, none⟩ = some (.int .i64 i) ∧ W.cell? ⟨w.heap.size, 1, none⟩ = some (.int .i64 j))
      (first | exact ⟨q0, q1⟩ | exact ⟨r0, r1⟩ | exact ⟨s0, s1⟩)
      (first
        | (go_at_call 50
           refine (HW.out _ B2.out.drew).mono ?_
           rintro e w2 ⟨rfl, hb⟩
           have K1 : Hid (Below w1.drew.heap.size w1.drew w2) := hb
           have r0 := cell_kept (w := w1.drew) q0 K1.out
           have r1 := cell_kept (w := w1.drew) q1 K1.out
           clear hb)
        | (go_at_call 99
           refine (HF.out _).mono ?_
           rintro e w3 ⟨rfl, hb⟩
           have K2 := Lib.hid (below_step (below_step B1.out.drew K1.out) hb)
           have s0 := cell_kept r0 hb
           have s1 := cell_kept r1 hb
           clear hb))
    all_goals
      have z3 : w.heap.size < w3.heap.size := World.block_lt_of_cell? _ _ s0
      clear q0 q1 r0 r1 K1 B1 B2
      go_wp2
      clear hmk
      go_loopw [24] (fun t wr => ∃ k : Nat, ∃ E : List CardV, k ≤ n ∧ t = .int .i64 k ∧ E.length = k ∧ Hid (keysB ((holes D).take k) i j = true) ∧ Hid (holes E = (rks (holes D) i j).take k) ∧ Hid (Below w3.heap.size w3 wr) ∧ Hid (OwnRows wr w3.heap.size E n)) (fun t _ => n - (intOf t).toNat)
      case atStart => exact ⟨0, [], Nat.zero_le _, rfl, rfl, by show _ = _; simp [keysB], by show _ = _; simp [holes], below_box w3 _, heap_alloc_new w3 _, fun e he => by cases he⟩
      case round =>
        obtain ⟨k, E, hk, rfl, hE, HK, HHE, HB, HO⟩ := hrel
        have t0 := cell_kept s0 HB.out
        have t1 := cell_kept s1 HB.out
        have hwr : w3.heap.size ≤ wr.heap.size := HB.out.size
        by_cases hlt : k < n
        · obtain ⟨d, hd⟩ : ∃ d, D[k]? = some d := ⟨D[k]'(by rw [HN.out]; exact hlt), List.getElem?_eq_getElem _⟩
          have hdx : (holes D)[k]? = some d.xs := by simp [holes, hd]
          obtain ⟨g1, g2⟩ := deck_width HV.out hdx
          have hxl : 0 < d.xs.length := by have := HJ.out; omega
          obtain ⟨bq, oq, rfl, _, hcell⟩ := (HH.out.below ((K2.out.mono hB).trans (HB.out.mono (Nat.le_trans hB (by omega))))) (by rw [HN.out]; omega)
          obtain ⟨hc, hi⟩ := hcell k d hd
          have hm := List.mem_of_getElem? hd
          obtain ⟨m1, m2⟩ := HCP.out d hm
          have hx1 := HL.out d hm
          obtain ⟨ad, zd, xd⟩ := d
          simp only at hc hi m1 m2 hx1 g1 g2 hxl hdx
          unfold CardV.value at hc
          simp only at hc
          obtain ⟨b2, o2, rfl, _⟩ := hi hxl
          have hjz : j ≤ xd.length := by rw [g2]; exact HJ.out
          have hpl := partOf_length xd i j hjz
          have hra := fun W hI hs hP => ranks_any (some ⟨b2, o2 + i, none⟩) (zd - i) (partOf xd i j) B W hI hs (by omega) hP
          obtain ⟨u, hu⟩ : ∃ u, textOk (partOf xd i j) = u := ⟨_, rfl⟩
          have hrk : (rks (holes D) i j)[k]? = some ((partOf xd i j).map rkI) := by rw [rks, List.getElem?_map, hdx]; rfl
          have Hu := Lib.hid hu
          have HDX := Lib.hid hdx
          have HRK := Lib.hid hrk
          simp only [hu, hpl] at hra
          have HRA := Lib.hid hra
          have hk0 : (0 : Int) ≤ (k : Int) := Int.natCast_nonneg _
          have hk1 : (k : Int) < (n : Int) := by omega
          have hj2 : (j : Int) ≤ (zd : Int) := by omega
          have hj3 : ¬ zd = i := by omega
          have HPT := Lib.hid (hi.part i j hij hjz)
          have HE := Lib.hid hE
          have HPW := Lib.hid (HPL.out.below (below_step K2.out HB.out))
          have hst : Hid ((cellsOf E n)[k]? = some (.slice none 0 0)) := by
            show _ = _
            rw [cellsOf, List.getElem?_append_right (by simp; omega), List.getElem?_replicate, if_pos (by simp; omega)]
          obtain ⟨nx, hnx⟩ : ∃ nx, xd.length = nx := ⟨_, rfl⟩
          rw [hnx] at hc
          have hlp : ((partOf xd i j).map rkI).length = j - i := by simp [hpl]
          have HLP := Lib.hid hlp
          clear hcell hd hi hra hdx hu hrk m1 m2 hx1 g1 g2 hxl hm hpl hnx hlp hE
          have bx := below_box wr (.cells #[.slice (some ⟨b2, o2, none⟩) nx zd] 55)
          have u0 := cell_kept t0 bx
          have u1 := cell_kept t1 bx
          have BX := Lib.hid bx
          have HPX := Lib.hid (HPW.out.below bx)
          have HPTX := Lib.hid (HPT.out.below (bx.mono (by omega)))
          have HBX := Lib.hid (below_step HB.out bx)
          have HOX := Lib.hid (HO.out.later bx)
          clear bx
          go_wp2_with fail
          refine (HRA.out _ HPTX.out (by simp; omega) HPX.out).mono ?_
          rintro e w5 (⟨hu, rfl, hb⟩ | ⟨hu, ge, rfl, hge, hb, hrow⟩)
          · obtain rfl : u = false := hu
            obtain rfl : r = false := by rw [← HR.out]; exact keysB_bad HDX.out Hu.out
            have HB5 := Lib.hid (below_step HBX.out hb)
            clear hb
            go_wp2
            go_ret2
            exact ⟨rfl, below_step K2.out HB5.out⟩
          · obtain rfl : u = true := hu
            have HK1 : Hid (keysB ((holes D).take (k + 1)) i j = true) := keysB_more HDX.out HK.out Hu.out
            have HB5 := Lib.hid (below_step HBX.out hb)
            have HO5 := Lib.hid (HOX.out.later hb)
            have HR5 := Lib.hid hrow
            have hg : w3.heap.size < ge := by
              have := HO.out.lt
              have h2 : wr.heap.size + 1 ≤ ge := by simpa using hge
              omega
            have c2 : w5.cell? ⟨w3.heap.size, k, none⟩ = some (.slice none 0 0) := by rw [HO5.out.cell k]; exact hst.out
            have f2 := HO5.out.frozen k
            obtain ⟨qs, hqs⟩ : ∃ qs, (partOf xd i j).map rkI = qs := ⟨_, rfl⟩
            rw [hqs] at HR5 HRK HLP
            have HH1 : Hid (∀ e : CardV, e.xs = qs → holes (E ++ [e]) = (rks (holes D) i j).take (k + 1)) := fun e he => by
              rw [List.take_add_one, HRK.out, ← HHE.out]
              simp [holes, he]
            clear hb hrow hge hqs
            go_wp2
            go_roundw
            case rel =>
              refine ⟨k + 1, E ++ [⟨some ⟨ge, 0, none⟩, qs.length, qs⟩], by omega, by go_num, by simp [HE.out], HK1, HH1.out _ rfl, HB5.out.setCell (Nat.le_refl _) _, ?_⟩
              have := HO5.out.put ⟨some ⟨ge, 0, none⟩, qs.length, qs⟩ ge (by rw [HE.out]; exact hlt) rfl hg rfl HR5.out
              rw [HE.out] at this
              rw [CardV.value] at this
              simp only [HLP.out] at this ⊢
              exact this
            case measure => simp [intOf]; omega
        · have hkn : k = n := by omega
          have hk1 : ¬ (k : Int) < (n : Int) := by omega
          obtain rfl : r = true := by
            rw [← HR.out]
            have := HK.out
            rwa [List.take_of_length_le (by simp [holes]; rw [HN.out]; omega)] at this
          have hrl : holes E = rks (holes D) i j := by
            rw [HHE.out, List.take_of_length_le (by simp [rks, holes]; rw [HN.out]; omega)]
          have HRL := Lib.hid hrl
          clear hkn HK hrl hE
          go_wp2
          go_ret2
          exact ⟨_, E, rfl, below_step K2.out HB.out, HRL.out, HO.out⟩
end
end Go.Proofs.YtmdamciheekeoaaDoor
