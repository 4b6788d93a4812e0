/- impl.AddToCounter: a contract, for every counter of at most 1048576 digits and every number. Conditions: the two errors of impl.dial and the table of powers of ten lie in their variables. -/
import Derived.Test.YtkiphejkgpfjjaaDoorCntOps
import Derived.Test.YtkiphejkgpfjjaaDoorCntTurn
import Derived.Test.YtkiphejkgpfjjaaDoorCounter
namespace Go.Proofs.YtkiphejkgpfjjaaDoor
open Go.ChangeShapes Go.WideShapes Go.ChangeAt Go.RowKit

/-- the zeros of an addition -/
abbrev zero15 : Array Value := #[Value.int .i8 0, Value.int .i8 0, Value.int .i8 0, Value.int .i8 0, Value.int .i8 0, Value.int .i8 0, Value.int .i8 0, Value.int .i8 0, Value.int .i8 0, Value.int .i8 0, Value.int .i8 0, Value.int .i8 0, Value.int .i64 0, Value.int .i64 0, Value.bool false]

set_option maxRecDepth 100000 in
set_option maxHeartbeats 4000000 in
theorem implAddK_any (A : Option Addr) (c : Nat) (xs : List Int) (B : Nat) (x : Int) (w : World) (h : Ints w B A xs) (hB : B ≤ w.heap.size) (hn : xs.length ≤ 1048576) (aW aS : Addr) (hD : DialErrs w aW aS) (hP : Pow10 w) (hx0 : -9223372036854775808 ≤ x) (hx1 : x ≤ 9223372036854775807) :
    Calls Tryd.prog 17 #[.agg #[.slice A xs.length c], .int .i64 x] w (GivesKB (addKA xs x) (addKU xs x) (numC xs x) w) := by
  have e1 := below_boxed (below_box w (.cells #[.slice A xs.length c] 24)) (.cells #[.slice none 0 0] 24)
  have r0 : ((w.alloc (.cells #[.slice A xs.length c] 24)).alloc (.cells #[.slice none 0 0] 24)).cell? ⟨w.heap.size + 1, 0, none⟩ = some (.slice none 0 0) := by simp [go_sem]
  have g0 : ((w.alloc (.cells #[.slice A xs.length c] 24)).alloc (.cells #[.slice none 0 0] 24)).frozen? ⟨w.heap.size + 1, 0, none⟩ = false := by simp [go_sem]
  have ho := operands_any A c xs B x ((w.alloc (.cells #[.slice A xs.length c] 24)).alloc (.cells #[.slice none 0 0] 24)) (h.below (e1.mono hB)) (Nat.le_trans hB e1.size) hn aW aS (hD.below e1) (hP.below e1) hx0 hx1
  by_cases e0 : numC xs x = 0
  · obtain ⟨hw, h1, h12, x0, x1⟩ := numC_zero e0
    have ho : Calls Tryd.prog 40 #[.agg #[.slice A xs.length c], .int .i64 x] ((w.alloc (.cells #[.slice A xs.length c] 24)).alloc (.cells #[.slice none 0 0] 24)) fun e w' => e = .returned (.tuple #[.agg (regV (reg12 xs) xs.length), .agg (regV (reg12 (digs xs.length x)) xs.length), .int .i64 0]) ∧ Below ((w.alloc (.cells #[.slice A xs.length c] 24)).alloc (.cells #[.slice none 0 0] 24)).heap.size ((w.alloc (.cells #[.slice A xs.length c] 24)).alloc (.cells #[.slice none 0 0] 24)) w' := by
      refine ho.mono ?_
      rintro e w' ⟨hb, h⟩
      rcases h with ⟨_, h⟩ | ⟨h, _⟩
      · exact ⟨h, hb⟩
      · exact absurd e0 h
    have hp := fun W => plus_any xs (digs xs.length x) xs.length xs.length W rfl (digs_length _ _).symm h12 hw (digs_wheels _ _)
    unfold GivesAdd at hp
    have hl1 := reg12_length (xs := xs) h12
    have hl2 := reg12_length (xs := digs xs.length x) (by rw [digs_length]; exact h12)
    have hlR := reg12_length (xs := addL xs (digs xs.length x) 0) (by rw [addL_length _ (digs_length _ _).symm]; exact h12)
    have ea : addKA xs x = addL xs (digs xs.length x) 0 := if_pos e0
    have hbo := addO_bounds (xs := xs) (ys := digs xs.length x) (c := 0) hw (digs_wheels _ _) (by omega) (by omega)
    have eu : addKU xs x = decide (0 < addO xs (digs xs.length x) 0) := by
      rw [addKU, if_pos e0]
      by_cases hh : addO xs (digs xs.length x) 0 = 1
      · simp [hh]
      · have : addO xs (digs xs.length x) 0 = 0 := by omega
        simp [this]
    have hal := addL_length (xs := xs) (ys := digs xs.length x) 0 (digs_length _ _).symm
    have hct := fun W => regCounter_any (addL xs (digs xs.length x) 0) W addL_wheels (by rw [hal]; exact h12)
    unfold GivesK1 at hct
    rw [hal] at hct
    rw [ea, eu, e0]
    have hav : addV (reg12 (addL xs (digs xs.length x) 0)) xs.length (addM xs (digs xs.length x) 0) (decide (0 < addO xs (digs xs.length x) 0)) = List.toArray ((regV (reg12 (addL xs (digs xs.length x) 0)) xs.length).toList ++ [Value.int .i64 (addM xs (digs xs.length x) 0), Value.bool (decide (0 < addO xs (digs xs.length x) 0))]) := by simp [addV, regV]
    have hs3 := addV_size (n := xs.length) (m := addM xs (digs xs.length x) 0) (b := decide (0 < addO xs (digs xs.length x) 0)) hlR
    have hq3 := add_one_cell (rs := reg12 (addL xs (digs xs.length x) 0)) (n := xs.length) (m := addM xs (digs xs.length x) 0) (b := decide (0 < addO xs (digs xs.length x) 0))
    have hsR := regV_size (n := xs.length) hlR
    obtain ⟨R, hR⟩ : ∃ R, addL xs (digs xs.length x) 0 = R := ⟨_, rfl⟩
    obtain ⟨m, hm⟩ : ∃ m, addM xs (digs xs.length x) 0 = m := ⟨_, rfl⟩
    obtain ⟨b, hbq⟩ : ∃ b, decide (0 < addO xs (digs xs.length x) 0) = b := ⟨_, rfl⟩
    simp only [hR, hm, hbq] at hp hav hs3 hq3 hsR hct
    rw [hR] at hal ⊢
    rw [hbq]
    obtain ⟨vR, hvR⟩ : ∃ v, regV (reg12 R) xs.length = v := ⟨_, rfl⟩
    obtain ⟨v3, hv3⟩ : ∃ v, addV (reg12 R) xs.length m b = v := ⟨_, rfl⟩
    simp only [hvR, hv3] at hp hav hs3 hq3 hsR hct
    obtain ⟨v1, hv1⟩ : ∃ v, regV (reg12 xs) xs.length = v := ⟨_, rfl⟩
    obtain ⟨v2, hv2⟩ : ∃ v, regV (reg12 (digs xs.length x)) xs.length = v := ⟨_, rfl⟩
    have hs1 : v1.size = 13 := by rw [← hv1]; exact regV_size hl1
    have hs2 : v2.size = 13 := by rw [← hv2]; exact regV_size hl2
    have hq1 : v1.all (·.oneCell') = true := by rw [← hv1]; exact reg_one
    have hq2 : v2.all (·.oneCell') = true := by rw [← hv2]; exact reg_one
    have hi1 : (Tryd.prog.info? 51).map (·.size) = some v1.size := by rw [hs1]; exact info_reg
    have hi2 : (Tryd.prog.info? 51).map (·.size) = some v2.size := by rw [hs2]; exact info_reg
    have ho1 : zeroK.size = v1.size := by rw [hs1]; rfl
    have ho2 : zeroK.size = v2.size := by rw [hs2]; rfl
    simp only [hv1, hv2] at hp
    rw [hv1, hv2] at ho
    have hi3 : (Tryd.prog.info? 70).map (·.size) = some v3.size := by rw [hs3]; exact info_add
    have ho3 : zero15.size = v3.size := by rw [hs3]; rfl
    obtain ⟨n, hN⟩ : ∃ n, xs.length = n := ⟨_, rfl⟩
    rw [hN] at ho e1 r0 g0 hal hct ⊢
    have HO := Lib.hid ho
    have HP := Lib.hid hp
    have R0 := Lib.hid r0
    have G0 := Lib.hid g0
    have HAL := Lib.hid hal
    have HCT := Lib.hid hct
    have HAV := Lib.hid hav
    have HSR := Lib.hid hsR
    have HI3 := Lib.hid hi3
    have HO3 := Lib.hid ho3
    have HQ3 := Lib.hid hq3
    have E1 := Lib.hid e1
    have HI1 := Lib.hid hi1
    have HI2 := Lib.hid hi2
    have HO1 := Lib.hid ho1
    have HO2 := Lib.hid ho2
    have HQ1 := Lib.hid hq1
    have HQ2 := Lib.hid hq2
    clear ho hp e1 r0 g0 hal hct hav hsR hi3 ho3 hq3 hs3 hbq hR hvR ea eu hbo hi1 hi2 ho1 ho2 hq1 hq2 hv1 hv2 hv3 hm hs1 hs2 hl1 hl2 hlR e0 hw h1 h12 x0 x1 h hN hn hD hP hB hx0 hx1
    go_enter Tryd.func17, Tryd.ntmps17
    go_wp2_with fail
    refine HO.out.mono ?_
    rintro e w1 ⟨rfl, hb⟩
    have B1 := Lib.hid (below_step E1.out hb)
    have r1 := Lib.hid (cell_kept R0.out hb)
    have f1 := Lib.hid (frozen_kept R0.out G0.out hb)
    have H6 : Hid (((w1.alloc (.cells zeroK 51)).alloc (.cells zeroK 51)).heap[w1.heap.size]? = some (.cells zeroK 51 (0, 0))) := by
      show _ = _
      rw [Below.heap_alloc _ _ _ (by simp)]
      exact heap_alloc_new w1 _
    have H7 : Hid ((((w1.alloc (.cells zeroK 51)).alloc (.cells zeroK 51)).setRow w1.heap.size v1).heap[w1.heap.size + 1]? = some (.cells zeroK 51 (0, 0))) := by
      show _ = _
      rw [setRow_heap_other _ (by omega)]
      have := heap_alloc_new (w1.alloc (.cells zeroK 51)) (.cells zeroK 51)
      simpa using this
    have L6 : Hid (((((w1.alloc (.cells zeroK 51)).alloc (.cells zeroK 51)).setRow w1.heap.size v1).setRow (w1.heap.size + 1) v2).heap[w1.heap.size]? = some (.cells v1 51 (0, 0))) := by
      show _ = _
      rw [setRow_heap_other _ (by omega)]
      exact setRow_same _ H6.out
    have L7 : Hid (((((w1.alloc (.cells zeroK 51)).alloc (.cells zeroK 51)).setRow w1.heap.size v1).setRow (w1.heap.size + 1) v2).heap[w1.heap.size + 1]? = some (.cells v2 51 (0, 0))) := setRow_same _ H7.out
    have B2 : Hid (Below w.heap.size w ((((w1.alloc (.cells zeroK 51)).alloc (.cells zeroK 51)).setRow w1.heap.size v1).setRow (w1.heap.size + 1) v2)) :=
      setRow_below (setRow_below (below_boxed (below_boxed B1.out _) _) B1.out.size _) (by have := B1.out.size; omega) _
    clear hb
    have r2 : Hid (((((w1.alloc (.cells zeroK 51)).alloc (.cells zeroK 51)).setRow w1.heap.size v1).setRow (w1.heap.size + 1) v2).cell? ⟨w.heap.size + 1, 0, none⟩ = some (.slice none 0 0)) := by
      have hlt : w.heap.size + 1 < w1.heap.size := World.block_lt_of_cell? _ _ r1.out
      exact setRow_cell _ (setRow_cell _ (cell_kept (cell_kept r1.out (below_box w1 _)) (below_box _ _)) (by show w.heap.size + 1 ≠ _; omega)) (by show w.heap.size + 1 ≠ _; omega)
    have f2 : Hid (((((w1.alloc (.cells zeroK 51)).alloc (.cells zeroK 51)).setRow w1.heap.size v1).setRow (w1.heap.size + 1) v2).frozen? ⟨w.heap.size + 1, 0, none⟩ = false) := by
      have hlt : w.heap.size + 1 < w1.heap.size := World.block_lt_of_cell? _ _ r1.out
      exact setRow_frozen _ (setRow_frozen _ (frozen_kept (cell_kept r1.out (below_box w1 _)) (frozen_kept r1.out f1.out (below_box w1 _)) (below_box _ _)) (by show w.heap.size + 1 ≠ _; omega)) (by show w.heap.size + 1 ≠ _; omega)
    go_upto_region 5 with (first
      | (refine wpList_store_row rfl 51 (.tmp 7) (.tmp 15) rfl w1.heap.size v1 rfl rfl _ _ H6.out HI1.out HO1.out HQ1.out ?_)
      | (refine wpList_store_row rfl 51 (.tmp 8) (.tmp 16) rfl (w1.heap.size + 1) v2 rfl rfl _ _ H7.out HI2.out HO2.out HQ2.out ?_)
      | (refine wpList_load_row rfl 51 (.tmp 7) rfl w1.heap.size rfl _ _ _ _ L6.out Tryd.underlying51 rfl HI1.out ?_)
      | (refine wpList_load_row rfl 51 (.tmp 8) rfl (w1.heap.size + 1) rfl _ _ _ _ L7.out Tryd.underlying51 rfl HI2.out ?_)
      | (go_at_call 41; refine (HP.out _).mono ?_; rintro e w5 ⟨rfl, hb5⟩; have B5 := Lib.hid (below_step B2.out hb5); have r5 := Lib.hid (cell_kept r2.out hb5); have f5 := Lib.hid (frozen_kept r2.out f2.out hb5); clear hb5)
      | (refine wpList_store_row rfl 70 (.tmp 10) (.tmp 24) rfl w5.heap.size v3 rfl rfl _ _ (heap_alloc_new w5 _) HI3.out HO3.out HQ3.out ?_)
      | fail)
    have A6 : ((w5.alloc (.cells zero15 70)).setRow w5.heap.size v3).heap[w5.heap.size]? = some (.cells v3 70 (0, 0)) := setRow_same _ (heap_alloc_new w5 _)
    have hlt5 : w.heap.size + 1 < w5.heap.size := World.block_lt_of_cell? _ _ r5.out
    have r6 : ((w5.alloc (.cells zero15 70)).setRow w5.heap.size v3).cell? ⟨w.heap.size + 1, 0, none⟩ = some (.slice none 0 0) := setRow_cell _ (cell_kept r5.out (below_box w5 _)) (by show w.heap.size + 1 ≠ _; omega)
    have f6 : ((w5.alloc (.cells zero15 70)).setRow w5.heap.size v3).frozen? ⟨w.heap.size + 1, 0, none⟩ = false := setRow_frozen _ (frozen_kept r5.out f5.out (below_box w5 _)) (by show w.heap.size + 1 ≠ _; omega)
    have B6 : Hid (Below w.heap.size w ((w5.alloc (.cells zero15 70)).setRow w5.heap.size v3)) := setRow_below (below_boxed B5.out _) B5.out.size _
    obtain ⟨p, hp⟩ : ∃ p, w5.heap.size = p := ⟨_, rfl⟩
    have hzz : Hid (((w5.alloc (.cells zero15 70)).setRow w5.heap.size v3).heap.size = p + 1) := by show _ = _; rw [size_setRow, World.size_alloc, hp]
    generalize ((w5.alloc (.cells zero15 70)).setRow w5.heap.size v3) = w6 at *
    rw [hp] at A6 hlt5 ⊢
    clear hp
    obtain ⟨a0, a1, a2, a3, a4, a5, a6, a7, a8, a9, a10, a11, a12, hv⟩ := cells13 HSR.out
    have hav := HAV.out
    rw [hv] at hav
    have hld : ∀ W : World, W.heap[p]? = some (.cells v3 70 (0, 0)) → W.cell? ⟨p, 0, none⟩ = some a0 ∧ W.cell? ⟨p, 1, none⟩ = some a1 ∧ W.cell? ⟨p, 2, none⟩ = some a2 ∧ W.cell? ⟨p, 3, none⟩ = some a3 ∧ W.cell? ⟨p, 4, none⟩ = some a4 ∧ W.cell? ⟨p, 5, none⟩ = some a5 ∧ W.cell? ⟨p, 6, none⟩ = some a6 ∧ W.cell? ⟨p, 7, none⟩ = some a7 ∧ W.cell? ⟨p, 8, none⟩ = some a8 ∧ W.cell? ⟨p, 9, none⟩ = some a9 ∧ W.cell? ⟨p, 10, none⟩ = some a10 ∧ W.cell? ⟨p, 11, none⟩ = some a11 ∧ W.cell? ⟨p, 12, none⟩ = some a12 ∧ W.cell? ⟨p, 14, none⟩ = some (.bool b) := fun W hW => by
      rw [hav] at hW
      refine ⟨?_, ?_, ?_, ?_, ?_, ?_, ?_, ?_, ?_, ?_, ?_, ?_, ?_, ?_⟩ <;> rw [cell_of_row W p _ _ _ _ hW] <;> rfl
    have heq := hv.symm
    clear hv hav
    go_region_held3 (fun W => W.heap[p]? = some (.cells v3 70 (0, 0)))
      (first | exact A6 | exact A7 | exact (Below.heap_setCell _ _ _ _ (by show p ≠ w.heap.size + 1; omega)).trans A7)
      (first
        | (go_at_call 34
           refine (HCT.out _).mono ?_
           rintro e w7 ⟨g, cap, ex, rfl, hg, hb, hr⟩
           have A7 := (hb.block p (Array.getElem?_eq_some_iff.1 A6).1).trans A6
           have r7 := cell_kept (w := w6.drew) r6 hb
           have f7 := frozen_kept (w := w6.drew) r6 f6 hb
           have B7 := Lib.hid (below_step B6.out.drew hb)
           have HR7 := Lib.hid hr
           have HG7 : Hid (p + 1 ≤ g) := by show _ ≤ _; have := hzz.out; have h8 : w6.drew.heap.size = p + 1 := this; omega
           clear hb hr hg))
    all_goals
      go_wp2_with fail
      refine bodyPost_ret (v := .tuple #[.agg #[.slice (some ⟨g, 0, none⟩) n cap], .bool b, .int .i64 0]) (by simp [results, Tryd.results17, go_sem, r7]) rfl ⟨some ⟨g, 0, none⟩, cap, by rw [HAL.out], B7.out.setCell (by show w.heap.size ≤ w.heap.size + 1; omega) _, ?_⟩
      exact GivesK1.kc (cap := cap) (by have := HG7.out; omega) (HR7.out.far (by have := HG7.out; show g ≠ w.heap.size + 1; omega) _)
  · have ho : Calls Tryd.prog 40 #[.agg #[.slice A xs.length c], .int .i64 x] ((w.alloc (.cells #[.slice A xs.length c] 24)).alloc (.cells #[.slice none 0 0] 24)) fun e w' => e = .returned (.tuple #[.agg zeroK, .agg zeroK, .int .i64 (numC xs x)]) ∧ Below ((w.alloc (.cells #[.slice A xs.length c] 24)).alloc (.cells #[.slice none 0 0] 24)).heap.size ((w.alloc (.cells #[.slice A xs.length c] 24)).alloc (.cells #[.slice none 0 0] 24)) w' := by
      refine ho.mono ?_
      rintro e w' ⟨hb, h⟩
      rcases h with ⟨h, _⟩ | ⟨_, h⟩
      · exact absurd h e0
      · exact ⟨h, hb⟩
    have ea : addKA xs x = [] := if_neg e0
    have eu : addKU xs x = false := if_neg e0
    have hi : (Tryd.prog.info? 51).map (·.size) = some zeroK.size := info_reg
    rw [ea, eu]
    obtain ⟨q, hq⟩ : ∃ q, numC xs x = q := ⟨_, rfl⟩
    obtain ⟨n, hN⟩ : ∃ n, xs.length = n := ⟨_, rfl⟩
    rw [hq] at ho e0 ⊢
    rw [hN] at ho e1 r0 g0 ⊢
    have R0 := Lib.hid r0
    have G0 := Lib.hid g0
    have HO := Lib.hid ho
    have E1 := Lib.hid e1
    have HI := Lib.hid hi
    clear ho e1 r0 g0 ea eu hq hN h hn hD hP hB hx0 hx1 hi
    go_enter Tryd.func17, Tryd.ntmps17
    go_wp2_with fail
    refine HO.out.mono ?_
    rintro e w1 ⟨rfl, hb⟩
    have B1 := Lib.hid (below_step E1.out hb)
    have r1 := Lib.hid (cell_kept R0.out hb)
    have f1 := Lib.hid (frozen_kept R0.out G0.out hb)
    have H6 : Hid (((w1.alloc (.cells zeroK 51)).alloc (.cells zeroK 51)).heap[w1.heap.size]? = some (.cells zeroK 51 (0, 0))) := by
      show _ = _
      rw [Below.heap_alloc _ _ _ (by simp)]
      exact heap_alloc_new w1 _
    have H7 : Hid ((((w1.alloc (.cells zeroK 51)).alloc (.cells zeroK 51)).setRow w1.heap.size zeroK).heap[w1.heap.size + 1]? = some (.cells zeroK 51 (0, 0))) := by
      show _ = _
      rw [setRow_heap_other _ (by omega)]
      have := heap_alloc_new (w1.alloc (.cells zeroK 51)) (.cells zeroK 51)
      simpa using this
    have B2 : Hid (Below w.heap.size w ((((w1.alloc (.cells zeroK 51)).alloc (.cells zeroK 51)).setRow w1.heap.size zeroK).setRow (w1.heap.size + 1) zeroK)) :=
      setRow_below (setRow_below (below_boxed (below_boxed B1.out _) _) B1.out.size _) (by have := B1.out.size; omega) _
    clear hb
    have r2 : (((((w1.alloc (.cells zeroK 51)).alloc (.cells zeroK 51)).setRow w1.heap.size zeroK).setRow (w1.heap.size + 1) zeroK).cell? ⟨w.heap.size + 1, 0, none⟩ = some (.slice none 0 0)) := by
      have hlt : w.heap.size + 1 < w1.heap.size := World.block_lt_of_cell? _ _ r1.out
      exact setRow_cell _ (setRow_cell _ (cell_kept (cell_kept r1.out (below_box w1 _)) (below_box _ _)) (by show w.heap.size + 1 ≠ _; omega)) (by show w.heap.size + 1 ≠ _; omega)
    have f2 : (((((w1.alloc (.cells zeroK 51)).alloc (.cells zeroK 51)).setRow w1.heap.size zeroK).setRow (w1.heap.size + 1) zeroK).frozen? ⟨w.heap.size + 1, 0, none⟩ = false) := by
      have hlt : w.heap.size + 1 < w1.heap.size := World.block_lt_of_cell? _ _ r1.out
      exact setRow_frozen _ (setRow_frozen _ (frozen_kept (cell_kept r1.out (below_box w1 _)) (frozen_kept r1.out f1.out (below_box w1 _)) (below_box _ _)) (by show w.heap.size + 1 ≠ _; omega)) (by show w.heap.size + 1 ≠ _; omega)
    go_wp2_with (first
      | (refine wpList_store_row rfl 51 (.tmp 7) (.tmp 15) rfl w1.heap.size zeroK rfl rfl _ _ H6.out HI.out rfl zero_one ?_)
      | (refine wpList_store_row rfl 51 (.tmp 8) (.tmp 16) rfl (w1.heap.size + 1) zeroK rfl rfl _ _ H7.out HI.out rfl zero_one ?_)
      | fail)
    exact bodyPost_ret (v := .tuple #[.agg #[.slice none 0 0], .bool false, .int .i64 q]) (by simp [results, Tryd.results17, go_sem, r2]) rfl ⟨none, 0, rfl, B2.out.setCell (by show w.heap.size ≤ w.heap.size + 1; omega) _, IAt.nil (Nat.le_refl _)⟩

end Go.Proofs.YtkiphejkgpfjjaaDoor
