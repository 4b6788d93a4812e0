/- impl.TakeFromCounter: a contract, for every counter of at most 1048576 digits and every number. Conditions: the two errors of impl.dial and the table of powers of ten lie in their variables. -/
import Derived.Test.YtkiphejkgpfjjaaDoorCntOps
import Derived.Test.YtkiphejkgpfjjaaDoorCntAddI
import Derived.Test.YtkiphejkgpfjjaaDoorCntTakeS
namespace Go.Proofs.YtkiphejkgpfjjaaDoor
open Go.ChangeShapes Go.WideShapes Go.ChangeAt Go.RowKit

/-- what region 4 leaves: the sum -/
def CutSum (w : World) (v : Array Value) (s10 : Value) (wx : World) : Prop :=
  ∃ g, s10 = .pointer (some ⟨g, 0, none⟩) ∧ w.heap.size ≤ g ∧ wx.heap[g]? = some (.cells v 70 (0, 0)) ∧ Below w.heap.size w wx
theorem store_sum (w : World) (g : Nat) (cs : Array Value) (hg : w.heap[g]? = some (.cells zero15 70 (0, 0))) (ho : cs.size = 15) (h1 : cs.all (·.oneCell') = true) :
    (storeCells ⟨g, 0, none⟩ cs.toList).run Tryd.prog w = .ok () (w.setRow g cs) := by
  have hi : (Tryd.prog.info? 70).map (·.size) = some cs.size := by rw [ho]; exact info_add
  have h := run_storeVar_row (P := Tryd.prog) w g 70 70 zero15 cs hg hi (by rw [ho]; rfl) h1
  cases hq : Tryd.prog.info? 70 with
  | none => simp [hq] at hi
  | some i =>
    have hs : cs.size = i.size := by simp [hq] at hi; omega
    simpa [storeVar, sizeOf, typeInfo, hq, Value.cells, hs] using h

set_option maxRecDepth 100000 in
set_option maxHeartbeats 4000000 in
theorem implTakeK_any (A : Option Addr) (c : Nat) (xs : List Int) (B : Nat) (x : Int) (w : World) (h : Ints w B A xs) (hB : B ≤ w.heap.size) (hn : xs.length ≤ 1048576) (aW aS : Addr) (hD : DialErrs w aW aS) (hP : Pow10 w) (hx0 : -9223372036854775808 ≤ x) (hx1 : x ≤ 9223372036854775807) :
    Calls Tryd.prog 19 #[.agg #[.slice A xs.length c], .int .i64 x] w (GivesKB (takeKA xs x) (takeKU xs x) (numC xs x) w) := by
  have e1 := below_boxed (below_box w (.cells #[.slice A xs.length c] 24)) (.cells #[.slice none 0 0] 24)
  have r0 : ((w.alloc (.cells #[.slice A xs.length c] 24)).alloc (.cells #[.slice none 0 0] 24)).cell? ⟨w.heap.size + 1, 0, none⟩ = some (.slice none 0 0) := by simp [go_sem]
  have g0 : ((w.alloc (.cells #[.slice A xs.length c] 24)).alloc (.cells #[.slice none 0 0] 24)).frozen? ⟨w.heap.size + 1, 0, none⟩ = false := by simp [go_sem]
  have ho := operands_any A c xs B x ((w.alloc (.cells #[.slice A xs.length c] 24)).alloc (.cells #[.slice none 0 0] 24)) (h.below (e1.mono hB)) (Nat.le_trans hB e1.size) hn aW aS (hD.below e1) (hP.below e1) hx0 hx1
  by_cases e0 : numC xs x = 0
  · obtain ⟨hw, h1, h12, x0, x1⟩ := numC_zero e0
    have ho : Calls Tryd.prog 40 #[.agg #[.slice A xs.length c], .int .i64 x] ((w.alloc (.cells #[.slice A xs.length c] 24)).alloc (.cells #[.slice none 0 0] 24)) fun e w' => e = .returned (.tuple #[.agg (regV (reg12 xs) xs.length), .agg (regV (reg12 (digs xs.length x)) xs.length), .int .i64 0]) ∧ Below ((w.alloc (.cells #[.slice A xs.length c] 24)).alloc (.cells #[.slice none 0 0] 24)).heap.size ((w.alloc (.cells #[.slice A xs.length c] 24)).alloc (.cells #[.slice none 0 0] 24)) w' := by
      refine ho.mono ?_
      rintro e w' ⟨hb, h⟩
      rcases h with ⟨_, h⟩ | ⟨h, _⟩
      · exact ⟨h, hb⟩
      · exact absurd e0 h
    have hyl : (compL (digs xs.length x)).length = xs.length := by rw [compL_length, digs_length]
    have hyw := compL_wheels (digs_wheels xs.length x)
    have hcm := fun W => regComplement_any (digs xs.length x) W (digs_wheels _ _) (by rw [digs_length]; exact h12)
    unfold GivesReg at hcm
    rw [digs_length] at hcm
    have hl1 := reg12_length (xs := xs) h12
    have hl2 := reg12_length (xs := digs xs.length x) (by rw [digs_length]; exact h12)
    obtain ⟨Y, hY⟩ : ∃ Y, compL (digs xs.length x) = Y := ⟨_, rfl⟩
    have ea : takeKA xs x = aroundL xs Y := by rw [takeKA, if_pos e0, hY]
    rw [hY] at hyl hyw
    simp only [hY] at hcm
    have hp := fun W => around_any xs Y xs.length xs.length W rfl hyl.symm h12 hw hyw
    unfold GivesAdd at hp
    have hal := aroundL_length (xs := xs) (ys := Y) hyl.symm
    have hlR := reg12_length (xs := aroundL xs Y) (by rw [hal]; exact h12)
    have hbo := addO_bounds (xs := xs) (ys := Y) (c := 0) hw hyw (by omega) (by omega)
    have eu : takeKU xs x = decide (0 < addO xs Y 0) := by
      rw [takeKU, if_pos e0, hY]
      by_cases hh : addO xs Y 0 = 1
      · simp [hh]
      · have : addO xs Y 0 = 0 := by omega
        simp [this]
    have harw : wheelsB (aroundL xs Y) = true := by unfold aroundL; split <;> exact addL_wheels
    have hct := fun W => regCounter_any (aroundL xs Y) W harw (by rw [hal]; exact h12)
    unfold GivesK1 at hct
    rw [hal] at hct
    rw [ea, eu, e0]
    have hav : addV (reg12 (aroundL xs Y)) xs.length (addM xs Y 0) (decide (0 < addO xs Y 0)) = List.toArray ((regV (reg12 (aroundL xs Y)) xs.length).toList ++ [Value.int .i64 (addM xs Y 0), Value.bool (decide (0 < addO xs Y 0))]) := by simp [addV, regV]
    have hs3 := addV_size (n := xs.length) (m := addM xs Y 0) (b := decide (0 < addO xs Y 0)) hlR
    have hq3 := add_one_cell (rs := reg12 (aroundL xs Y)) (n := xs.length) (m := addM xs Y 0) (b := decide (0 < addO xs Y 0))
    have hsR := regV_size (n := xs.length) hlR
    obtain ⟨R, hR⟩ : ∃ R, aroundL xs Y = R := ⟨_, rfl⟩
    obtain ⟨m, hm⟩ : ∃ m, addM xs Y 0 = m := ⟨_, rfl⟩
    obtain ⟨b, hbq⟩ : ∃ b, decide (0 < addO xs Y 0) = b := ⟨_, rfl⟩
    simp only [hR, hm, hbq] at hp hav hs3 hq3 hsR hct
    rw [hR] at hal ⊢
    rw [hbq]
    obtain ⟨vR, hvR⟩ : ∃ v, regV (reg12 R) xs.length = v := ⟨_, rfl⟩
    obtain ⟨v3, hv3⟩ : ∃ v, addV (reg12 R) xs.length m b = v := ⟨_, rfl⟩
    obtain ⟨vC, hvC⟩ : ∃ v, regV (reg12 Y) xs.length = v := ⟨_, rfl⟩
    simp only [hvR, hv3, hvC] at hp hav hs3 hq3 hsR hct
    simp only [hvC] at hcm
    obtain ⟨v1, hv1⟩ : ∃ v, regV (reg12 xs) xs.length = v := ⟨_, rfl⟩
    obtain ⟨v2, hv2⟩ : ∃ v, regV (reg12 (digs xs.length x)) xs.length = v := ⟨_, rfl⟩
    have hs1 : v1.size = 13 := by rw [← hv1]; exact regV_size hl1
    have hs2 : v2.size = 13 := by rw [← hv2]; exact regV_size hl2
    have hq1 : v1.all (·.oneCell') = true := by rw [← hv1]; exact reg_one
    have hq2 : v2.all (·.oneCell') = true := by rw [← hv2]; exact reg_one
    have hi1 : (Tryd.prog.info? 51).map (·.size) = some v1.size := by rw [hs1]; exact info_reg
    have hi2 : (Tryd.prog.info? 51).map (·.size) = some v2.size := by rw [hs2]; exact info_reg
    have ho1 : zeroK.size = v1.size := by rw [hs1]; rfl
    have ho2 : zeroK.size = v2.size := by rw [hs2]; rfl
    simp only [hv1] at hp
    simp only [hv2] at hcm
    rw [hv1, hv2] at ho
    obtain ⟨n, hN⟩ : ∃ n, xs.length = n := ⟨_, rfl⟩
    rw [hN] at ho e1 r0 g0 hal hct ⊢
    have HO := Lib.hid ho
    have HP := Lib.hid hp
    have R0 := Lib.hid r0
    have G0 := Lib.hid g0
    have HAL := Lib.hid hal
    have HCT := Lib.hid hct
    have HAV := Lib.hid hav
    have HSR := Lib.hid hsR
    have HCM := Lib.hid hcm
    have SU3 := Lib.hid (fun W g hg => store_sum W g v3 hg hs3 hq3)
    have HS3 := Lib.hid hs3
    have HS1 := Lib.hid hs1
    have HS2 := Lib.hid hs2
    have E1 := Lib.hid e1
    have HI1 := Lib.hid hi1
    have HI2 := Lib.hid hi2
    have HO1 := Lib.hid ho1
    have HO2 := Lib.hid ho2
    have HQ1 := Lib.hid hq1
    have HQ2 := Lib.hid hq2
    clear ho hp hcm e1 r0 g0 hal hct hav hsR hq3 hs3 hbq hR hvR hvC hY hyl hyw harw ea eu hbo hi1 hi2 ho1 ho2 hq1 hq2 hv1 hv2 hv3 hm hs1 hs2 hl1 hl2 hlR e0 hw h1 h12 x0 x1 h hN hn hD hP hB hx0 hx1
    go_enter Tryd.func19, Tryd.ntmps19
    go_wp2_with fail
    refine HO.out.mono ?_
    rintro e w1 ⟨rfl, hb⟩
    have B1 := Lib.hid (below_step E1.out hb)
    have r1 := Lib.hid (cell_kept R0.out hb)
    have f1 := Lib.hid (frozen_kept R0.out G0.out hb)
    have H6 : Hid (((w1.alloc (.cells zeroK 51)).alloc (.cells zeroK 51)).heap[w1.heap.size]? = some (.cells zeroK 51 (0, 0))) := by
      show _ = _
      rw [Below.heap_alloc _ _ _ (by simp)]
      exact heap_alloc_new w1 _
    have H7 : Hid ((((w1.alloc (.cells zeroK 51)).alloc (.cells zeroK 51)).setRow w1.heap.size v1).heap[w1.heap.size + 1]? = some (.cells zeroK 51 (0, 0))) := by
      show _ = _
      rw [setRow_heap_other _ (by omega)]
      have := heap_alloc_new (w1.alloc (.cells zeroK 51)) (.cells zeroK 51)
      simpa using this
    have L6 : Hid (((((w1.alloc (.cells zeroK 51)).alloc (.cells zeroK 51)).setRow w1.heap.size v1).setRow (w1.heap.size + 1) v2).heap[w1.heap.size]? = some (.cells v1 51 (0, 0))) := by
      show _ = _
      rw [setRow_heap_other _ (by omega)]
      exact setRow_same _ H6.out
    have L7 : Hid (((((w1.alloc (.cells zeroK 51)).alloc (.cells zeroK 51)).setRow w1.heap.size v1).setRow (w1.heap.size + 1) v2).heap[w1.heap.size + 1]? = some (.cells v2 51 (0, 0))) := setRow_same _ H7.out
    have B2 : Hid (Below w.heap.size w ((((w1.alloc (.cells zeroK 51)).alloc (.cells zeroK 51)).setRow w1.heap.size v1).setRow (w1.heap.size + 1) v2)) :=
      setRow_below (setRow_below (below_boxed (below_boxed B1.out _) _) B1.out.size _) (by have := B1.out.size; omega) _
    clear hb
    have r2 : Hid (((((w1.alloc (.cells zeroK 51)).alloc (.cells zeroK 51)).setRow w1.heap.size v1).setRow (w1.heap.size + 1) v2).cell? ⟨w.heap.size + 1, 0, none⟩ = some (.slice none 0 0)) := by
      have hlt : w.heap.size + 1 < w1.heap.size := World.block_lt_of_cell? _ _ r1.out
      exact setRow_cell _ (setRow_cell _ (cell_kept (cell_kept r1.out (below_box w1 _)) (below_box _ _)) (by show w.heap.size + 1 ≠ _; omega)) (by show w.heap.size + 1 ≠ _; omega)
    have f2 : Hid (((((w1.alloc (.cells zeroK 51)).alloc (.cells zeroK 51)).setRow w1.heap.size v1).setRow (w1.heap.size + 1) v2).frozen? ⟨w.heap.size + 1, 0, none⟩ = false) := by
      have hlt : w.heap.size + 1 < w1.heap.size := World.block_lt_of_cell? _ _ r1.out
      exact setRow_frozen _ (setRow_frozen _ (frozen_kept (cell_kept r1.out (below_box w1 _)) (frozen_kept r1.out f1.out (below_box w1 _)) (below_box _ _)) (by show w.heap.size + 1 ≠ _; omega)) (by show w.heap.size + 1 ≠ _; omega)
    go_upto_region 4 with (first
      | (refine wpList_store_row rfl 51 (.tmp 7) (.tmp 15) rfl w1.heap.size v1 rfl rfl _ _ H6.out HI1.out HO1.out HQ1.out ?_)
      | (refine wpList_store_row rfl 51 (.tmp 8) (.tmp 16) rfl (w1.heap.size + 1) v2 rfl rfl _ _ H7.out HI2.out HO2.out HQ2.out ?_)
      | fail)
    have l6 := L6.out
    have l7 := L7.out
    clear L6 L7 H6 H7
    generalize ((((w1.alloc (.cells zeroK 51)).alloc (.cells zeroK 51)).setRow w1.heap.size v1).setRow (w1.heap.size + 1) v2) = w4 at *
    obtain ⟨p1, hp1⟩ : ∃ p, w1.heap.size = p := ⟨_, rfl⟩
    rw [hp1] at l6 l7 ⊢
    go_cut [10] (fun s10 wx => CutSum w4 v3 s10 wx)
    case first =>
      have K0 := Lib.hid (below_drew (Below.refl w4.heap.size w4))
      obtain ⟨a0, a1, a2, a3, a4, a5, a6, a7, a8, a9, a10, a11, a12, hva⟩ := cells13 HS1.out
      obtain ⟨c0, c1, c2, c3, c4, c5, c6, c7, c8, c9, c10, c11, c12, hvc⟩ := cells13 HS2.out
      have hla : ∀ W : World, W.heap[p1]? = some (.cells v1 51 (0, 0)) → W.cell? ⟨p1, 0, none⟩ = some a0 ∧ W.cell? ⟨p1, 1, none⟩ = some a1 ∧ W.cell? ⟨p1, 2, none⟩ = some a2 ∧ W.cell? ⟨p1, 3, none⟩ = some a3 ∧ W.cell? ⟨p1, 4, none⟩ = some a4 ∧ W.cell? ⟨p1, 5, none⟩ = some a5 ∧ W.cell? ⟨p1, 6, none⟩ = some a6 ∧ W.cell? ⟨p1, 7, none⟩ = some a7 ∧ W.cell? ⟨p1, 8, none⟩ = some a8 ∧ W.cell? ⟨p1, 9, none⟩ = some a9 ∧ W.cell? ⟨p1, 10, none⟩ = some a10 ∧ W.cell? ⟨p1, 11, none⟩ = some a11 ∧ W.cell? ⟨p1, 12, none⟩ = some a12 := fun W hW => by
        rw [hva] at hW
        refine ⟨?_, ?_, ?_, ?_, ?_, ?_, ?_, ?_, ?_, ?_, ?_, ?_, ?_⟩ <;> rw [cell_of_row W p1 _ _ _ _ hW] <;> rfl
      have hlc : ∀ W : World, W.heap[p1 + 1]? = some (.cells v2 51 (0, 0)) → W.cell? ⟨p1 + 1, 0, none⟩ = some c0 ∧ W.cell? ⟨p1 + 1, 1, none⟩ = some c1 ∧ W.cell? ⟨p1 + 1, 2, none⟩ = some c2 ∧ W.cell? ⟨p1 + 1, 3, none⟩ = some c3 ∧ W.cell? ⟨p1 + 1, 4, none⟩ = some c4 ∧ W.cell? ⟨p1 + 1, 5, none⟩ = some c5 ∧ W.cell? ⟨p1 + 1, 6, none⟩ = some c6 ∧ W.cell? ⟨p1 + 1, 7, none⟩ = some c7 ∧ W.cell? ⟨p1 + 1, 8, none⟩ = some c8 ∧ W.cell? ⟨p1 + 1, 9, none⟩ = some c9 ∧ W.cell? ⟨p1 + 1, 10, none⟩ = some c10 ∧ W.cell? ⟨p1 + 1, 11, none⟩ = some c11 ∧ W.cell? ⟨p1 + 1, 12, none⟩ = some c12 := fun W hW => by
        rw [hvc] at hW
        refine ⟨?_, ?_, ?_, ?_, ?_, ?_, ?_, ?_, ?_, ?_, ?_, ?_, ?_⟩ <;> rw [cell_of_row W (p1 + 1) _ _ _ _ hW] <;> rfl
      have hea := hva.symm
      have hec := hvc.symm
      clear hva hvc
      have su := SU3.out
      have sf := fun (W : World) => su (W.alloc (.cells zero15 70)) W.heap.size (heap_alloc_new W _)
      have hs3 := HS3.out
      have k6 : ∀ W, Below w4.heap.size w4 W → W.heap[p1]? = some (.cells v1 51 (0, 0)) ∧ W.heap[p1 + 1]? = some (.cells v2 51 (0, 0)) := fun W hW => ⟨(hW.block p1 (Array.getElem?_eq_some_iff.1 l6).1).trans l6, (hW.block (p1 + 1) (Array.getElem?_eq_some_iff.1 l7).1).trans l7⟩
      have K6 := Lib.hid k6
      clear k6
      go_region_held3 (fun W => W.heap[p1]? = some (.cells v1 51 (0, 0)) ∧ W.heap[p1 + 1]? = some (.cells v2 51 (0, 0)))
        (first | exact K6.out _ K0.out | exact K6.out _ (below_boxed K0.out _) | exact K6.out _ K1.out | exact K6.out _ (below_boxed K1.out _) | exact K6.out _ K2.out | exact K6.out _ (below_boxed K2.out _) | exact K6.out _ (setRow_below (below_boxed K2.out _) K2.out.size _) | exact K6.out _ (setRow_below K2.out (Nat.le_refl _) _) | exact K6.out _ (setRow_below K2.out K1.out.size _))
        (first
          | (go_at_call 44
             refine (HCM.out (w4.drew.alloc (.cells zero15 70))).mono ?_
             rintro e w2 ⟨rfl, hb⟩
             have K1 : Hid (Below w4.heap.size w4 w2) := below_step (below_boxed K0.out _) hb
             have X1 : Hid (w2.heap[w4.heap.size]? = some (.cells zero15 70 (0, 0))) := (hb.block _ (by simp)).trans (heap_alloc_new w4.drew _)
             clear hb)
          | (go_at_call 44
             refine (HCM.out w4.drew).mono ?_
             rintro e w2 ⟨rfl, hb⟩
             have K1 : Hid (Below w4.heap.size w4 w2) := below_step K0.out hb
             clear hb)
          | (go_at_call 43
             refine (HP.out (w2.alloc (.cells zero15 70))).mono ?_
             rintro e w3 ⟨rfl, hb⟩
             have K2 : Hid (Below w4.heap.size w4 w3) := below_step (below_boxed K1.out _) hb
             have X2 : w3.heap[w2.heap.size]? = some (.cells zero15 70 (0, 0)) := (hb.block _ (by simp)).trans (heap_alloc_new w2 _)
             clear hb)
          | (go_at_call 43
             refine (HP.out w2).mono ?_
             rintro e w3 ⟨rfl, hb⟩
             have K2 : Hid (Below w4.heap.size w4 w3) := below_step K1.out hb
             have X2 : w3.heap[w4.heap.size]? = some (.cells zero15 70 (0, 0)) := (hb.block _ (Array.getElem?_eq_some_iff.1 X1.out).1).trans X1.out
             clear hb)
          | (go_at_call 43
             refine (HP.out w2).mono ?_
             rintro e w3 ⟨rfl, hb⟩
             have K2 : Hid (Below w4.heap.size w4 w3) := below_step K1.out hb
             clear hb))
      all_goals (go_wp2_with fail; go_meet; first | exact ⟨w3.heap.size, rfl, K2.out.size, setRow_same _ (heap_alloc_new w3 _), setRow_below (below_boxed K2.out _) K2.out.size _⟩ | exact ⟨w4.heap.size, rfl, Nat.le_refl _, setRow_same _ X2, setRow_below K2.out (Nat.le_refl _) _⟩ | exact ⟨w2.heap.size, rfl, K1.out.size, setRow_same _ X2, setRow_below K2.out K1.out.size _⟩)
    case rest =>
    obtain ⟨p, rfl, hp4, A6, hb⟩ := hcut
    rename World => w6
    have r6 := cell_kept r2.out hb
    have f6 := frozen_kept r2.out f2.out hb
    have B6 := Lib.hid (below_step B2.out hb)
    have hlt5 : w.heap.size + 1 < p := Nat.lt_of_lt_of_le (World.block_lt_of_cell? _ _ r2.out) hp4
    have hpz : p < w6.heap.size := (Array.getElem?_eq_some_iff.1 A6).1
    have hzz : Hid (p + 1 ≤ w6.heap.size) := hpz
    clear hb hp4 HCM SU3 HP l6 l7 r2 f2 hp1 hpz
    go_upto_region 5 with fail
    obtain ⟨a0, a1, a2, a3, a4, a5, a6, a7, a8, a9, a10, a11, a12, hv⟩ := cells13 HSR.out
    have hav := HAV.out
    rw [hv] at hav
    have hld : ∀ W : World, W.heap[p]? = some (.cells v3 70 (0, 0)) → W.cell? ⟨p, 0, none⟩ = some a0 ∧ W.cell? ⟨p, 1, none⟩ = some a1 ∧ W.cell? ⟨p, 2, none⟩ = some a2 ∧ W.cell? ⟨p, 3, none⟩ = some a3 ∧ W.cell? ⟨p, 4, none⟩ = some a4 ∧ W.cell? ⟨p, 5, none⟩ = some a5 ∧ W.cell? ⟨p, 6, none⟩ = some a6 ∧ W.cell? ⟨p, 7, none⟩ = some a7 ∧ W.cell? ⟨p, 8, none⟩ = some a8 ∧ W.cell? ⟨p, 9, none⟩ = some a9 ∧ W.cell? ⟨p, 10, none⟩ = some a10 ∧ W.cell? ⟨p, 11, none⟩ = some a11 ∧ W.cell? ⟨p, 12, none⟩ = some a12 ∧ W.cell? ⟨p, 14, none⟩ = some (.bool b) := fun W hW => by
      rw [hav] at hW
      refine ⟨?_, ?_, ?_, ?_, ?_, ?_, ?_, ?_, ?_, ?_, ?_, ?_, ?_, ?_⟩ <;> rw [cell_of_row W p _ _ _ _ hW] <;> rfl
    have heq := hv.symm
    clear hv hav
    go_region_held3 (fun W => W.heap[p]? = some (.cells v3 70 (0, 0)))
      (first | exact A6 | exact A7 | exact (Below.heap_setCell _ _ _ _ (by show p ≠ w.heap.size + 1; omega)).trans A7)
      (first
        | (go_at_call 34
           refine (HCT.out _).mono ?_
           rintro e w7 ⟨g, cap, ex, rfl, hg, hb, hr⟩
           have A7 := (hb.block p (Array.getElem?_eq_some_iff.1 A6).1).trans A6
           have r7 := cell_kept (w := w6.drew) r6 hb
           have f7 := frozen_kept (w := w6.drew) r6 f6 hb
           have B7 := Lib.hid (below_step B6.out.drew hb)
           have HR7 := Lib.hid hr
           have HG7 : Hid (p + 1 ≤ g) := by show _ ≤ _; have := hzz.out; have h8 : p + 1 ≤ w6.drew.heap.size := this; omega
           clear hb hr hg))
    all_goals
      go_wp2_with fail
      refine bodyPost_ret (v := .tuple #[.agg #[.slice (some ⟨g, 0, none⟩) n cap], .bool b, .int .i64 0]) (by simp [results, Tryd.results19, go_sem, r7]) rfl ⟨some ⟨g, 0, none⟩, cap, by rw [HAL.out], B7.out.setCell (by show w.heap.size ≤ w.heap.size + 1; omega) _, ?_⟩
      exact GivesK1.kc (cap := cap) (by have := HG7.out; omega) (HR7.out.far (by have := HG7.out; show g ≠ w.heap.size + 1; omega) _)
  · have ho : Calls Tryd.prog 40 #[.agg #[.slice A xs.length c], .int .i64 x] ((w.alloc (.cells #[.slice A xs.length c] 24)).alloc (.cells #[.slice none 0 0] 24)) fun e w' => e = .returned (.tuple #[.agg zeroK, .agg zeroK, .int .i64 (numC xs x)]) ∧ Below ((w.alloc (.cells #[.slice A xs.length c] 24)).alloc (.cells #[.slice none 0 0] 24)).heap.size ((w.alloc (.cells #[.slice A xs.length c] 24)).alloc (.cells #[.slice none 0 0] 24)) w' := by
      refine ho.mono ?_
      rintro e w' ⟨hb, h⟩
      rcases h with ⟨h, _⟩ | ⟨_, h⟩
      · exact absurd h e0
      · exact ⟨h, hb⟩
    have ea : takeKA xs x = [] := if_neg e0
    have eu : takeKU xs x = false := if_neg e0
    have hi : (Tryd.prog.info? 51).map (·.size) = some zeroK.size := info_reg
    rw [ea, eu]
    obtain ⟨q, hq⟩ : ∃ q, numC xs x = q := ⟨_, rfl⟩
    obtain ⟨n, hN⟩ : ∃ n, xs.length = n := ⟨_, rfl⟩
    rw [hq] at ho e0 ⊢
    rw [hN] at ho e1 r0 g0 ⊢
    have R0 := Lib.hid r0
    have G0 := Lib.hid g0
    have HO := Lib.hid ho
    have E1 := Lib.hid e1
    have HI := Lib.hid hi
    clear ho e1 r0 g0 ea eu hq hN h hn hD hP hB hx0 hx1 hi
    go_enter Tryd.func19, Tryd.ntmps19
    go_wp2_with fail
    refine HO.out.mono ?_
    rintro e w1 ⟨rfl, hb⟩
    have B1 := Lib.hid (below_step E1.out hb)
    have r1 := Lib.hid (cell_kept R0.out hb)
    have f1 := Lib.hid (frozen_kept R0.out G0.out hb)
    have H6 : Hid (((w1.alloc (.cells zeroK 51)).alloc (.cells zeroK 51)).heap[w1.heap.size]? = some (.cells zeroK 51 (0, 0))) := by
      show _ = _
      rw [Below.heap_alloc _ _ _ (by simp)]
      exact heap_alloc_new w1 _
    have H7 : Hid ((((w1.alloc (.cells zeroK 51)).alloc (.cells zeroK 51)).setRow w1.heap.size zeroK).heap[w1.heap.size + 1]? = some (.cells zeroK 51 (0, 0))) := by
      show _ = _
      rw [setRow_heap_other _ (by omega)]
      have := heap_alloc_new (w1.alloc (.cells zeroK 51)) (.cells zeroK 51)
      simpa using this
    have B2 : Hid (Below w.heap.size w ((((w1.alloc (.cells zeroK 51)).alloc (.cells zeroK 51)).setRow w1.heap.size zeroK).setRow (w1.heap.size + 1) zeroK)) :=
      setRow_below (setRow_below (below_boxed (below_boxed B1.out _) _) B1.out.size _) (by have := B1.out.size; omega) _
    clear hb
    have r2 : (((((w1.alloc (.cells zeroK 51)).alloc (.cells zeroK 51)).setRow w1.heap.size zeroK).setRow (w1.heap.size + 1) zeroK).cell? ⟨w.heap.size + 1, 0, none⟩ = some (.slice none 0 0)) := by
      have hlt : w.heap.size + 1 < w1.heap.size := World.block_lt_of_cell? _ _ r1.out
      exact setRow_cell _ (setRow_cell _ (cell_kept (cell_kept r1.out (below_box w1 _)) (below_box _ _)) (by show w.heap.size + 1 ≠ _; omega)) (by show w.heap.size + 1 ≠ _; omega)
    have f2 : (((((w1.alloc (.cells zeroK 51)).alloc (.cells zeroK 51)).setRow w1.heap.size zeroK).setRow (w1.heap.size + 1) zeroK).frozen? ⟨w.heap.size + 1, 0, none⟩ = false) := by
      have hlt : w.heap.size + 1 < w1.heap.size := World.block_lt_of_cell? _ _ r1.out
      exact setRow_frozen _ (setRow_frozen _ (frozen_kept (cell_kept r1.out (below_box w1 _)) (frozen_kept r1.out f1.out (below_box w1 _)) (below_box _ _)) (by show w.heap.size + 1 ≠ _; omega)) (by show w.heap.size + 1 ≠ _; omega)
    go_wp2_with (first
      | (refine wpList_store_row rfl 51 (.tmp 7) (.tmp 15) rfl w1.heap.size zeroK rfl rfl _ _ H6.out HI.out rfl zero_one ?_)
      | (refine wpList_store_row rfl 51 (.tmp 8) (.tmp 16) rfl (w1.heap.size + 1) zeroK rfl rfl _ _ H7.out HI.out rfl zero_one ?_)
      | fail)
    exact bodyPost_ret (v := .tuple #[.agg #[.slice none 0 0], .bool false, .int .i64 q]) (by simp [results, Tryd.results19, go_sem, r2]) rfl ⟨none, 0, rfl, B2.out.setCell (by show w.heap.size ≤ w.heap.size + 1; omega) _, IAt.nil (Nat.le_refl _)⟩

end Go.Proofs.YtkiphejkgpfjjaaDoor
