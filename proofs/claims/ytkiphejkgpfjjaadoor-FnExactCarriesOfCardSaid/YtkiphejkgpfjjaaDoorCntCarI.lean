/- impl.CarriesOf: a contract, for every counter of at most 1048576 digits and every number. Conditions: the two errors of impl.dial and the table of powers of ten lie in their variables. -/
import Derived.Test.YtkiphejkgpfjjaaDoorCntOps
import Derived.Test.YtkiphejkgpfjjaaDoorCntTurn
namespace Go.Proofs.YtkiphejkgpfjjaaDoor
open Go.ChangeShapes Go.WideShapes Go.ChangeAt Go.RowKit

set_option maxRecDepth 100000 in
set_option maxHeartbeats 4000000 in
theorem implCarries_any (A : Option Addr) (c : Nat) (xs : List Int) (B : Nat) (x : Int) (w : World) (h : Ints w B A xs) (hB : B ≤ w.heap.size) (hn : xs.length ≤ 1048576) (aW aS : Addr) (hD : DialErrs w aW aS) (hP : Pow10 w) (hx0 : -9223372036854775808 ≤ x) (hx1 : x ≤ 9223372036854775807) :
    Calls Tryd.prog 21 #[.agg #[.slice A xs.length c], .int .i64 x] w fun e w' => e = .returned (.tuple #[.int .i64 (carM xs x), .int .i64 (numC xs x)]) ∧ Below w.heap.size w w' := by
  have e1 := below_box w (.cells #[.slice A xs.length c] 24)
  have ho := operands_any A c xs B x (w.alloc (.cells #[.slice A xs.length c] 24)) (h.below (e1.mono hB)) (Nat.le_trans hB e1.size) hn aW aS (hD.below e1) (hP.below e1) hx0 hx1
  by_cases e0 : numC xs x = 0
  · obtain ⟨hw, h1, h12, x0, x1⟩ := numC_zero e0
    have ho : Calls Tryd.prog 40 #[.agg #[.slice A xs.length c], .int .i64 x] (w.alloc (.cells #[.slice A xs.length c] 24)) fun e w' => e = .returned (.tuple #[.agg (regV (reg12 xs) xs.length), .agg (regV (reg12 (digs xs.length x)) xs.length), .int .i64 0]) ∧ Below (w.alloc (.cells #[.slice A xs.length c] 24)).heap.size (w.alloc (.cells #[.slice A xs.length c] 24)) w' := by
      refine ho.mono ?_
      rintro e w' ⟨hb, h⟩
      rcases h with ⟨_, h⟩ | ⟨h, _⟩
      · exact ⟨h, hb⟩
      · exact absurd e0 h
    have hp := fun W => plus_any xs (digs xs.length x) xs.length xs.length W rfl (digs_length _ _).symm h12 hw (digs_wheels _ _)
    unfold GivesAdd at hp
    have hl1 := reg12_length (xs := xs) h12
    have hl2 := reg12_length (xs := digs xs.length x) (by rw [digs_length]; exact h12)
    have hlR := reg12_length (xs := addL xs (digs xs.length x) 0) (by rw [addL_length _ (digs_length _ _).symm]; exact h12)
    have ec : carM xs x = addM xs (digs xs.length x) 0 := if_pos e0
    have hfc := fun W => field_carries hlR xs.length (addM xs (digs xs.length x) 0) (decide (0 < addO xs (digs xs.length x) 0)) W
    rw [ec, e0]
    obtain ⟨v1, hv1⟩ : ∃ v, regV (reg12 xs) xs.length = v := ⟨_, rfl⟩
    obtain ⟨v2, hv2⟩ : ∃ v, regV (reg12 (digs xs.length x)) xs.length = v := ⟨_, rfl⟩
    have hs1 : v1.size = 13 := by rw [← hv1]; exact regV_size hl1
    have hs2 : v2.size = 13 := by rw [← hv2]; exact regV_size hl2
    have hq1 : v1.all (·.oneCell') = true := by rw [← hv1]; exact reg_one
    have hq2 : v2.all (·.oneCell') = true := by rw [← hv2]; exact reg_one
    have hi1 : (Tryd.prog.info? 51).map (·.size) = some v1.size := by rw [hs1]; exact info_reg
    have hi2 : (Tryd.prog.info? 51).map (·.size) = some v2.size := by rw [hs2]; exact info_reg
    have ho1 : zeroK.size = v1.size := by rw [hs1]; rfl
    have ho2 : zeroK.size = v2.size := by rw [hs2]; rfl
    simp only [hv1, hv2] at hp
    rw [hv1, hv2] at ho
    obtain ⟨m, hm⟩ : ∃ m, addM xs (digs xs.length x) 0 = m := ⟨_, rfl⟩
    obtain ⟨v3, hv3⟩ : ∃ v, addV (reg12 (addL xs (digs xs.length x) 0)) xs.length (addM xs (digs xs.length x) 0) (decide (0 < addO xs (digs xs.length x) 0)) = v := ⟨_, rfl⟩
    simp only [hv3] at hp hfc
    simp only [hm] at hfc
    rw [hm]
    obtain ⟨n, hN⟩ : ∃ n, xs.length = n := ⟨_, rfl⟩
    rw [hN] at ho e1 ⊢
    have HO := Lib.hid ho
    have HP := Lib.hid hp
    have E1 := Lib.hid e1
    have HI1 := Lib.hid hi1
    have HI2 := Lib.hid hi2
    have HO1 := Lib.hid ho1
    have HO2 := Lib.hid ho2
    have HQ1 := Lib.hid hq1
    have HQ2 := Lib.hid hq2
    clear ho hp e1 hi1 hi2 ho1 ho2 hq1 hq2 hv1 hv2 hv3 hm hs1 hs2 hl1 hl2 hlR ec e0 hw h1 h12 x0 x1 h hN hn hD hP hB hx0 hx1
    go_enter Tryd.func21, Tryd.ntmps21
    go_wp2_with fail
    refine HO.out.mono ?_
    rintro e w1 ⟨rfl, hb⟩
    have B1 := Lib.hid (below_step E1.out hb)
    have H6 : Hid (((w1.alloc (.cells zeroK 51)).alloc (.cells zeroK 51)).heap[w1.heap.size]? = some (.cells zeroK 51 (0, 0))) := by
      show _ = _
      rw [Below.heap_alloc _ _ _ (by simp)]
      exact heap_alloc_new w1 _
    have H7 : Hid ((((w1.alloc (.cells zeroK 51)).alloc (.cells zeroK 51)).setRow w1.heap.size v1).heap[w1.heap.size + 1]? = some (.cells zeroK 51 (0, 0))) := by
      show _ = _
      rw [setRow_heap_other _ (by omega)]
      have := heap_alloc_new (w1.alloc (.cells zeroK 51)) (.cells zeroK 51)
      simpa using this
    have L6 : Hid (((((w1.alloc (.cells zeroK 51)).alloc (.cells zeroK 51)).setRow w1.heap.size v1).setRow (w1.heap.size + 1) v2).heap[w1.heap.size]? = some (.cells v1 51 (0, 0))) := by
      show _ = _
      rw [setRow_heap_other _ (by omega)]
      exact setRow_same _ H6.out
    have L7 : Hid (((((w1.alloc (.cells zeroK 51)).alloc (.cells zeroK 51)).setRow w1.heap.size v1).setRow (w1.heap.size + 1) v2).heap[w1.heap.size + 1]? = some (.cells v2 51 (0, 0))) := setRow_same _ H7.out
    have B2 : Hid (Below w.heap.size w ((((w1.alloc (.cells zeroK 51)).alloc (.cells zeroK 51)).setRow w1.heap.size v1).setRow (w1.heap.size + 1) v2)) :=
      setRow_below (setRow_below (below_boxed (below_boxed B1.out _) _) B1.out.size _) (by have := B1.out.size; omega) _
    clear hb
    go_wp2_with (first
      | (refine wpList_store_row rfl 51 (.tmp 6) (.tmp 13) rfl w1.heap.size v1 rfl rfl _ _ H6.out HI1.out HO1.out HQ1.out ?_)
      | (refine wpList_store_row rfl 51 (.tmp 7) (.tmp 14) rfl (w1.heap.size + 1) v2 rfl rfl _ _ H7.out HI2.out HO2.out HQ2.out ?_)
      | (refine wpList_load_row rfl 51 (.tmp 6) rfl w1.heap.size rfl _ _ _ _ L6.out Tryd.underlying51 rfl HI1.out ?_)
      | (refine wpList_load_row rfl 51 (.tmp 7) rfl (w1.heap.size + 1) rfl _ _ _ _ L7.out Tryd.underlying51 rfl HI2.out ?_)
      | (go_at_call 41; refine (HP.out _).mono ?_; rintro e w5 ⟨rfl, hb5⟩; have B5 := Lib.hid (below_step B2.out hb5); clear hb5)
      | fail)
    exact bodyPost_ret (v := .tuple #[.int .i64 m, .int .i64 0]) (by simp [results, Tryd.results21, go_sem]) rfl ⟨rfl, B5.out⟩
  · have ho : Calls Tryd.prog 40 #[.agg #[.slice A xs.length c], .int .i64 x] (w.alloc (.cells #[.slice A xs.length c] 24)) fun e w' => e = .returned (.tuple #[.agg zeroK, .agg zeroK, .int .i64 (numC xs x)]) ∧ Below (w.alloc (.cells #[.slice A xs.length c] 24)).heap.size (w.alloc (.cells #[.slice A xs.length c] 24)) w' := by
      refine ho.mono ?_
      rintro e w' ⟨hb, h⟩
      rcases h with ⟨h, _⟩ | ⟨_, h⟩
      · exact absurd h e0
      · exact ⟨h, hb⟩
    have ec : carM xs x = 0 := if_neg e0
    have hi : (Tryd.prog.info? 51).map (·.size) = some zeroK.size := info_reg
    rw [ec]
    obtain ⟨q, hq⟩ : ∃ q, numC xs x = q := ⟨_, rfl⟩
    obtain ⟨n, hN⟩ : ∃ n, xs.length = n := ⟨_, rfl⟩
    rw [hq] at ho e0 ⊢
    rw [hN] at ho e1 ⊢
    have HO := Lib.hid ho
    have E1 := Lib.hid e1
    have HI := Lib.hid hi
    clear ho e1 ec hq hN h hn hD hP hB hx0 hx1 hi
    go_enter Tryd.func21, Tryd.ntmps21
    go_wp2_with fail
    refine HO.out.mono ?_
    rintro e w1 ⟨rfl, hb⟩
    have B1 := Lib.hid (below_step E1.out hb)
    have H6 : Hid (((w1.alloc (.cells zeroK 51)).alloc (.cells zeroK 51)).heap[w1.heap.size]? = some (.cells zeroK 51 (0, 0))) := by
      show _ = _
      rw [Below.heap_alloc _ _ _ (by simp)]
      exact heap_alloc_new w1 _
    have H7 : Hid ((((w1.alloc (.cells zeroK 51)).alloc (.cells zeroK 51)).setRow w1.heap.size zeroK).heap[w1.heap.size + 1]? = some (.cells zeroK 51 (0, 0))) := by
      show _ = _
      rw [setRow_heap_other _ (by omega)]
      have := heap_alloc_new (w1.alloc (.cells zeroK 51)) (.cells zeroK 51)
      simpa using this
    have B2 : Hid (Below w.heap.size w ((((w1.alloc (.cells zeroK 51)).alloc (.cells zeroK 51)).setRow w1.heap.size zeroK).setRow (w1.heap.size + 1) zeroK)) :=
      setRow_below (setRow_below (below_boxed (below_boxed B1.out _) _) B1.out.size _) (by have := B1.out.size; omega) _
    clear hb
    go_wp2_with (first
      | (refine wpList_store_row rfl 51 (.tmp 6) (.tmp 13) rfl w1.heap.size zeroK rfl rfl _ _ H6.out HI.out rfl zero_one ?_)
      | (refine wpList_store_row rfl 51 (.tmp 7) (.tmp 14) rfl (w1.heap.size + 1) zeroK rfl rfl _ _ H7.out HI.out rfl zero_one ?_)
      | fail)
    exact bodyPost_ret (v := .tuple #[.int .i64 0, .int .i64 q]) (by simp [results, Tryd.results21, go_sem]) rfl ⟨rfl, B2.out⟩

end Go.Proofs.YtkiphejkgpfjjaaDoor
