/- For every two lists of bytes, the law FnNumbers returns true: a number that is punched into a field of a drawn card is read again, the other columns stay, and what does not fit has two digits at least. Condition: the three sentinel errors and the library's table of powers of ten hold what the program's text lays in them (the card ties that). -/
import Derived.Test.YtjfogadcedgndaaDoorA2
import Derived.Test.YtjfogadcedgndaaDoorNumbers
import Derived.Test.YtjfogadcedgndaaDoorBytes
import Derived.Deep.QuietTactic
import Derived.BigQuiet
import Derived.Test.YtjfogadcedgndaaDoorCards
import Derived.Test.YtjfogadcedgndaaDoorTie
import Derived.LaidMore
import Derived.OpenVars
import Derived.Stop.Joined
namespace Go.Proofs.YtjfogadcedgndaaDoor.fnNumbers
open Go.ChangeShapes Go.WideShapes Go.ChangeAt Go.RowKit

theorem okB_of {l : List Int} (h : ∀ x ∈ l, 0 ≤ x ∧ x ≤ 4095) (h1 : 1 ≤ l.length) (h2 : l.length ≤ 6) : okB l = true := by
  simp only [okB, legalB, inB, maskB, Bool.and_eq_true, decide_eq_true_eq, List.all_eq_true]
  exact ⟨fun x hx => h x hx, by omega, by omega⟩

theorem walk_long (A A' : Option Addr) (n n' c c' : Nat) (w : World) (hn : n ≤ 9223372036854775807) (hn' : n' ≤ 9223372036854775807) (h : 3000 < n ∨ 3000 < n') :
    Calls Tryd.prog 3 #[.slice A n c, .slice A' n' c'] w fun e w' => e = .returned (.bool true) ∧ Below w.heap.size w w' := by
  have hL := a2Long_any A A' n n' c c' w hn hn'
  have e : (decide (3000 < n) || decide (3000 < n')) = true := by simpa using h
  rw [e] at hL
  have HL := Lib.hid hL
  clear hL e h
  go_enter Tryd.func3, Tryd.ntmps3
  go_wp2_with fail
  refine HL.out.mono ?_
  rintro e w1 ⟨rfl, rfl⟩
  go_wp2
  go_ret
  exact ⟨rfl, Below.refl _ _⟩

set_option maxRecDepth 100000 in
set_option maxHeartbeats 1000000 in
theorem walk_short (A A' : Option Addr) (n n' c c' : Nat) (w : World) (h0 : BytesAt w w.heap.size A n) (h1 : BytesAt w w.heap.size A' n') (hn : n ≤ 3000) (hn' : n' ≤ 3000) {aL aF aM : Addr} (S : Sents w aL aF aM) (hP : Pow10 w) :
    Calls Tryd.prog 3 #[.slice A n c, .slice A' n' c'] w fun e w' => e = .returned (.bool true) ∧ Below w.heap.size w w' := by
  have hL := a2Long_any A A' n n' c c' w (by omega) (by omega)
  have e : (decide (3000 < n) || decide (3000 < n')) = false := by simp; omega
  rw [e] at hL
  have HL := Lib.hid hL
  have HC := Lib.hid (A2Card_any A n c w.heap.size w h0 (Nat.le_refl _) hn)
  have H1 := Lib.hid h1
  have HS := Lib.hid S
  have HP := Lib.hid hP
  clear hL e h0 h1 S hP
  go_enter Tryd.func3, Tryd.ntmps3
  go_wp2_with fail
  refine HL.out.mono ?_
  rintro e w1 ⟨rfl, rfl⟩
  go_wp2_with fail
  refine HC.out.mono ?_
  rintro e w1 ⟨gr, cap, l, ex, rfl, hl1, hl6, hlc, hcm, hok, hgr, hb, hrow⟩
  have B1 := Lib.hid hb
  have R1 := Lib.hid hrow
  have OK := Lib.hid (fun x hx => hok x hx)
  have hs1 := hb.size
  unfold maxLen at hcm
  obtain ⟨m, hm⟩ : ∃ m, l.length = m := ⟨_, rfl⟩
  have HM := Lib.hid hm
  rw [hm] at hl1 hl6 hlc
  rw [hm]
  clear hb hrow hok HL HC hm
  have es : ((w1.alloc (.cells #[.slice (some ⟨gr, 0, none⟩) m cap] 26)).alloc (.cells #[.slice (some ⟨gr, 0, none⟩) m cap] 26)).heap.size = w1.heap.size + 2 := by simp
  have B2 : Hid (Below w.heap.size w ((w1.alloc (.cells #[.slice (some ⟨gr, 0, none⟩) m cap] 26)).alloc (.cells #[.slice (some ⟨gr, 0, none⟩) m cap] 26))) := (B1.out.alloc hs1 _).alloc (by simp; omega) _
  have R2 := Lib.hid ((R1.out.alloc (.cells #[.slice (some ⟨gr, 0, none⟩) m cap] 26)).alloc (.cells #[.slice (some ⟨gr, 0, none⟩) m cap] 26))
  have p2 : ((w1.alloc (.cells #[.slice (some ⟨gr, 0, none⟩) m cap] 26)).alloc (.cells #[.slice (some ⟨gr, 0, none⟩) m cap] 26)).cell? ⟨w1.heap.size, 0, none⟩ = some (.slice (some ⟨gr, 0, none⟩) m cap) := by simp [go_sem]
  have q2 : ((w1.alloc (.cells #[.slice (some ⟨gr, 0, none⟩) m cap] 26)).alloc (.cells #[.slice (some ⟨gr, 0, none⟩) m cap] 26)).cell? ⟨w1.heap.size + 1, 0, none⟩ = some (.slice (some ⟨gr, 0, none⟩) m cap) := by simp [go_sem]
  have HF := Lib.hid (a2Field_one (w1.heap.size + 1) (some ⟨gr, 0, none⟩) A' m cap n' c' w.heap.size _ q2 hl1 (by omega) (H1.out.below B2.out) (by rw [es]; omega) hn')
  clear q2
  go_wp2_with fail
  refine HF.out.mono ?_
  rintro e w2 ⟨i, j, rfl, hij, hjm, hb⟩
  have hs2 := hb.size
  rw [es] at hs2
  have B3 := Lib.hid (B2.out.trans (hb.mono (by rw [es]; omega)))
  have R3 := Lib.hid (R2.out.later hb)
  have p3 := cell_kept p2 hb
  clear hb B2 R2 p2 HF es
  have B4 : Hid (Below w.heap.size w (w2.alloc (.cells #[.int .i64 i, .int .i64 j] 29))) := B3.out.alloc (by omega) _
  have R4 := Lib.hid (R3.out.alloc (.cells #[.int .i64 i, .int .i64 j] 29))
  have p4 := cell_kept p3 (below_box w2 (.cells #[.int .i64 i, .int .i64 j] 29))
  have a4 : (w2.alloc (.cells #[.int .i64 i, .int .i64 j] 29)).cell? ⟨w2.heap.size, 0, none⟩ = some (.int .i64 i) := by simp [go_sem]
  have b4 : (w2.alloc (.cells #[.int .i64 i, .int .i64 j] 29)).cell? ⟨w2.heap.size, 1, none⟩ = some (.int .i64 j) := by simp [go_sem]
  obtain ⟨W, eW⟩ : ∃ W, w2.alloc (.cells #[.int .i64 i, .int .i64 j] 29) = W := ⟨_, rfl⟩
  obtain ⟨hs2', hsW⟩ : w1.heap.size + 2 ≤ w2.heap.size ∧ W.heap.size = w2.heap.size + 1 := ⟨hs2, by rw [← eW]; simp⟩
  rw [eW] at B4 R4 p4 a4 b4
  have hx := H1.out.below B4.out
  have HA := Lib.hid (fun (k : Nat) (hk : k ≤ 1000) (mm : Int) (hm1 : 1 ≤ mm) (hm2 : mm ≤ 1048576) => a2At_any A' n' c' w.heap.size k mm W hx hn' hk hm1 hm2)
  clear B3 R3 p3 hs2 hx
  go_wp2_with fail
  clear eW
  refine (HA.out 2 (by omega) 256 (by omega) (by omega)).mono ?_
  rintro e w3 ⟨r1, rfl, hr1, rfl⟩
  go_wp2_with fail
  refine (HA.out 3 (by omega) 50 (by omega) (by omega)).mono ?_
  rintro e w3 ⟨r2, rfl, hr2, rfl⟩
  have hr10 : (0 : Int) ≤ (r1 : Int) := Int.natCast_nonneg _
  have hr20 : (0 : Int) ≤ (r2 : Int) := Int.natCast_nonneg _
  have hm0 : 0 ≤ (r1 : Int) * (1 + (r2 : Int)) := Int.mul_nonneg hr10 (by omega)
  have hm1 : (r1 : Int) * (1 + (r2 : Int)) ≤ 12750 := by
    have := Int.mul_le_mul (show (r1 : Int) ≤ 255 by omega) (show 1 + (r2 : Int) ≤ 50 by omega) (by omega) (by omega)
    omega
  obtain ⟨nn, hnn⟩ : ∃ nn, (r1 : Int) * (1 + (r2 : Int)) - 900 = nn := ⟨_, rfl⟩
  have hnn0 : -900 ≤ nn := by omega
  have hnn1 : nn ≤ 11850 := by omega
  have okl := okB_of OK.out (by rw [HM.out]; exact hl1) (by rw [HM.out]; exact hl6)
  have hcode : partCode l i j = 0 := by
    simp only [partCode, okl, fieldB, HM.out]
    simp
    omega
  have hput := implPutN_C gr 0 cap l (gr + 1) i j nn W R4.out.ints R4.out.lt (by rw [HM.out]; exact hlc) ⟨by rw [HM.out]; omega, by omega⟩ hij (by rw [HM.out]; exact hjm) hcode (by simp [inB]; omega) (HS.out.below B4.out).two (HP.out.below B4.out)
  rw [HM.out] at hput
  obtain ⟨wd, hwd⟩ : ∃ wd, j - i = wd := ⟨_, rfl⟩
  rw [hwd] at hput
  have hw0 : 0 < wd := by omega
  have hwj : i + wd = j := by omega
  have HWJ := Lib.hid hwj
  rw [← hnn] at hput
  have HPUT := Lib.hid hput
  have HNN := Lib.hid hnn
  clear okl hcode hput hnn hwd hwj HA
  go_wp2_with fail
  refine HPUT.out.mono ?_
  rintro e w3 hG
  rw [HNN.out] at hG ⊢
  rcases hG with ⟨hbig, rfl, hb⟩ | ⟨hfit, hG⟩
  · have h10 : 10 ≤ nn.natAbs := by
      refine Nat.le_trans ?_ hbig
      obtain ⟨v, rfl⟩ : ∃ v, wd = v + 1 := ⟨wd - 1, by omega⟩
      rw [Nat.pow_succ]
      have := Nat.pow_pos (n := v) (show 0 < 10 by omega)
      omega
    have hmx : (10 : Int) ≤ max nn (-nn) := by omega
    have hmx' : decide ((10 : Int) ≤ max nn (-nn)) = true := by simpa using hmx
    have B5 := Lib.hid (below_step B4.out hb)
    clear hb hbig HPUT
    go_wp2
    go_ret
    exact ⟨by first | rfl | simp | (simp; omega), B5.out.alloc B5.out.size _⟩
  · obtain ⟨g, cg, eg, rfl, hc1, hc2, hg, hb, hrow⟩ := hG
    have hnl : (numW nn wd).length = wd := numW_length nn wd
    have hin : i + (numW nn wd).length ≤ l.length := by rw [hnl, HM.out, HWJ.out]; exact hjm
    have hyl := putAt_length l i (numW nn wd) hin
    have hpart := partOf_putAt l i (numW nn wd) hin
    rw [hnl, HWJ.out] at hpart
    have hnum := numOf_numW nn wd hw0 hfit
    have hmask := putAt_mask l i (numW nn wd) OK.out (numW_mask nn wd hw0)
    have hfar : ∀ t, t < m → (t < i ∨ j ≤ t) → (putAt l i (numW nn wd))[t]?.getD 0 = l[t]?.getD 0 := fun t _ h => putAt_far l i (numW nn wd) t (by rw [hnl, HWJ.out]; exact h) hin
    rw [HM.out] at hyl
    obtain ⟨ys, hys⟩ : ∃ ys, putAt l i (numW nn wd) = ys := ⟨_, rfl⟩
    rw [hys] at hc1 hrow hyl hpart hmask hfar ⊢
    have HYL := Lib.hid hyl
    rw [hyl] at hc1 ⊢
    have HFAR := Lib.hid hfar
    have hs3 := hb.size
    have oky : okB ys = true := okB_of hmask (by rw [hyl]; exact hl1) (by rw [hyl]; exact hl6)
    have hcode : partCode ys i j = 0 := by
      simp only [partCode, oky, fieldB, hyl]
      simp
      omega
    have B5 : Hid (Below w.heap.size w (w3.alloc (.cells #[.slice (some ⟨g, 0, none⟩) m cg] 26))) := (B4.out.trans (hb.mono (by omega))).alloc (by omega) _
    have bx := below_box w3 (.cells #[.slice (some ⟨g, 0, none⟩) m cg] 26)
    have R5 := Lib.hid ((R4.out.later hb).alloc (.cells #[.slice (some ⟨g, 0, none⟩) m cg] 26))
    have Y5 := Lib.hid (hrow.alloc (.cells #[.slice (some ⟨g, 0, none⟩) m cg] 26))
    have p5 := cell_kept (cell_kept p4 hb) bx
    have a5 := cell_kept (cell_kept a4 hb) bx
    have b5 := cell_kept (cell_kept b4 hb) bx
    have g5 : (w3.alloc (.cells #[.slice (some ⟨g, 0, none⟩) m cg] 26)).cell? ⟨w3.heap.size, 0, none⟩ = some (.slice (some ⟨g, 0, none⟩) m cg) := by simp [go_sem]
    obtain ⟨V, eV⟩ : ∃ V, w3.alloc (.cells #[.slice (some ⟨g, 0, none⟩) m cg] 26) = V := ⟨_, rfl⟩
    rw [eV] at B5 R5 Y5 p5 a5 b5 g5
    have hni := implNumberIn_good g 0 cg ys (g + 1) i j V Y5.out.ints Y5.out.lt (by rw [hyl]; exact hc1) ⟨by rw [hyl]; omega, hc2⟩ hij (by rw [hyl]; exact hjm) hcode oky (by omega) (HS.out.below B5.out)
    rw [hpart, hnum, hyl] at hni
    have hni' : Calls Tryd.prog 10 #[.agg #[.slice (some ⟨g, 0, none⟩) m cg], .agg #[.int .i64 i, .int .i64 j]] V fun e w' => e = .returned (.tuple #[.int .i64 nn, .int .i64 0]) ∧ Below V.heap.size V w' := hni
    have HNI := Lib.hid hni'
    have hvc := fun (U : World) (h : Row U g ys eg) => specValidCard_any (some ⟨g, 0, none⟩) cg ys (g + 1) U h.ints h.lt (by rw [hyl]; omega)
    rw [hyl, oky] at hvc
    have HVC := Lib.hid hvc
    clear hb hrow hys hyl hpart hnum hmask hfar oky hcode bx B4 R4 p4 a4 b4 hni hni' hvc hin hnl hfit HPUT hg
    go_wp2_with fail
    clear eV
    refine HNI.out.mono ?_
    rintro e w5 ⟨rfl, hb⟩
    have B6 := Lib.hid (below_step B5.out hb)
    have R6 := Lib.hid (R5.out.later hb)
    have Y6 := Lib.hid (Y5.out.later hb)
    have p6 := cell_kept p5 hb
    have a6 := cell_kept a5 hb
    have b6 := cell_kept b5 hb
    have g6 := cell_kept g5 hb
    clear hb B5 R5 Y5 p5 a5 b5 g5 HNI
    go_wp2_with fail
    refine (HVC.out w5 Y6.out).mono ?_
    rintro e w6 ⟨rfl, hb⟩
    have B7 := Lib.hid (below_step B6.out hb)
    have R7 := Lib.hid (R6.out.later hb)
    have Y7 := Lib.hid (Y6.out.later hb)
    have p7 := cell_kept p6 hb
    have a7 := cell_kept a6 hb
    have b7 := cell_kept b6 hb
    have g7 := cell_kept g6 hb
    clear hb B6 R6 Y6 p6 a6 b6 g6 HVC
    go_wp2
    go_loopw [12] (fun k wr => ∃ t q : Nat, t ≤ m ∧ k = .int .i64 t ∧ wr = w6.drewN q) (fun k _ => m - (intOf k).toNat)
    case atStart => exact ⟨0, 0, Nat.zero_le _, rfl, rfl⟩
    case round =>
      obtain ⟨t, q, ht, rfl, rfl⟩ := hrel
      by_cases hlt : t < m
      · have hk1 : (t : Int) < (m : Int) := by omega
        have hk0 : (0 : Int) ≤ (t : Int) := Int.natCast_nonneg _
        have cx := R7.out.cell (i := t) (by rw [HM.out]; exact hlt)
        have cy := Y7.out.cell (i := t) (by rw [HYL.out]; exact hlt)
        by_cases hi : t < i
        · have hff := HFAR.out t hlt (Or.inl hi)
          rw [hff] at cy
          obtain ⟨x, hx⟩ : ∃ x, l[t]?.getD 0 = x := ⟨_, rfl⟩
          rw [hx] at cx cy
          have d1 : decide ((t : Int) < (i : Int)) = true := by simp; omega
          have d1' : decide (t < i) = true := by simp; omega
          have HI := Lib.hid hi
          clear hff hx hi
          go_wp2
          go_quiet (fail)
          go_wp2
          go_roundw
          case rel => exact ⟨t + 1, _, by omega, by go_num, rfl⟩
          case measure => simp [intOf]; omega
        · have d1 : decide ((t : Int) < (i : Int)) = false := by simp; omega
          have d1' : decide (t < i) = false := by simp; omega
          by_cases hj : j ≤ t
          · have hff := HFAR.out t hlt (Or.inr hj)
            rw [hff] at cy
            obtain ⟨x, hx⟩ : ∃ x, l[t]?.getD 0 = x := ⟨_, rfl⟩
            rw [hx] at cx cy
            have d2 : decide ((j : Int) ≤ (t : Int)) = true := by simp; omega
            have d2' : decide (j ≤ t) = true := by simp; omega
            have HI := Lib.hid hi
            have HJ := Lib.hid hj
            clear hff hx hi hj
            go_wp2
            go_quiet (fail)
            go_wp2
            go_roundw
            case rel => exact ⟨t + 1, _, by omega, by go_num, rfl⟩
            case measure => simp [intOf]; omega
          · have d2 : decide ((j : Int) ≤ (t : Int)) = false := by simp; omega
            have d2' : decide (j ≤ t) = false := by simp; omega
            obtain ⟨x, hx⟩ : ∃ x, l[t]?.getD 0 = x := ⟨_, rfl⟩
            obtain ⟨y, hy⟩ : ∃ y, ys[t]?.getD 0 = y := ⟨_, rfl⟩
            rw [hx] at cx
            rw [hy] at cy
            have HI := Lib.hid hi
            have HJ := Lib.hid hj
            clear hx hy hi hj
            go_wp2
            go_quiet (fail)
            go_wp2
            go_roundw
            case rel => exact ⟨t + 1, _, by omega, by go_num, rfl⟩
            case measure => simp [intOf]; omega
      · have hk1 : ¬ (t : Int) < (m : Int) := by omega
        go_wp2
        go_ret
        exact ⟨rfl, below_drewN B7.out q⟩

theorem gL : Tryd.prog.globalNamed "loop.example/g01012/impl.errLong" = some 0 := by kernel_rfl
theorem gLT : (Tryd.prog.globals[0]?).map (·.type) = some 60 := by kernel_rfl
theorem gF : Tryd.prog.globalNamed "loop.example/g01012/impl.errForeign" = some 1 := by kernel_rfl
theorem gFT : (Tryd.prog.globals[1]?).map (·.type) = some 60 := by kernel_rfl
theorem gM : Tryd.prog.globalNamed "loop.example/g01012/impl.errNoMeaning" = some 2 := by kernel_rfl
theorem gMT : (Tryd.prog.globals[2]?).map (·.type) = some 60 := by kernel_rfl
theorem star : "*" ++ "errors.errorString" = "*errors.errorString" := by decide
theorem rowE (u : TypeId) (h : Tryd.prog.typeName? 3 u = some "*errors.errorString") : u = 168 :=
  typeName_ptr_named (nm := "errors.errorString") (by rw [star]; kernel_rfl) (by kernel_rfl) (by decide) u (by rw [star]; exact h)
theorem cellsE : Tryd.prog.cellsOf 190 = 1 := by kernel_rfl
theorem cellsS : Tryd.prog.cellsOf 9 = 1 := by kernel_rfl

theorem tail2_of {W : World} (h : laidMetH Tryd.prog Rows.fnNumbersRow.laid W) : laidMet Tryd.prog (("internal/strconv.uint64pow10", Lib.tabData .u64 Lib.pow10Tab) :: ("loop.example/g01012/impl.errLong", Rows.laid_loop_example_g01012_impl_errLong) :: ("loop.example/g01012/impl.errForeign", Rows.laid_loop_example_g01012_impl_errForeign) :: ("loop.example/g01012/impl.errNoMeaning", Rows.laid_loop_example_g01012_impl_errNoMeaning) :: []) W :=
  laidMet.tail (laidMet.tail (show laidMet Tryd.prog (("math/bits.deBruijn32tab", Rows.laid_math_bits_deBruijn32tab) :: ("math/bits.deBruijn64tab", Rows.laid_math_bits_deBruijn64tab) :: ("internal/strconv.uint64pow10", Lib.tabData .u64 Lib.pow10Tab) :: ("loop.example/g01012/impl.errLong", Rows.laid_loop_example_g01012_impl_errLong) :: ("loop.example/g01012/impl.errForeign", Rows.laid_loop_example_g01012_impl_errForeign) :: ("loop.example/g01012/impl.errNoMeaning", Rows.laid_loop_example_g01012_impl_errNoMeaning) :: []) W from h))
theorem gPow : Tryd.prog.globalNamed "internal/strconv.uint64pow10" = some 3 := by kernel_rfl
theorem gPowType : (Tryd.prog.globals[3]?).map (·.type) = some 156 := by kernel_rfl
theorem pow10_of {W : World} (h : laidMetH Tryd.prog Rows.fnNumbersRow.laid W) : Pow10 W :=
  Lib.tabIs_of_head (k := .u64) (zs := Lib.pow10Tab) gPow gPowType Tryd.underlying156 Tryd.underlying80 (by kernel_rfl) (by kernel_rfl) (tail2_of h)

/-- What the row's list gives: three sentinels. -/
theorem sents_of {W : World} (h : laidMetH Tryd.prog Rows.fnNumbersRow.laid W) : ∃ aL aF aM, Sents W aL aF aM := by
  obtain ⟨a0, a1, a2, c0, c1, c2, t0, t1, t2, h0, h1, h2, n01, n02, n12, b0, b1, b2⟩ := laid_three (laidMet.tail (tail2_of h)) gL gLT gF gFT gM gMT Tryd.underlying60 rowE Tryd.underlying168 Tryd.underlying190 rfl rfl Tryd.underlying9 cellsE cellsS
  exact ⟨a0, a1, a2, ⟨by simpa using World.var?_cell gL h0 0, c0, t0, b0⟩, ⟨by simpa using World.var?_cell gF h1 0, c1, t1, b1⟩, ⟨by simpa using World.var?_cell gM h2 0, c2, t2, b2⟩, n01, n02, n12⟩

theorem walk (W : World) (A : Option Addr) (n c : Nat) (h0 : BytesAt W W.heap.size A n) (hn : n ≤ 9223372036854775807) (A' : Option Addr) (n' c' : Nat) (h1 : BytesAt W W.heap.size A' n') (hn' : n' ≤ 9223372036854775807) (hL : laidMetH Tryd.prog Rows.fnNumbersRow.laid W) :
    Calls Tryd.prog 3 #[.slice A n c, .slice A' n' c'] W fun e w' => e = .returned (.bool true) ∧ Below W.heap.size W w' := by
  obtain ⟨aL, aF, aM, hS⟩ := sents_of hL
  have hP := pow10_of hL
  by_cases h : 3000 < n ∨ 3000 < n'
  · exact walk_long A A' n n' c c' W hn hn' h
  · exact walk_short A A' n n' c c' W h0 h1 (by omega) (by omega) hS hP

/-- The door's own heap meets the condition: three closed facts. -/
theorem door_met (os : Os) (args : Array Value) : laidMetH Tryd.prog Rows.fnNumbersRow.laid ((World.doorLaid Tryd.prog 4000 os).forCall (fun _ _ => 0) ⟨#[], args, []⟩).memory :=
  laidMetH_of_parts3 (fuel := 8) (laidMet_of_run' 8 (by kernel_rfl) (by kernel_rfl)) (by kernel_rfl) (by kernel_rfl)

set_option maxRecDepth 100000 in
theorem lifted (os : Os) (started : os.Started) (H : Type) (enc : TypeId × Value → H) :
    ReturnsInHanded {} Tryd.checked os 3 .any (fun w args => (Rows.fnNumbersSpec.pre enc Tryd.prog Tryd.f3 [] false w args ∧ laidMetH Tryd.prog Rows.fnNumbersRow.laid w) ∧ sizedMet enc Tryd.prog Tryd.f3 (OpenSpec.ofChange Rows.fnNumbersSpec) false w args)
      (Rows.fnNumbersSpec.post enc Tryd.prog Tryd.f3 false true false false) := by
  refine returnsInHanded_of_change_and (C := Tryd.checked) (X := fun w _ => laidMetH Tryd.prog Rows.fnNumbersRow.laid w) (fun _ _ _ hh h => h.of_heap hh) own started (by kernel_rfl) Tryd.func3
    (ChangeSpec.witness_shaped (enc := enc) (C := Tryd.checked) (os := os) (X := fun w _ => laidMetH Tryd.prog Rows.fnNumbersRow.laid w) false (World.doorLaid Tryd.prog 4000 os) #[.slice none 0 0, .slice none 0 0] 8 rfl (World.shaped_of_RefB (by kernel_rfl) (by kernel_rfl)) (by kernel_rfl) (by kernel_rfl) (by kernel_rfl) (door_met os _)) ?_
  intro W base args ds gs before hval0 hW _ _ hL _
  have hval : ∀ (j : Nat) t v, Tryd.f3.params[j]? = some t → args[j]? = some v → Value.okWide Tryd.prog W .any base t v := hval0
  have hW' := hW
  obtain ⟨p, q, hA0, hV, rfl, _, _⟩ := hW
  have hA : DataW.TrodAll enc Tryd.prog W 0 (fun _ => true) true Tryd.f3.params.toList args.toList ds p := hA0
  rw [Tryd.params3] at hA hval
  obtain ⟨v0, vs0, d0, ds0, p0, q0, hargs, rfl, rfl, h0, r0⟩ := trodAll_cons hA
  obtain ⟨v1, vs1, d1, ds1, p1, q1, rfl, rfl, rfl, h1, r1⟩ := trodAll_cons r0
  obtain ⟨rfl, rfl, rfl⟩ := trodAll_nil r1
  obtain rfl : args = #[v0, v1] := by cases args; simp_all
  obtain ⟨g1, g2, g3, rfl⟩ : ∃ g1 g2 g3, gs = [g1, g2, g3] := by
    clear hL hW' hA hval
    match gs, hV with
    | [], h => exact h.elim
    | [_], ⟨_, _, _, _, _, _, _, _, _, _, h, _⟩ => exact h.elim
    | [_, _], ⟨_, _, _, _, _, _, _, _, _, _, ⟨_, _, _, _, _, _, _, _, _, _, h, _⟩, _⟩ => exact h.elim
    | [g1, g2, g3], _ => exact ⟨g1, g2, g3, rfl⟩
    | _ :: _ :: _ :: _ :: _, ⟨_, _, _, _, _, _, _, _, _, _, ⟨_, _, _, _, _, _, _, _, _, _, ⟨_, _, _, _, _, _, _, _, _, _, h, _⟩, _⟩, _⟩ => exact h.elim
  obtain ⟨A0, n0, c0, rfl, b0, l0⟩ := open_bytes (hval 0 22 v0 rfl rfl) h0
  obtain ⟨A1, n1, c1, rfl, b1, l1⟩ := open_bytes (hval 1 22 v1 rfl rfl) h1
  refine (walk W A0 n0 c0 b0 l0 A1 n1 c1 b1 l1 hL).mono fun e W' ⟨he, hb⟩ => ?_
  subst he
  have hread : ∀ t ∈ Tryd.f3.params.toList, Tryd.prog.readableRec t = true ∧ t < Tryd.prog.types.size := by
    intro t ht
    rw [Tryd.params3] at ht
    obtain rfl : t = 22 := by simpa using ht
    exact ⟨by kernel_rfl, of_decide_eq_true (by kernel_rfl)⟩
  have hlt := fun x hx => hW'.lt x (List.mem_append_left q hx)
  refine ⟨_, rfl, _, [g1, g2, g3], _, [], _, q, hW', ?_, args_stay hread hA0 (fun x hx => hb.same (hlt x hx)) (fun x hx => by simpa using hlt x hx), ?_, ?_, fun h => by cases h⟩
  · exact trodAll_mk1 (shut_bool Tryd.underlying4 true)
  · exact Below.trodVars laidOut hb (by kernel_rfl) hV
  · exact World.keptBut_mono (fun x hx => ⟨hx, by rcases List.mem_append.1 hx with h' | h' <;> first | exact Or.inr (Or.inl h') | exact Or.inr (Or.inr h') | exact Or.inr (Or.inr (by simpa using h'))⟩) (hb.frame (· ∈ _))

theorem said : Rows.FnNumbersSaid :=
  OpenClaim.holds_of_wide 3 Tryd.f3 rfl rfl rfl rfl rfl rfl rfl ⟨rfl, rfl, rfl, rfl, rfl⟩ rfl rfl rfl rfl rfl (by kernel_rfl) Tryd.func3 (by kernel_rfl)
    (of_decide_eq_true (by kernel_rfl)) (by unfold Func.isWrapper; first | (rw [if_pos (by decide +kernel)]; kernel_rfl) | (rw [if_neg (by decide +kernel)]; exact ⟨rfl, rfl⟩))
    (fun os started H enc _ => lifted os started H enc)

/-- No parameter wants a stand-in; the program's own looks are as the card says. -/
theorem plain (f : FuncId) (fn : Func) (hf : Tryd.pinned.checked.prog.funcNamed "loop.example/g01012/laws.FnNumbers" = some f) (hfn : Tryd.pinned.checked.prog.funcs[f]? = some fn) :
    Rows.fnNumbersCard.stood.looks = Tryd.pinned.checked.prog.looks [] ∧ ∀ (j : Nat) t, fn.params[j]? = some t → Tryd.pinned.checked.prog.wantsStandIn t = false := by
  obtain rfl : f = 3 := Option.some.inj ((show Tryd.prog.funcNamed "loop.example/g01012/laws.FnNumbers" = some 3 by kernel_rfl).symm.trans hf) |>.symm
  obtain rfl : fn = Tryd.f3 := (Option.some.inj (Tryd.func3.symm.trans hfn)).symm
  refine ⟨by kernel_rfl, fun j t ht => ?_⟩
  rw [Tryd.params3] at ht
  have hm : t ∈ [22, 22] := by simpa using Array.mem_of_getElem? ht
  have hall : ([22, 22].all fun u => !Tryd.prog.wantsStandIn u) = true := by kernel_rfl
  exact (show Tryd.prog.wantsStandIn t = false by simpa using List.all_eq_true.1 hall t hm)

theorem proved : Rows.FnNumbersCardSaid :=
  Claim7.holds_tied_plain_at .later [] _ _ _ _ said (fun _ h => by cases h) (by kernel_rfl) (fun _ h => by cases h) fnNumbers_row_tie rfl ⟨rfl, rfl⟩ (by kernel_rfl) rfl plain (by kernel_rfl)
end Go.Proofs.YtjfogadcedgndaaDoor.fnNumbers
