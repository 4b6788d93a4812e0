/- For every list of bytes, the law FnCodes returns true: holes, characters and ranks belong together, and a drawn text that is punched is read again. Condition: the table of places and the three sentinel errors hold what the program's text lays in them (the card ties that). -/
import Derived.Test.YtmibkaldeickdabDoorA2
import Derived.Test.YtmibkaldeickdabDoorCodesMath
import Derived.Test.YtmibkaldeickdabDoorBytes
import Derived.Deep.QuietTactic
import Derived.BigQuiet
import Derived.Test.YtmibkaldeickdabDoorCards
import Derived.Test.YtmibkaldeickdabDoorTie
import Derived.LaidMore
import Derived.OpenVars
import Derived.Stop.Joined
namespace Go.Proofs.YtmibkaldeickdabDoor.fnCodes
open Go.ChangeShapes Go.WideShapes Go.ChangeAt Go.RowKit

theorem walk_long (A : Option Addr) (n c : Nat) (w : World) (hn : n ≤ 9223372036854775807) (h : 3000 < n) :
    Calls Tryd.prog 3 #[.slice A n c] w fun e w' => e = .returned (.bool true) ∧ Below w.heap.size w w' := by
  have hL := a2Long_any A none n 0 c 0 w hn (by omega)
  have e : (decide (3000 < n) || decide (3000 < 0)) = true := by simpa using h
  rw [e] at hL
  have HL := Lib.hid hL
  clear hL e h
  go_enter Tryd.func3, Tryd.ntmps3
  go_wp2_with fail
  refine HL.out.mono ?_
  rintro e w1 ⟨rfl, rfl⟩
  go_wp2
  go_ret
  exact ⟨rfl, Below.refl _ _⟩

set_option maxRecDepth 100000 in
set_option maxHeartbeats 1000000 in
theorem walk_short (A : Option Addr) (n c : Nat) (w : World) (h0 : BytesAt w w.heap.size A n) (hn : n ≤ 3000) {aL aF aM : Addr} (S : Sents w aL aF aM) (hp : Places w) :
    Calls Tryd.prog 3 #[.slice A n c] w fun e w' => e = .returned (.bool true) ∧ Below w.heap.size w w' := by
  have hL := a2Long_any A none n 0 c 0 w (by omega) (by omega)
  have e : (decide (3000 < n) || decide (3000 < 0)) = false := by simp; omega
  rw [e] at hL
  have HL := Lib.hid hL
  have HA := Lib.hid (a2At_any A n c w.heap.size 0 256 w h0 hn (by omega) (by omega) (by omega))
  have HT := Lib.hid (A2Text_any A n c w.heap.size w h0 (Nat.le_refl _) hn)
  have HS := Lib.hid S
  clear hL e h0 S
  go_enter Tryd.func3, Tryd.ntmps3
  go_wp2_with fail
  refine HL.out.mono ?_
  rintro e w1 ⟨rfl, rfl⟩
  go_wp2_with fail
  refine HA.out.mono ?_
  rintro e w1 ⟨r, rfl, hr, rfl⟩
  have hr' : r ≤ 255 := by omega
  have hr0 : (0 : Int) ≤ (r : Int) := Int.natCast_nonneg _
  have hr1 : (r : Int) ≤ 255 := by omega
  have hco := fun U => implCodeOf_any (r : Int) hr0 hr1 U
  have HK := Lib.hid (fun (t : Nat) (h : t ≤ 255) => implRank_any t h w hp)
  have hra := HK.out r hr'
  have hcr := code_rank r hr'
  have hrb : rkB r = !decide (codeS r < 0) := by rw [hcr]; rfl
  clear hp HL HA hcr
  by_cases hneg : codeS r < 0
  · rw [decide_eq_true hneg] at hco hrb
    rw [if_pos hneg] at hco
    have hrb' : rkB r = false := hrb
    rw [hrb'] at hra
    obtain ⟨x, hx⟩ : ∃ x, rkV r = x := ⟨_, rfl⟩
    rw [hx] at hra
    have HCO := Lib.hid hco
    have HRA := Lib.hid hra
    clear hco hra hrb hrb' hx hneg HK
    go_wp2_with fail
    refine (HCO.out _).mono ?_
    rintro e w1 ⟨rfl, rfl⟩
    go_wp2_with fail
    refine HRA.out.mono ?_
    rintro e w1 ⟨rfl, rfl⟩
    go_wp2_with fail
    refine HT.out.mono ?_
    rintro e w2 ⟨l, he, hl8, hl, hb⟩
    have he' : e = .returned (.string (textN l)) := he
    have B2 := Lib.hid hb
    have HLT := Lib.hid (legal_textN hl)
    have hpu := punch_textN hl
    have hsz := textN_size l
    rw [← hsz] at hpu
    have hl8' : (textN l).size ≤ 8 := by omega
    have HCT := Lib.hid (colsN_text hl)
    have hok := colsN_legal hl hl8
    have htx := colsN_ok hl
    have hln := colsN_length l
    rw [← hsz] at hln
    obtain ⟨ys, hY⟩ : ∃ ys, colsN l = ys := ⟨_, rfl⟩
    obtain ⟨s, hS⟩ : ∃ s, textN l = s := ⟨_, rfl⟩
    rw [hY] at hpu HCT hok htx hln
    rw [hS] at he' HLT hpu hl8' HCT hln
    have HPU := Lib.hid hpu
    have HLN := Lib.hid hln
    have e1 : readS ys = s ++ ⟨#[32]⟩ := by rw [readS, if_neg (by rw [hok]; decide), if_pos htx, HCT.out]
    have e2 : readCode ys = 0 := by simp [readCode, hok, htx]
    have hil := ill_none ys htx
    rw [hln] at hil
    have hpt := fun (U : World) (h2 : Below w.heap.size w U) => implPunchText_fits s (s.size + 1) (by simp [inB]; omega) (by omega) U (HS.out.below h2).two
    have hcast : ((s.size + 1 : Nat) : Int) = (s.size : Int) + 1 := by omega
    rw [hcast] at hpt
    have HPT := Lib.hid hpt
    have hrd := fun (U : World) (h2 : Below w.heap.size w U) (g cg : Nat) (eg : List Value) (hr : Row U g ys eg) => implRead_any (some ⟨g, 0, none⟩) cg ys (g + 1) U hr.ints hr.lt (by rw [hln]; omega) (HS.out.below h2)
    rw [e1, e2, hln] at hrd
    have HRD := Lib.hid hrd
    have hig := fun (U : World) (g cg : Nat) (eg : List Value) (hr : Row U g ys eg) => implIll_good (some ⟨g, 0, none⟩) cg ys (g + 1) U hr.ints hr.lt (by rw [hln]; omega) hok
    rw [hln, hil] at hig
    have HIG := Lib.hid hig
    subst he'
    clear he hb hl hpu hsz hok htx hln hY hS e1 e2 hil hpt hrd hig hcast HT
    go_wp2_with fail
    refine (HPT.out _ B2.out).mono ?_
    rintro e w3 hG
    rcases hG with ⟨_, hG⟩ | ⟨hno, _⟩
    · rw [HPU.out] at hG
      obtain ⟨g, cg, eg, rfl, hg, hb, hrow⟩ := hG
      rw [HLN.out]
      have B3 := Lib.hid (below_step B2.out hb)
      have B4 : Hid (Below w.heap.size w (w3.alloc (.cells #[.slice (some ⟨g, 0, none⟩) (s.size + 1) cg] 32))) := B3.out.alloc B3.out.size _
      have R4 := Lib.hid (hrow.alloc (.cells #[.slice (some ⟨g, 0, none⟩) (s.size + 1) cg] 32))
      have p4 : (w3.alloc (.cells #[.slice (some ⟨g, 0, none⟩) (s.size + 1) cg] 32)).cell? ⟨w3.heap.size, 0, none⟩ = some (.slice (some ⟨g, 0, none⟩) (s.size + 1) cg) := by simp [go_sem]
      obtain ⟨W, eW⟩ : ∃ W, w3.alloc (.cells #[.slice (some ⟨g, 0, none⟩) (s.size + 1) cg] 32) = W := ⟨_, rfl⟩
      rw [eW] at B4 R4 p4
      clear hb hrow hg B2 B3
      go_wp2_with fail
      clear eW
      refine (HRD.out W B4.out g cg eg R4.out).mono ?_
      rintro e w5 ⟨rfl, hb⟩
      have B5 := Lib.hid (below_step B4.out hb)
      have R5 := Lib.hid (R4.out.later hb)
      have p5 := cell_kept p4 hb
      clear hb B4 R4 p4
      go_wp2_with fail
      refine (HIG.out w5 g cg eg R5.out).mono ?_
      rintro e w6 ⟨A6, c6, rfl, hb, _⟩
      have B6 := Lib.hid (below_step B5.out hb)
      clear hb B5 R5 p5
      go_wp2
      go_ret
      exact ⟨by simp, B6.out⟩
    · rw [HLT.out] at hno
      cases hno
  · rw [decide_eq_false hneg] at hco hrb
    rw [if_neg hneg] at hco
    have hrb' : rkB r = true := hrb
    obtain ⟨hb1, hb2, _⟩ := code_back r hr' hneg
    obtain ⟨j, hj, hj1, _⟩ := rank_yes r hr' hrb'
    have HONE := Lib.hid (fun (t : Nat) (h : t ≤ 255) (hb : rkB t = true) (he : rkV t = j) => rank_one r t hr' h hrb' hb (he.trans hj1.symm))
    rw [hrb', hj1] at hra
    obtain ⟨y, hy⟩ : ∃ y, codeS (r : Int) = y := ⟨_, rfl⟩
    rw [hy] at hco hb1 hb2
    have hch := fun U => implCharOf_any y U
    rw [hb1, hb2] at hch
    have HCO := Lib.hid hco
    have HRA := Lib.hid hra
    have HCH := Lib.hid hch
    have hj0 : (0 : Int) ≤ (j : Int) := Int.natCast_nonneg _
    have hj2 : (j : Int) ≤ 39 := by omega
    clear hco hra hrb hrb' hneg hb1 hb2 hy hch hj1
    go_wp2_with fail
    refine (HCO.out _).mono ?_
    rintro e w1 ⟨rfl, rfl⟩
    go_wp2_with fail
    refine HRA.out.mono ?_
    rintro e w1 ⟨rfl, rfl⟩
    go_wp2_with fail
    refine (HCH.out _).mono ?_
    rintro e w1 ⟨rfl, rfl⟩
    go_wp2
    go_loop [10] (fun k => ∃ t : Nat, t ≤ 256 ∧ k = .int .i64 t) (fun k => 256 - (intOf k).toNat)
    case atStart => exact ⟨0, by omega, rfl⟩
    case round =>
      obtain ⟨t, ht, rfl⟩ := hrel
      by_cases hlt : t < 256
      · have ht0 : (0 : Int) ≤ (t : Int) := Int.natCast_nonneg _
        have ht1 : (t : Int) ≤ 255 := by omega
        have ht2 : (t : Int) < 256 := by omega
        have hk := HK.out t (by omega)
        cases hb : rkB t
        · rw [hb] at hk
          obtain ⟨x, hx⟩ : ∃ x, rkV t = x := ⟨_, rfl⟩
          rw [hx] at hk
          have HKT := Lib.hid hk
          clear hk hx hb
          go_wp2_with fail
          refine HKT.out.mono ?_
          rintro e w1 ⟨rfl, rfl⟩
          go_wp2
          go_round
          case rel => exact ⟨t + 1, by omega, by go_num⟩
          case measure => simp [intOf]; omega
        · rw [hb] at hk
          have hone := HONE.out t (by omega) hb
          obtain ⟨x, hx⟩ : ∃ x, rkV t = x := ⟨_, rfl⟩
          rw [hx] at hk hone
          by_cases hxj : x = j
          · obtain rfl : t = r := hone hxj
            subst hxj
            have HKT := Lib.hid hk
            clear hk hx hb hone
            go_wp2_with fail
            refine HKT.out.mono ?_
            rintro e w1 ⟨rfl, rfl⟩
            go_wp2
            go_round
            case rel => exact ⟨t + 1, by omega, by go_num⟩
            case measure => simp [intOf]; omega
          · have hxb : (x == (j : Int)) = false := by simpa using hxj
            have HKT := Lib.hid hk
            clear hk hx hb hone hxj
            go_wp2_with fail
            refine HKT.out.mono ?_
            rintro e w1 ⟨rfl, rfl⟩
            go_wp2
            go_round
            case rel => exact ⟨t + 1, by omega, by go_num⟩
            case measure => simp [intOf]; omega
      · have ht2 : ¬ (t : Int) < 256 := by omega
        go_wp2_with fail
        refine HT.out.mono ?_
        rintro e w2 ⟨l, he, hl8, hl, hb⟩
        have he' : e = .returned (.string (textN l)) := he
        have B2 := Lib.hid hb
        have HLT := Lib.hid (legal_textN hl)
        have hpu := punch_textN hl
        have hsz := textN_size l
        rw [← hsz] at hpu
        have hl8' : (textN l).size ≤ 8 := by omega
        have HCT := Lib.hid (colsN_text hl)
        have hok := colsN_legal hl hl8
        have htx := colsN_ok hl
        have hln := colsN_length l
        rw [← hsz] at hln
        obtain ⟨ys, hY⟩ : ∃ ys, colsN l = ys := ⟨_, rfl⟩
        obtain ⟨s, hS⟩ : ∃ s, textN l = s := ⟨_, rfl⟩
        rw [hY] at hpu HCT hok htx hln
        rw [hS] at he' HLT hpu hl8' HCT hln
        have HPU := Lib.hid hpu
        have HLN := Lib.hid hln
        have e1 : readS ys = s ++ ⟨#[32]⟩ := by rw [readS, if_neg (by rw [hok]; decide), if_pos htx, HCT.out]
        have e2 : readCode ys = 0 := by simp [readCode, hok, htx]
        have hil := ill_none ys htx
        rw [hln] at hil
        have hpt := fun (U : World) (h2 : Below w.heap.size w U) => implPunchText_fits s (s.size + 1) (by simp [inB]; omega) (by omega) U (HS.out.below h2).two
        have hcast : ((s.size + 1 : Nat) : Int) = (s.size : Int) + 1 := by omega
        rw [hcast] at hpt
        have HPT := Lib.hid hpt
        have hrd := fun (U : World) (h2 : Below w.heap.size w U) (g cg : Nat) (eg : List Value) (hr : Row U g ys eg) => implRead_any (some ⟨g, 0, none⟩) cg ys (g + 1) U hr.ints hr.lt (by rw [hln]; omega) (HS.out.below h2)
        rw [e1, e2, hln] at hrd
        have HRD := Lib.hid hrd
        have hig := fun (U : World) (g cg : Nat) (eg : List Value) (hr : Row U g ys eg) => implIll_good (some ⟨g, 0, none⟩) cg ys (g + 1) U hr.ints hr.lt (by rw [hln]; omega) hok
        rw [hln, hil] at hig
        have HIG := Lib.hid hig
        subst he'
        clear he hb hl hpu hsz hok htx hln hY hS e1 e2 hil hpt hrd hig hcast HT
        go_wp2_with fail
        refine (HPT.out _ B2.out).mono ?_
        rintro e w3 hG
        rcases hG with ⟨_, hG⟩ | ⟨hno, _⟩
        · rw [HPU.out] at hG
          obtain ⟨g, cg, eg, rfl, hg, hb, hrow⟩ := hG
          rw [HLN.out]
          have B3 := Lib.hid (below_step B2.out hb)
          have B4 : Hid (Below w.heap.size w (w3.alloc (.cells #[.slice (some ⟨g, 0, none⟩) (s.size + 1) cg] 32))) := B3.out.alloc B3.out.size _
          have R4 := Lib.hid (hrow.alloc (.cells #[.slice (some ⟨g, 0, none⟩) (s.size + 1) cg] 32))
          have p4 : (w3.alloc (.cells #[.slice (some ⟨g, 0, none⟩) (s.size + 1) cg] 32)).cell? ⟨w3.heap.size, 0, none⟩ = some (.slice (some ⟨g, 0, none⟩) (s.size + 1) cg) := by simp [go_sem]
          obtain ⟨W, eW⟩ : ∃ W, w3.alloc (.cells #[.slice (some ⟨g, 0, none⟩) (s.size + 1) cg] 32) = W := ⟨_, rfl⟩
          rw [eW] at B4 R4 p4
          clear hb hrow hg B2 B3
          go_wp2_with fail
          clear eW
          refine (HRD.out W B4.out g cg eg R4.out).mono ?_
          rintro e w5 ⟨rfl, hb⟩
          have B5 := Lib.hid (below_step B4.out hb)
          have R5 := Lib.hid (R4.out.later hb)
          have p5 := cell_kept p4 hb
          clear hb B4 R4 p4
          go_wp2_with fail
          refine (HIG.out w5 g cg eg R5.out).mono ?_
          rintro e w6 ⟨A6, c6, rfl, hb, _⟩
          have B6 := Lib.hid (below_step B5.out hb)
          clear hb B5 R5 p5
          go_wp2
          go_ret
          exact ⟨by simp, B6.out⟩
        · rw [HLT.out] at hno
          cases hno

theorem gL : Tryd.prog.globalNamed "loop.example/g01012/impl.errLong" = some 2 := by kernel_rfl
theorem gLT : (Tryd.prog.globals[2]?).map (·.type) = some 76 := by kernel_rfl
theorem gF : Tryd.prog.globalNamed "loop.example/g01012/impl.errForeign" = some 3 := by kernel_rfl
theorem gFT : (Tryd.prog.globals[3]?).map (·.type) = some 76 := by kernel_rfl
theorem gM : Tryd.prog.globalNamed "loop.example/g01012/impl.errNoMeaning" = some 4 := by kernel_rfl
theorem gMT : (Tryd.prog.globals[4]?).map (·.type) = some 76 := by kernel_rfl
theorem star : "*" ++ "errors.errorString" = "*errors.errorString" := by decide
theorem rowE (u : TypeId) (h : Tryd.prog.typeName? 3 u = some "*errors.errorString") : u = 187 :=
  typeName_ptr_named (nm := "errors.errorString") (by rw [star]; kernel_rfl) (by kernel_rfl) (by decide) u (by rw [star]; exact h)
theorem cellsE : Tryd.prog.cellsOf 189 = 1 := by kernel_rfl
theorem cellsS : Tryd.prog.cellsOf 9 = 1 := by kernel_rfl

theorem tail_of {W : World} (h : laidMetH Tryd.prog Rows.fnCodesRow.laid W) : laidMet Tryd.prog Rows.fnCodesRow.laid.tail W :=
  laidMet.tail (x := ("loop.example/g01012/impl.places", Lib.tabData .i8 placesL)) (r := Rows.fnCodesRow.laid.tail) h
theorem gPlaces : Tryd.prog.globalNamed "loop.example/g01012/impl.places" = some 0 := by kernel_rfl
theorem gPlacesType : (Tryd.prog.globals[0]?).map (·.type) = some 67 := by kernel_rfl
/-- What the row's list gives: each cell of the table. -/
theorem places_of {W : World} (h : laidMetH Tryd.prog Rows.fnCodesRow.laid W) : Places W := by
  have h' : laidMet Tryd.prog (("loop.example/g01012/impl.places", Lib.tabData .i8 placesL) :: Rows.fnCodesRow.laid.tail) W := h
  have ht := Lib.tabIs_of_head gPlaces gPlacesType Tryd.underlying67 Tryd.underlying66 (by kernel_rfl) (by kernel_rfl) h'
  exact fun i hi => ht.cell gPlaces i hi

/-- What the row's list gives: three sentinels. -/
theorem sents_of {W : World} (h : laidMetH Tryd.prog Rows.fnCodesRow.laid W) : ∃ aL aF aM, Sents W aL aF aM := by
  obtain ⟨a0, a1, a2, c0, c1, c2, t0, t1, t2, h0, h1, h2, n01, n02, n12, b0, b1, b2⟩ := laid_three (tail_of h) gL gLT gF gFT gM gMT Tryd.underlying76 rowE Tryd.underlying187 Tryd.underlying189 rfl rfl Tryd.underlying9 cellsE cellsS
  exact ⟨a0, a1, a2, ⟨by simpa using World.var?_cell gL h0 0, c0, t0, b0⟩, ⟨by simpa using World.var?_cell gF h1 0, c1, t1, b1⟩, ⟨by simpa using World.var?_cell gM h2 0, c2, t2, b2⟩, n01, n02, n12⟩

theorem walk (W : World) (A : Option Addr) (n c : Nat) (h0 : BytesAt W W.heap.size A n) (hn : n ≤ 9223372036854775807) (hL : laidMetH Tryd.prog Rows.fnCodesRow.laid W) :
    Calls Tryd.prog 3 #[.slice A n c] W fun e w' => e = .returned (.bool true) ∧ Below W.heap.size W w' := by
  obtain ⟨aL, aF, aM, hS⟩ := sents_of hL
  have hp := places_of hL
  by_cases h : 3000 < n
  · exact walk_long A n c W hn h
  · exact walk_short A n c W h0 (by omega) hS hp

/-- The door's own heap meets the condition: three closed facts. -/
theorem door_met (os : Os) (args : Array Value) : laidMetH Tryd.prog Rows.fnCodesRow.laid ((World.doorLaid Tryd.prog 4000 os).forCall (fun _ _ => 0) ⟨#[], args, []⟩).memory :=
  laidMetH_of_parts3 (fuel := 8) (laidMet_of_run' 8 (by kernel_rfl) (by kernel_rfl)) (by kernel_rfl) (by kernel_rfl)

set_option maxRecDepth 100000 in
theorem lifted (os : Os) (started : os.Started) (H : Type) (enc : TypeId × Value → H) :
    ReturnsInHanded {} Tryd.checked os 3 .any (fun w args => (Rows.fnCodesSpec.pre enc Tryd.prog Tryd.f3 [] false w args ∧ laidMetH Tryd.prog Rows.fnCodesRow.laid w) ∧ sizedMet enc Tryd.prog Tryd.f3 (OpenSpec.ofChange Rows.fnCodesSpec) false w args)
      (Rows.fnCodesSpec.post enc Tryd.prog Tryd.f3 false true false false) := by
  refine returnsInHanded_of_change_and (C := Tryd.checked) (X := fun w _ => laidMetH Tryd.prog Rows.fnCodesRow.laid w) (fun _ _ _ hh h => h.of_heap hh) own started (by kernel_rfl) Tryd.func3
    (ChangeSpec.witness_shaped (enc := enc) (C := Tryd.checked) (os := os) (X := fun w _ => laidMetH Tryd.prog Rows.fnCodesRow.laid w) false (World.doorLaid Tryd.prog 4000 os) #[.slice none 0 0] 8 rfl (World.shaped_of_RefB (by kernel_rfl) (by kernel_rfl)) (by kernel_rfl) (by kernel_rfl) (by kernel_rfl) (door_met os _)) ?_
  intro W base args ds gs before hval0 hW _ _ hL _
  have hval : ∀ (j : Nat) t v, Tryd.f3.params[j]? = some t → args[j]? = some v → Value.okWide Tryd.prog W .any base t v := hval0
  have hW' := hW
  obtain ⟨p, q, hA0, hV, rfl, _, _⟩ := hW
  have hA : DataW.TrodAll enc Tryd.prog W 0 (fun _ => true) true Tryd.f3.params.toList args.toList ds p := hA0
  rw [Tryd.params3] at hA hval
  obtain ⟨v0, vs0, d0, ds0, p0, q0, hargs, rfl, rfl, h0, r0⟩ := trodAll_cons hA
  obtain ⟨rfl, rfl, rfl⟩ := trodAll_nil r0
  obtain rfl : args = #[v0] := by cases args; simp_all
  obtain ⟨g1, g2, g3, g4, rfl⟩ : ∃ g1 g2 g3 g4, gs = [g1, g2, g3, g4] := by
    clear hL hW' hA hval
    match gs, hV with
    | [], h => exact h.elim
    | [_], ⟨_, _, _, _, _, _, _, _, _, _, h, _⟩ => exact h.elim
    | [_, _], ⟨_, _, _, _, _, _, _, _, _, _, ⟨_, _, _, _, _, _, _, _, _, _, h, _⟩, _⟩ => exact h.elim
    | [_, _, _], ⟨_, _, _, _, _, _, _, _, _, _, ⟨_, _, _, _, _, _, _, _, _, _, ⟨_, _, _, _, _, _, _, _, _, _, h, _⟩, _⟩, _⟩ => exact h.elim
    | [g1, g2, g3, g4], _ => exact ⟨g1, g2, g3, g4, rfl⟩
    | _ :: _ :: _ :: _ :: _ :: _, ⟨_, _, _, _, _, _, _, _, _, _, ⟨_, _, _, _, _, _, _, _, _, _, ⟨_, _, _, _, _, _, _, _, _, _, ⟨_, _, _, _, _, _, _, _, _, _, h, _⟩, _⟩, _⟩, _⟩ => exact h.elim
  obtain ⟨A0, n0, c0, rfl, b0, l0⟩ := open_bytes (hval 0 22 v0 rfl rfl) h0
  refine (walk W A0 n0 c0 b0 l0 hL).mono fun e W' ⟨he, hb⟩ => ?_
  subst he
  have hread : ∀ t ∈ Tryd.f3.params.toList, Tryd.prog.readableRec t = true ∧ t < Tryd.prog.types.size := by
    intro t ht
    rw [Tryd.params3] at ht
    obtain rfl : t = 22 := by simpa using ht
    exact ⟨by kernel_rfl, of_decide_eq_true (by kernel_rfl)⟩
  have hlt := fun x hx => hW'.lt x (List.mem_append_left q hx)
  refine ⟨_, rfl, _, [g1, g2, g3, g4], _, [], _, q, hW', ?_, args_stay hread hA0 (fun x hx => hb.same (hlt x hx)) (fun x hx => by simpa using hlt x hx), ?_, ?_, fun h => by cases h⟩
  · exact trodAll_mk1 (shut_bool Tryd.underlying4 true)
  · exact Below.trodVars laidOut hb (by kernel_rfl) hV
  · exact World.keptBut_mono (fun x hx => ⟨hx, by rcases List.mem_append.1 hx with h' | h' <;> first | exact Or.inr (Or.inl h') | exact Or.inr (Or.inr h') | exact Or.inr (Or.inr (by simpa using h'))⟩) (hb.frame (· ∈ _))

theorem said : Rows.FnCodesSaid :=
  OpenClaim.holds_of_wide 3 Tryd.f3 rfl rfl rfl rfl rfl rfl rfl ⟨rfl, rfl, rfl, rfl, rfl⟩ rfl rfl rfl rfl rfl (by kernel_rfl) Tryd.func3 (by kernel_rfl)
    (of_decide_eq_true (by kernel_rfl)) (by unfold Func.isWrapper; first | (rw [if_pos (by decide +kernel)]; kernel_rfl) | (rw [if_neg (by decide +kernel)]; exact ⟨rfl, rfl⟩))
    (fun os started H enc _ => lifted os started H enc)

/-- No parameter wants a stand-in; the program's own looks are as the card says. -/
theorem plain (f : FuncId) (fn : Func) (hf : Tryd.pinned.checked.prog.funcNamed "loop.example/g01012/laws.FnCodes" = some f) (hfn : Tryd.pinned.checked.prog.funcs[f]? = some fn) :
    Rows.fnCodesCard.stood.looks = Tryd.pinned.checked.prog.looks [] ∧ ∀ (j : Nat) t, fn.params[j]? = some t → Tryd.pinned.checked.prog.wantsStandIn t = false := by
  obtain rfl : f = 3 := Option.some.inj ((show Tryd.prog.funcNamed "loop.example/g01012/laws.FnCodes" = some 3 by kernel_rfl).symm.trans hf) |>.symm
  obtain rfl : fn = Tryd.f3 := (Option.some.inj (Tryd.func3.symm.trans hfn)).symm
  refine ⟨by kernel_rfl, fun j t ht => ?_⟩
  rw [Tryd.params3] at ht
  have hm : t ∈ [22] := by simpa using Array.mem_of_getElem? ht
  have hall : ([22].all fun u => !Tryd.prog.wantsStandIn u) = true := by kernel_rfl
  exact (show Tryd.prog.wantsStandIn t = false by simpa using List.all_eq_true.1 hall t hm)

theorem proved : Rows.FnCodesCardSaid :=
  Claim7.holds_tied_plain_at .later [] _ _ _ _ said (fun _ h => by cases h) (by kernel_rfl) (fun _ h => by cases h) fnCodes_row_tie rfl ⟨rfl, rfl⟩ (by kernel_rfl) rfl plain (by kernel_rfl)
end Go.Proofs.YtmibkaldeickdabDoor.fnCodes
