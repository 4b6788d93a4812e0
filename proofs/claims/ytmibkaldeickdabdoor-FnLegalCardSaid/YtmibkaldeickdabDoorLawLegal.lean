/- For every list of bytes, the law FnLegal returns true: a drawn card has a text just if no column is illegal, and the text gives the card. Condition: the three sentinel errors hold what the program's text lays in them (the card ties that). -/
import Derived.Test.YtmibkaldeickdabDoorA2
import Derived.Test.YtmibkaldeickdabDoorLegal
import Derived.Test.YtmibkaldeickdabDoorSame
import Derived.Test.YtmibkaldeickdabDoorBytes
import Derived.Deep.QuietTactic
import Derived.BigQuiet
import Derived.Test.YtmibkaldeickdabDoorCards
import Derived.Test.YtmibkaldeickdabDoorTie
import Derived.LaidMore
import Derived.OpenVars
import Derived.Stop.Joined
namespace Go.Proofs.YtmibkaldeickdabDoor.fnLegal
open Go.ChangeShapes Go.WideShapes Go.ChangeAt Go.RowKit

theorem okB_of {l : List Int} (h : maskOk l) (h1 : 1 ≤ l.length) (h2 : l.length ≤ 6) : okB l = true := by
  simp only [okB, legalB, inB, maskB, Bool.and_eq_true, decide_eq_true_eq, List.all_eq_true]
  exact ⟨fun x hx => h x hx, by omega, by omega⟩
theorem quiet_add {P : Program} {f : FuncId} {args : Array Value} {w : World} {a n : Nat} {v : Value}
    (h : Calls P f args (w.drewN (a + n)) fun e w' => e = .returned v ∧ w.drewN (a + n) = w') :
    Calls P f args (w.drewN (a + n)) fun e w'' => e = .returned v ∧ ∃ m, w'' = w.drewN (a + m) :=
  h.mono fun _ _ ⟨he, hm⟩ => ⟨he, n, hm.symm⟩

theorem walk_long (A : Option Addr) (n c : Nat) (w : World) (hn : n ≤ 9223372036854775807) (h : 3000 < n) :
    Calls Tryd.prog 4 #[.slice A n c] w fun e w' => e = .returned (.bool true) ∧ Below w.heap.size w w' := by
  have hL := a2Long_any A none n 0 c 0 w hn (by omega)
  have e : (decide (3000 < n) || decide (3000 < 0)) = true := by simpa using h
  rw [e] at hL
  have HL := Lib.hid hL
  clear hL e h
  go_enter Tryd.func4, Tryd.ntmps4
  go_wp2_with fail
  refine HL.out.mono ?_
  rintro e w1 ⟨rfl, rfl⟩
  go_wp2
  go_ret
  exact ⟨rfl, Below.refl _ _⟩

set_option maxHeartbeats 600000 in
theorem walk_short (A : Option Addr) (n c : Nat) (w : World) (h0 : BytesAt w w.heap.size A n) (hn : n ≤ 3000) {aL aF aM : Addr} (S : Sents w aL aF aM) :
    Calls Tryd.prog 4 #[.slice A n c] w fun e w' => e = .returned (.bool true) ∧ Below w.heap.size w w' := by
  have hL := a2Long_any A none n 0 c 0 w (by omega) (by omega)
  have e : (decide (3000 < n) || decide (3000 < 0)) = false := by simp; omega
  rw [e] at hL
  have HL := Lib.hid hL
  have HC := Lib.hid (A2Card_any A n c w.heap.size w h0 (Nat.le_refl _) hn)
  have HS := Lib.hid S
  clear hL e h0 S
  go_enter Tryd.func4, Tryd.ntmps4
  go_wp2_with fail
  refine HL.out.mono ?_
  rintro e w1 ⟨rfl, rfl⟩
  go_wp2_with fail
  refine HC.out.mono ?_
  rintro e w1 ⟨gr, cap, l, ex, rfl, hl1, hl6, hlc, hcm, hok, hgr, hb, hrow⟩
  unfold maxLen at hcm
  obtain ⟨m, hm⟩ : ∃ m, l.length = m := ⟨_, rfl⟩
  have HM := Lib.hid hm
  rw [hm] at hl1 hl6 hlc
  have okl := okB_of hok (by rw [hm]; exact hl1) (by rw [hm]; exact hl6)
  have hpos : ∀ x ∈ l, 0 ≤ x := fun x hx => (hok x hx).1
  rw [hm]
  have B1 : Hid (Below w.heap.size w (w1.alloc (.cells #[.slice (some ⟨gr, 0, none⟩) m cap] 32))) := hb.alloc hb.size _
  have R1 := Lib.hid (hrow.alloc (.cells #[.slice (some ⟨gr, 0, none⟩) m cap] 32))
  have p1 : (w1.alloc (.cells #[.slice (some ⟨gr, 0, none⟩) m cap] 32)).cell? ⟨w1.heap.size, 0, none⟩ = some (.slice (some ⟨gr, 0, none⟩) m cap) := by simp [go_sem]
  have s1 : w1.heap.size < (w1.alloc (.cells #[.slice (some ⟨gr, 0, none⟩) m cap] 32)).heap.size := by simp
  obtain ⟨W, eW⟩ : ∃ W, w1.alloc (.cells #[.slice (some ⟨gr, 0, none⟩) m cap] 32) = W := ⟨_, rfl⟩
  rw [eW] at B1 R1 p1 s1
  have HI := Lib.hid (implIll_good (some ⟨gr, 0, none⟩) cap l (gr + 1) W R1.out.ints R1.out.lt (by rw [hm]; omega) okl)
  rw [HM.out] at HI
  have OKL := Lib.hid okl
  have HP := Lib.hid hpos
  clear hok hb hrow HL HC hm okl hpos hgr
  go_wp2_with fail
  clear eW
  refine HI.out.mono ?_
  rintro e w2 ⟨A2, c2, rfl, hb, hrows⟩
  have B2 := Lib.hid (below_step B1.out hb)
  have R2 := Lib.hid (R1.out.later hb)
  have p2 := cell_kept p1 hb
  have hHR := fun (U : World) (h : Row U gr l ex) (h2 : Below w.heap.size w U) => implRead_any (some ⟨gr, 0, none⟩) cap l (gr + 1) U h.ints h.lt (by rw [HM.out]; omega) (HS.out.below h2)
  rw [HM.out] at hHR
  have HR := Lib.hid hHR
  have hW2 := hb.size
  clear hHR hb B1 R1 p1 HI
  have hsp := fun (U : World) (k : Nat) (hk : k = m) (h : textOk l = true) => specPunchText_fits (textS l) k (by subst hk; simp [inB]; omega) (by subst hk; rw [textS_size, HM.out]; exact Nat.le_refl _) U
  have HSP := Lib.hid hsp
  have hss := fun (U : World) (g : Nat) (cx : Nat) (ez : List Value) (h : Row U gr l ex) (h' : Row U g l ez) => specSameCard_any (some ⟨g, 0, none⟩) (some ⟨gr, 0, none⟩) cx cap l l (g + 1) (gr + 1) U h'.ints h.ints h'.lt h.lt (by rw [HM.out]; omega) (by rw [HM.out]; omega)
  rw [HM.out] at hss
  have HSS := Lib.hid hss
  clear hsp hss
  cases ht : textOk l
  · have hys := ill_some l ht
    rw [HM.out] at hys
    have e1 : readS l = ⟨#[]⟩ := by simp [readS, OKL.out, ht]
    have e2 : readCode l = 8 := by simp [readCode, OKL.out, ht]
    rw [e1, e2] at HR
    obtain ⟨ys, hY⟩ : ∃ ys, illTo l m = ys := ⟨_, rfl⟩
    have hget : ∀ k, k < ys.length → ∃ i : Nat, ys[k]?.getD 0 = (i : Int) ∧ i < m ∧ charOk (l[i]?.getD 0) = false := by
      intro k hk
      have := ill_get l k (by rw [HM.out, hY]; exact hk)
      rw [HM.out, hY] at this
      exact this
    have hris : ∀ k, k + 1 < ys.length → ys[k]?.getD 0 < ys[k + 1]?.getD 0 := by
      intro k hk
      have := ill_rises l k (by rw [HM.out, hY]; exact hk)
      rw [HM.out, hY] at this
      exact this
    rw [hY] at hrows hys
    rw [hY]
    obtain ⟨g, ez, rfl, hg, hrow⟩ := hrows hys
    obtain ⟨d, hd⟩ : ∃ d, ys.length = d := ⟨_, rfl⟩
    have HD := Lib.hid hd
    have HGET := Lib.hid hget
    have HRIS := Lib.hid hris
    have Z2 := Lib.hid hrow
    have hd0 : 0 < d := by omega
    have hd1 : ((d : Int) == 0) = false := by rw [beq_eq_false_iff_ne]; omega
    have hd6 : d ≤ 6 := by
      have := illTo_length l m
      rw [hY] at this
      omega
    rw [hd]
    clear hY hget hris hrows hrow hd hys e1 e2 ht
    go_wp2_with fail
    refine (HR.out w2 R2.out B2.out).mono ?_
    rintro e w3 ⟨rfl, hb⟩
    have B3 := Lib.hid (below_step B2.out hb)
    have R3 := Lib.hid (R2.out.later hb)
    have Z3 := Lib.hid (Z2.out.later hb)
    have p3 := cell_kept p2 hb
    clear hb B2 R2 Z2 p2 HR
    go_wp2
    go_loopw [8] (fun k wr => ∃ t q : Nat, t ≤ d ∧ k = .int .i64 t ∧ wr = w3.drewN q) (fun k _ => d - (intOf k).toNat)
    case atStart => exact ⟨0, 0, Nat.zero_le _, rfl, rfl⟩
    case round =>
      obtain ⟨t, q, ht, rfl, rfl⟩ := hrel
      by_cases hlt : t < d
      · obtain ⟨i, hi, him, hci⟩ := HGET.out t (by rw [HD.out]; exact hlt)
        have cz := Z3.out.cell (i := t) (by rw [HD.out]; exact hlt)
        rw [hi] at cz
        have cx := R3.out.cell (i := i) (by rw [HM.out]; exact him)
        obtain ⟨x, hx⟩ : ∃ x, l[i]?.getD 0 = x := ⟨_, rfl⟩
        rw [hx] at cx hci
        have hco := fun U => implCharOf_any x U
        rw [hci] at hco
        have HCO := Lib.hid hco
        have hk1 : (t : Int) < (d : Int) := by omega
        have hk0 : (0 : Int) ≤ (t : Int) := Int.natCast_nonneg _
        have hi0 : (0 : Int) ≤ (i : Int) := Int.natCast_nonneg _
        have hi1 : (i : Int) < (m : Int) := by omega
        have HIX := Lib.hid hi
        clear hx hci hco hi
        have g1 : decide ((i : Int) < 0) = false := by simp
        have g2 : decide ((m : Int) ≤ (i : Int)) = false := by simp; omega
        have g2' : decide (m ≤ i) = false := by simp; omega
        by_cases hz : 0 < t
        · have hris := HRIS.out (t - 1) (by rw [HD.out]; omega)
          have cy := Z3.out.cell (i := t - 1) (by rw [HD.out]; omega)
          rw [show t - 1 + 1 = t by omega, HIX.out] at hris
          obtain ⟨y, hy⟩ : ∃ y, ys[t - 1]?.getD 0 = y := ⟨_, rfl⟩
          rw [hy] at hris cy
          have g3 : decide ((0 : Int) < (t : Int)) = true := by simp; omega
          have g3' : decide (0 < t) = true := by simp; omega
          have g4 : decide ((i : Int) ≤ y) = false := by simp; omega
          have r0 : (0 : Int) ≤ (t : Int) - 1 := by omega
          have r0' : (1 : Int) ≤ (t : Int) := by omega
          have r1 : (t : Int) - 1 < (d : Int) := by omega
          have r2 : ((t : Int) - 1).toNat = t - 1 := by omega
          have HZ := Lib.hid hz
          clear hy hz
          go_wp2
          go_quiet (fail)
          go_wp2
          go_quiet ((go_at_call 15; exact quiet_add (HCO.out _)))
          go_wp2
          go_roundw
          case rel => exact ⟨t + 1, _, by omega, by go_num, rfl⟩
          case measure => simp [intOf]; omega
        · have g3 : decide ((0 : Int) < (t : Int)) = false := by simp; omega
          have g3' : decide (0 < t) = false := by simp; omega
          have HZ := Lib.hid hz
          clear hz
          go_wp2
          go_quiet (fail)
          go_wp2
          go_quiet ((go_at_call 15; exact quiet_add (HCO.out _)))
          go_wp2
          go_roundw
          case rel => exact ⟨t + 1, _, by omega, by go_num, rfl⟩
          case measure => simp [intOf]; omega
      · have hk1 : ¬ (t : Int) < (d : Int) := by omega
        go_wp2
        go_ret
        exact ⟨rfl, below_drewN B3.out q⟩
  · have hys := ill_none l ht
    rw [HM.out] at hys
    rw [hys]
    have e1 : readS l = textS l := by simp [readS, OKL.out, ht]
    have e2 : readCode l = 0 := by simp [readCode, OKL.out, ht]
    rw [e1, e2] at HR
    have HLT := Lib.hid (legal_text l ht HP.out)
    have HPT := Lib.hid (punch_text l ht)
    have HT := Lib.hid ht
    obtain ⟨s, hs⟩ : ∃ s, textS l = s := ⟨_, rfl⟩
    rw [hs] at HR HLT HPT HSP
    rw [HM.out] at HPT
    clear hys hrows e1 e2 hs ht
    go_wp2_with fail
    refine (HR.out w2 R2.out B2.out).mono ?_
    rintro e w3 ⟨rfl, hb⟩
    have B3 := Lib.hid (below_step B2.out hb)
    have R3 := Lib.hid (R2.out.later hb)
    have p3 := cell_kept p2 hb
    have s3 : w1.heap.size < w3.heap.size := Nat.lt_of_lt_of_le (Nat.lt_of_lt_of_le s1 hW2) hb.size
    clear hb B2 R2 p2 HR
    go_wp2
    go_loopw [8] (fun k wr => k = .int .i64 0 ∧ wr = w3) (fun _ _ => 0)
    case atStart => exact ⟨rfl, rfl⟩
    case round =>
      obtain ⟨rfl, rfl⟩ := hrel
      go_wp2_with fail
      refine (HSP.out _ m rfl HT.out).mono ?_
      rintro e w4 hG
      rcases hG with ⟨_, hG⟩ | ⟨hno, _⟩
      · rw [HPT.out] at hG
        obtain ⟨g, cg, eg, rfl, hg, hb, hrow⟩ := hG
        rw [HM.out]
        have B4 := Lib.hid (below_step B3.out hb)
        have R4 := Lib.hid (R3.out.later hb)
        have p4 := cell_kept p3 hb
        have B5 : Hid (Below w.heap.size w (w4.alloc (.cells #[.slice (some ⟨g, 0, none⟩) m cg] 32))) := B4.out.alloc B4.out.size _
        have R5 := Lib.hid (R4.out.alloc (.cells #[.slice (some ⟨g, 0, none⟩) m cg] 32))
        have Z5 := Lib.hid (hrow.alloc (.cells #[.slice (some ⟨g, 0, none⟩) m cg] 32))
        have p5 := cell_kept p4 (below_box w4 (.cells #[.slice (some ⟨g, 0, none⟩) m cg] 32))
        have hSS := HSS.out (w4.alloc (.cells #[.slice (some ⟨g, 0, none⟩) m cg] 32)) g cg eg R5.out Z5.out
        have HSE := Lib.hid hSS
        clear hb hrow hg B3 R3 p3 B4 R4 p4 HSS hSS
        go_wp2_with fail
        refine HSE.out.mono ?_
        rintro e w6 ⟨rfl, hb⟩
        have B6 := Lib.hid (below_step B5.out hb)
        clear hb
        go_wp2
        go_ret
        exact ⟨by simp, B6.out⟩
      · rw [HLT.out] at hno
        cases hno

theorem gL : Tryd.prog.globalNamed "loop.example/g01012/impl.errLong" = some 2 := by kernel_rfl
theorem gLT : (Tryd.prog.globals[2]?).map (·.type) = some 76 := by kernel_rfl
theorem gF : Tryd.prog.globalNamed "loop.example/g01012/impl.errForeign" = some 3 := by kernel_rfl
theorem gFT : (Tryd.prog.globals[3]?).map (·.type) = some 76 := by kernel_rfl
theorem gM : Tryd.prog.globalNamed "loop.example/g01012/impl.errNoMeaning" = some 4 := by kernel_rfl
theorem gMT : (Tryd.prog.globals[4]?).map (·.type) = some 76 := by kernel_rfl
theorem star : "*" ++ "errors.errorString" = "*errors.errorString" := by decide
theorem rowE (u : TypeId) (h : Tryd.prog.typeName? 3 u = some "*errors.errorString") : u = 187 :=
  typeName_ptr_named (nm := "errors.errorString") (by rw [star]; kernel_rfl) (by kernel_rfl) (by decide) u (by rw [star]; exact h)
theorem cellsE : Tryd.prog.cellsOf 189 = 1 := by kernel_rfl
theorem cellsS : Tryd.prog.cellsOf 9 = 1 := by kernel_rfl

/-- What the row's list gives: three sentinels. -/
theorem sents_of {W : World} (h : laidMetH Tryd.prog Rows.fnLegalRow.laid W) : ∃ aL aF aM, Sents W aL aF aM := by
  obtain ⟨a0, a1, a2, c0, c1, c2, t0, t1, t2, h0, h1, h2, n01, n02, n12, b0, b1, b2⟩ := laid_three (show laidMet Tryd.prog Rows.fnLegalRow.laid W from h) gL gLT gF gFT gM gMT Tryd.underlying76 rowE Tryd.underlying187 Tryd.underlying189 rfl rfl Tryd.underlying9 cellsE cellsS
  exact ⟨a0, a1, a2, ⟨by simpa using World.var?_cell gL h0 0, c0, t0, b0⟩, ⟨by simpa using World.var?_cell gF h1 0, c1, t1, b1⟩, ⟨by simpa using World.var?_cell gM h2 0, c2, t2, b2⟩, n01, n02, n12⟩

theorem walk (W : World) (A : Option Addr) (n c : Nat) (h0 : BytesAt W W.heap.size A n) (hn : n ≤ 9223372036854775807) (hL : laidMetH Tryd.prog Rows.fnLegalRow.laid W) :
    Calls Tryd.prog 4 #[.slice A n c] W fun e w' => e = .returned (.bool true) ∧ Below W.heap.size W w' := by
  obtain ⟨aL, aF, aM, hS⟩ := sents_of hL
  by_cases h : 3000 < n
  · exact walk_long A n c W hn h
  · exact walk_short A n c W h0 (by omega) hS

/-- The door's own heap meets the condition: three closed facts. -/
theorem door_met (os : Os) (args : Array Value) : laidMetH Tryd.prog Rows.fnLegalRow.laid ((World.doorLaid Tryd.prog 4000 os).forCall (fun _ _ => 0) ⟨#[], args, []⟩).memory :=
  laidMetH_of_parts3 (fuel := 8) (laidMet_of_run' 8 (by kernel_rfl) (by kernel_rfl)) (by kernel_rfl) (by kernel_rfl)

set_option maxRecDepth 100000 in
theorem lifted (os : Os) (started : os.Started) (H : Type) (enc : TypeId × Value → H) :
    ReturnsInHanded {} Tryd.checked os 4 .any (fun w args => (Rows.fnLegalSpec.pre enc Tryd.prog Tryd.f4 [] false w args ∧ laidMetH Tryd.prog Rows.fnLegalRow.laid w) ∧ sizedMet enc Tryd.prog Tryd.f4 (OpenSpec.ofChange Rows.fnLegalSpec) false w args)
      (Rows.fnLegalSpec.post enc Tryd.prog Tryd.f4 false true false false) := by
  refine returnsInHanded_of_change_and (C := Tryd.checked) (X := fun w _ => laidMetH Tryd.prog Rows.fnLegalRow.laid w) (fun _ _ _ hh h => h.of_heap hh) own started (by kernel_rfl) Tryd.func4
    (ChangeSpec.witness_shaped (enc := enc) (C := Tryd.checked) (os := os) (X := fun w _ => laidMetH Tryd.prog Rows.fnLegalRow.laid w) false (World.doorLaid Tryd.prog 4000 os) #[.slice none 0 0] 8 rfl (World.shaped_of_RefB (by kernel_rfl) (by kernel_rfl)) (by kernel_rfl) (by kernel_rfl) (by kernel_rfl) (door_met os _)) ?_
  intro W base args ds gs before hval0 hW _ _ hL _
  have hval : ∀ (j : Nat) t v, Tryd.f4.params[j]? = some t → args[j]? = some v → Value.okWide Tryd.prog W .any base t v := hval0
  have hW' := hW
  obtain ⟨p, q, hA0, hV, rfl, _, _⟩ := hW
  have hA : DataW.TrodAll enc Tryd.prog W 0 (fun _ => true) true Tryd.f4.params.toList args.toList ds p := hA0
  rw [Tryd.params4] at hA hval
  obtain ⟨v0, vs0, d0, ds0, p0, q0, hargs, rfl, rfl, h0, r0⟩ := trodAll_cons hA
  obtain ⟨rfl, rfl, rfl⟩ := trodAll_nil r0
  obtain rfl : args = #[v0] := by cases args; simp_all
  obtain ⟨g1, g2, g3, rfl⟩ : ∃ g1 g2 g3, gs = [g1, g2, g3] := by
    clear hL hW' hA hval
    match gs, hV with
    | [], h => exact h.elim
    | [_], ⟨_, _, _, _, _, _, _, _, _, _, h, _⟩ => exact h.elim
    | [_, _], ⟨_, _, _, _, _, _, _, _, _, _, ⟨_, _, _, _, _, _, _, _, _, _, h, _⟩, _⟩ => exact h.elim
    | [g1, g2, g3], _ => exact ⟨g1, g2, g3, rfl⟩
    | _ :: _ :: _ :: _ :: _, ⟨_, _, _, _, _, _, _, _, _, _, ⟨_, _, _, _, _, _, _, _, _, _, ⟨_, _, _, _, _, _, _, _, _, _, h, _⟩, _⟩, _⟩ => exact h.elim
  obtain ⟨A0, n0, c0, rfl, b0, l0⟩ := open_bytes (hval 0 22 v0 rfl rfl) h0
  refine (walk W A0 n0 c0 b0 l0 hL).mono fun e W' ⟨he, hb⟩ => ?_
  subst he
  have hread : ∀ t ∈ Tryd.f4.params.toList, Tryd.prog.readableRec t = true ∧ t < Tryd.prog.types.size := by
    intro t ht
    rw [Tryd.params4] at ht
    obtain rfl : t = 22 := by simpa using ht
    exact ⟨by kernel_rfl, of_decide_eq_true (by kernel_rfl)⟩
  have hlt := fun x hx => hW'.lt x (List.mem_append_left q hx)
  refine ⟨_, rfl, _, [g1, g2, g3], _, [], _, q, hW', ?_, args_stay hread hA0 (fun x hx => hb.same (hlt x hx)) (fun x hx => by simpa using hlt x hx), ?_, ?_, fun h => by cases h⟩
  · exact trodAll_mk1 (shut_bool Tryd.underlying4 true)
  · exact Below.trodVars laidOut hb (by kernel_rfl) hV
  · exact World.keptBut_mono (fun x hx => ⟨hx, by rcases List.mem_append.1 hx with h' | h' <;> first | exact Or.inr (Or.inl h') | exact Or.inr (Or.inr h') | exact Or.inr (Or.inr (by simpa using h'))⟩) (hb.frame (· ∈ _))

theorem said : Rows.FnLegalSaid :=
  OpenClaim.holds_of_wide 4 Tryd.f4 rfl rfl rfl rfl rfl rfl rfl ⟨rfl, rfl, rfl, rfl, rfl⟩ rfl rfl rfl rfl rfl (by kernel_rfl) Tryd.func4 (by kernel_rfl)
    (of_decide_eq_true (by kernel_rfl)) (by unfold Func.isWrapper; first | (rw [if_pos (by decide +kernel)]; kernel_rfl) | (rw [if_neg (by decide +kernel)]; exact ⟨rfl, rfl⟩))
    (fun os started H enc _ => lifted os started H enc)

/-- No parameter wants a stand-in; the program's own looks are as the card says. -/
theorem plain (f : FuncId) (fn : Func) (hf : Tryd.pinned.checked.prog.funcNamed "loop.example/g01012/laws.FnLegal" = some f) (hfn : Tryd.pinned.checked.prog.funcs[f]? = some fn) :
    Rows.fnLegalCard.stood.looks = Tryd.pinned.checked.prog.looks [] ∧ ∀ (j : Nat) t, fn.params[j]? = some t → Tryd.pinned.checked.prog.wantsStandIn t = false := by
  obtain rfl : f = 4 := Option.some.inj ((show Tryd.prog.funcNamed "loop.example/g01012/laws.FnLegal" = some 4 by kernel_rfl).symm.trans hf) |>.symm
  obtain rfl : fn = Tryd.f4 := (Option.some.inj (Tryd.func4.symm.trans hfn)).symm
  refine ⟨by kernel_rfl, fun j t ht => ?_⟩
  rw [Tryd.params4] at ht
  have hm : t ∈ [22] := by simpa using Array.mem_of_getElem? ht
  have hall : ([22].all fun u => !Tryd.prog.wantsStandIn u) = true := by kernel_rfl
  exact (show Tryd.prog.wantsStandIn t = false by simpa using List.all_eq_true.1 hall t hm)

theorem proved : Rows.FnLegalCardSaid :=
  Claim7.holds_tied_plain_at .later [] _ _ _ _ said (fun _ h => by cases h) (by kernel_rfl) (fun _ h => by cases h) fnLegal_row_tie rfl ⟨rfl, rfl⟩ (by kernel_rfl) rfl plain (by kernel_rfl)
end Go.Proofs.YtmibkaldeickdabDoor.fnLegal
