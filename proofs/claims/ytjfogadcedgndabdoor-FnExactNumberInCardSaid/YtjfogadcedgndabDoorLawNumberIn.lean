/- For every card and field, the law FnExactNumberIn returns true: impl.NumberIn answers as spec.NumberIn and leaves its argument as it was. Condition: the three sentinel errors hold what the program's text lays in them (the card ties that). -/
import Derived.Test.YtjfogadcedgndabDoorNumberIn
import Derived.Test.YtjfogadcedgndabDoorLaw
import Derived.Test.YtjfogadcedgndabDoorBoxed
import Derived.Deep.RegionHeld3
import Derived.Deep.DeepCutAuto
import Derived.Test.YtjfogadcedgndabDoorCards
import Derived.Test.YtjfogadcedgndabDoorTie
import Derived.LaidMore
import Derived.OpenVars
import Derived.Stop.Joined
namespace Go.Proofs.YtjfogadcedgndabDoor.fnExactNumberIn
open Go.ChangeShapes Go.WideShapes Go.ChangeAt Go.RowKit

theorem walk_big (A : Option Addr) (c n : Nat) (f0 : Int) (f1 : Int) (w : World) (hn : n ≤ 9223372036854775807) (hbig : 1048576 < n) :
    Calls Tryd.prog 4 #[.agg #[.slice A n c], .agg #[.int .i64 f0, .int .i64 f1]] w fun e w' => e = .returned (.bool true) ∧ Below w.heap.size w w' := by
  have hs := fun W => szCard_any A n c 1048576 W (by omega) (by omega) hn
  have e : (if (1048576 : Int) < (n : Int) then (-1 : Int) else 1048576 - n) = -1 := if_pos (by omega)
  rw [e] at hs
  have HS := Lib.hid hs
  clear hs e
  go_enter Tryd.func4, Tryd.ntmps4
  go_wp2_with fail
  refine (HS.out _).mono ?_
  rintro e w1 ⟨rfl, hb1⟩
  have B1 := Lib.hid (below_step ((below_box w _).alloc (by simp) _) hb1)
  clear hb1
  go_wp2
  go_ret
  exact ⟨rfl, B1.out⟩

set_option maxRecDepth 100000 in
set_option maxHeartbeats 4000000 in
theorem walk_small (A : Option Addr) (c : Nat) (xs : List Int) (f0 : Int) (f1 : Int) (r : Int) (k : Int) (w : World) (h : Ints w w.heap.size A xs) (hn : xs.length ≤ 1048576)
    (hs : ∀ (W : World) (A : Option Addr) (B : Nat), Below w.heap.size w W → Ints W B A xs → B ≤ W.heap.size → Calls Tryd.prog 13 #[.agg #[.slice A xs.length xs.length], .agg #[.int .i64 f0, .int .i64 f1]] W fun e w' => e = .returned (.tuple #[.int .i64 r, .int .i64 k]) ∧ Below W.heap.size W w')
    (hi : ∀ (W : World) (A : Option Addr) (B : Nat), Below w.heap.size w W → Ints W B A xs → B ≤ W.heap.size → Calls Tryd.prog 14 #[.agg #[.slice A xs.length xs.length], .agg #[.int .i64 f0, .int .i64 f1]] W fun e w' => e = .returned (.tuple #[.int .i64 r, .int .i64 k]) ∧ Below W.heap.size W w') :
    Calls Tryd.prog 4 #[.agg #[.slice A xs.length c], .agg #[.int .i64 f0, .int .i64 f1]] w fun e w' => e = .returned (.bool true) ∧ Below w.heap.size w w' := by
  have hz := fun W => szCard_any A xs.length c 1048576 W (by omega) (by omega) (by omega)
  have e : (if (1048576 : Int) < (xs.length : Int) then (-1 : Int) else 1048576 - xs.length) = 1048576 - xs.length := if_neg (by omega)
  rw [e] at hz
  have HZ := Lib.hid hz
  have H := Lib.hid h
  have HS := Lib.hid hs
  have HI := Lib.hid hi
  have hn' : xs.length ≤ 140737488355328 := by omega
  clear hz e h hs hi
  go_enter Tryd.func4, Tryd.ntmps4
  go_wp2_with fail
  refine (HZ.out _).mono ?_
  rintro e w1 ⟨rfl, hb⟩
  have B_1 := Lib.hid (below_step ((below_box w _).alloc (by simp) _) hb)
  have ca_1 := cell_kept (p := ⟨w.heap.size, 0, none⟩) (v := .slice A xs.length c) (by simp [go_sem]) hb
  have fa_1 := cell_kept (p := ⟨w.heap.size + 1, 0, none⟩) (v := .int .i64 f0) (by simp [go_sem]) hb
  have fb_1 := cell_kept (p := ⟨w.heap.size + 1, 1, none⟩) (v := .int .i64 f1) (by simp [go_sem]) hb
  clear hb
  go_upto_region 5 with fail
  go_cut [6, 7] (fun s0 s1 wx => s0 = .int .i64 r ∧ s1 = .int .i64 k ∧ Below w1.heap.size w1 wx)
  case first =>
    have K0 := Lib.hid (below_drew (Below.refl w1.heap.size w1))
    go_region_held3 (fun W => W.cell? ⟨w.heap.size, 0, none⟩ = some (.slice A xs.length c) ∧ W.cell? ⟨w.heap.size + 1, 0, none⟩ = some (.int .i64 f0) ∧ W.cell? ⟨w.heap.size + 1, 1, none⟩ = some (.int .i64 f1))
      (first | exact ⟨ca_1, fa_1, fb_1⟩ | exact ⟨cell_kept ca_1 K0.out, cell_kept fa_1 K0.out, cell_kept fb_1 K0.out⟩ | exact ⟨cell_kept ca_1 K1.out, cell_kept fa_1 K1.out, cell_kept fb_1 K1.out⟩ | exact ⟨cell_kept ca_1 K2.out, cell_kept fa_1 K2.out, cell_kept fb_1 K2.out⟩ | exact ⟨cell_kept ca_1 K3.out, cell_kept fa_1 K3.out, cell_kept fb_1 K3.out⟩ | go_keep)
      (first
        | (go_at_call 7
           refine (toCard_any A c xs w.heap.size _ ?_ ?_ hn).mono ?_
           · first | exact H.out.below B_1.out.drew
           · first | exact B_1.out.drew.size
           rintro e w1_1 ⟨ga, rfl, hg, hb, hrow⟩
           have K1 : Hid (Below w1.heap.size w1 w1_1) := below_step K0.out hb
           have Ra_r1 := Lib.hid hrow
           clear hb hrow hg)
        | (go_at_call 8
           refine (toField_any f0 f1 _).mono ?_
           rintro e w1_2 ⟨rfl, hb⟩
           have K2 : Hid (Below w1.heap.size w1 w1_2) := below_step K1.out hb
           have Ra_r2 := Lib.hid (Row.later Ra_r1.out hb)
           clear hb)
        | (go_at_call 13
           refine (HS.out _ (some ⟨ga, 0, none⟩) (ga + 1) ?_ ?_ ?_).mono ?_
           · first | exact (below_step B_1.out K2.out)
           · first | exact Ra_r2.out.ints
           · first | exact Ra_r2.out.lt
           rintro e w1_3 ⟨rfl, hb⟩
           have K3 : Hid (Below w1.heap.size w1 w1_3) := below_step K2.out hb
           clear hb))
    all_goals (go_wp2_with fail; go_meet; exact ⟨rfl, rfl, K3.out⟩)
  case rest =>
    obtain ⟨rfl, rfl, hb⟩ := hcut
    rename World => w2
    have B_2 := Lib.hid (below_step B_1.out hb)
    have ca_2 := cell_kept ca_1 hb
    have fa_2 := cell_kept fa_1 hb
    have fb_2 := cell_kept fb_1 hb
    clear hb ca_1 fa_1 fb_1 B_1
    go_wp2_with fail
    refine (toCard_any A c xs w.heap.size _ (H.out.below B_2.out) B_2.out.size hn).mono ?_
    rintro e w3 ⟨gx, rfl, hg, hb, hrow⟩
    have L_ca_Rx : Hid (w.heap.size < gx) := Nat.lt_of_lt_of_le (World.block_lt_of_cell? _ _ ca_2) hg
    have L_fa_Rx : Hid (w.heap.size + 1 < gx) := Nat.lt_of_lt_of_le (World.block_lt_of_cell? _ _ fa_2) hg
    have L_fb_Rx : Hid (w.heap.size + 1 < gx) := Nat.lt_of_lt_of_le (World.block_lt_of_cell? _ _ fb_2) hg
    have G_Rx := Lib.hid (Nat.le_trans B_2.out.size hg)
    have B_3 := Lib.hid (below_step B_2.out hb)
    have ca_3 := cell_kept ca_2 hb
    have fa_3 := cell_kept fa_2 hb
    have fb_3 := cell_kept fb_2 hb
    have Rx_3 := Lib.hid hrow
    clear hb hrow hg ca_2 fa_2 fb_2 B_2
    have L_Rx_bx : Hid (gx < w3.heap.size) := Nat.lt_of_lt_of_le (Rx_3.out.lt) (Nat.le_refl _)
    have hb := below_box w3 (.cells #[.slice (some ⟨gx, 0, none⟩) xs.length xs.length] 28)
    have B_4 := Lib.hid (below_step B_3.out hb)
    have ca_4 := cell_kept ca_3 hb
    have fa_4 := cell_kept fa_3 hb
    have fb_4 := cell_kept fb_3 hb
    have Rx_4 := Lib.hid (Rx_3.out.later hb)
    have bx_4 : (w3.alloc (.cells #[.slice (some ⟨gx, 0, none⟩) xs.length xs.length] 28)).cell? ⟨w3.heap.size, 0, none⟩ = some (.slice (some ⟨gx, 0, none⟩) xs.length xs.length) := by simp
    clear hb ca_3 fa_3 fb_3 Rx_3 B_3
    go_upto_region 7 with fail
    generalize (w3.alloc (.cells #[.slice (some ⟨gx, 0, none⟩) xs.length xs.length] 28)) = v4 at *
    go_cut [9, 10] (fun s0 s1 wx => s0 = .int .i64 r ∧ s1 = .int .i64 k ∧ Below v4.heap.size v4 wx)
    case first =>
      have K0 := Lib.hid (below_drew (Below.refl v4.heap.size v4))
      go_region_held3 (fun W => W.cell? ⟨w3.heap.size, 0, none⟩ = some (.slice (some ⟨gx, 0, none⟩) xs.length xs.length) ∧ W.cell? ⟨w.heap.size + 1, 0, none⟩ = some (.int .i64 f0) ∧ W.cell? ⟨w.heap.size + 1, 1, none⟩ = some (.int .i64 f1))
        (first | exact ⟨bx_4, fa_4, fb_4⟩ | exact ⟨cell_kept bx_4 K0.out, cell_kept fa_4 K0.out, cell_kept fb_4 K0.out⟩ | exact ⟨cell_kept bx_4 K1.out, cell_kept fa_4 K1.out, cell_kept fb_4 K1.out⟩ | exact ⟨cell_kept bx_4 K2.out, cell_kept fa_4 K2.out, cell_kept fb_4 K2.out⟩ | go_keep)
        (first
          | (go_at_call 8
             refine (toField_any f0 f1 _).mono ?_
             rintro e w4_1 ⟨rfl, hb⟩
             have K1 : Hid (Below v4.heap.size v4 w4_1) := below_step K0.out hb
             have Rx_r1 := Lib.hid (Row.later Rx_4.out.drew hb)
             clear hb)
          | (go_at_call 14
             refine (HI.out _ (some ⟨gx, 0, none⟩) (gx + 1) ?_ ?_ ?_).mono ?_
             · first | exact (below_step B_4.out K1.out)
             · first | exact Rx_r1.out.ints
             · first | exact Rx_r1.out.lt
             rintro e w4_2 ⟨rfl, hb⟩
             have K2 : Hid (Below v4.heap.size v4 w4_2) := below_step K1.out hb
             clear hb))
      all_goals (go_wp2_with fail; go_meet; exact ⟨rfl, rfl, K2.out⟩)
    case rest =>
      obtain ⟨rfl, rfl, hb⟩ := hcut
      rename World => w5
      have B_5 := Lib.hid (below_step B_4.out hb)
      have ca_5 := cell_kept ca_4 hb
      have fa_5 := cell_kept fa_4 hb
      have fb_5 := cell_kept fb_4 hb
      have bx_5 := cell_kept bx_4 hb
      have Rx_5 := Lib.hid (Rx_4.out.later hb)
      clear hb ca_4 fa_4 fb_4 bx_4 Rx_4 B_4
      all_goals
        go_wp2
        go_region_held3 (fun W => W.cell? ⟨w.heap.size, 0, none⟩ = some (.slice A xs.length c) ∧ W.cell? ⟨w3.heap.size, 0, none⟩ = some (.slice (some ⟨gx, 0, none⟩) xs.length xs.length))
          (first | exact ⟨ca_5, bx_5⟩ | exact ⟨ca_6, bx_6⟩ | exact ⟨ca_7, bx_7⟩)
          (first
            | (go_at_call 7
               refine (toCard_any A c xs w.heap.size _ ?_ ?_ hn).mono ?_
               · exact H.out.below B_5.out.drew
               · exact B_5.out.drew.size
               rintro e w6 ⟨ge, rfl, hg, hb, hrow⟩
               have L_Rx_Re : Hid (gx < ge) := Nat.lt_of_lt_of_le (Rx_5.out.lt) hg
               have B_6 := Lib.hid (below_step B_5.out.drew hb)
               have ca_6 := cell_kept (w := w5.drew) ca_5 hb
               have fa_6 := cell_kept (w := w5.drew) fa_5 hb
               have fb_6 := cell_kept (w := w5.drew) fb_5 hb
               have bx_6 := cell_kept (w := w5.drew) bx_5 hb
               have Rx_6 := Lib.hid (Rx_5.out.drew.later hb)
               have Re_6 := Lib.hid hrow
               clear hb hrow hg)
            | (go_at_call 10
               refine (eqCard_any (some ⟨gx, 0, none⟩) (some ⟨ge, 0, none⟩) _ _ xs xs (gx + 1) (ge + 1) _ ?_ ?_ ?_ ?_ hn hn').mono ?_
               · exact Rx_6.out.ints
               · exact Re_6.out.ints
               · exact Rx_6.out.lt
               · exact Re_6.out.lt
               rintro e w7 ⟨rfl, hb⟩
               have B_7 := Lib.hid (below_step B_6.out hb)
               have ca_7 := cell_kept ca_6 hb
               have fa_7 := cell_kept fa_6 hb
               have fb_7 := cell_kept fb_6 hb
               have bx_7 := cell_kept bx_6 hb
               have Rx_7 := Lib.hid (Rx_6.out.later hb)
               have Re_7 := Lib.hid (Re_6.out.later hb)
               clear hb))
        clear ca_5 fa_5 fb_5 bx_5 Rx_5 B_5 ca_6 fa_6 fb_6 bx_6 Rx_6 Re_6 B_6
        go_wp2
        go_ret
        exact ⟨rfl, B_7.out⟩

theorem gL : Tryd.prog.globalNamed "loop.example/g01012/impl.errLong" = some 0 := by kernel_rfl
theorem gLT : (Tryd.prog.globals[0]?).map (·.type) = some 53 := by kernel_rfl
theorem gF : Tryd.prog.globalNamed "loop.example/g01012/impl.errForeign" = some 1 := by kernel_rfl
theorem gFT : (Tryd.prog.globals[1]?).map (·.type) = some 53 := by kernel_rfl
theorem gM : Tryd.prog.globalNamed "loop.example/g01012/impl.errNoMeaning" = some 2 := by kernel_rfl
theorem gMT : (Tryd.prog.globals[2]?).map (·.type) = some 53 := by kernel_rfl
theorem star : "*" ++ "errors.errorString" = "*errors.errorString" := by decide
theorem rowE (u : TypeId) (h : Tryd.prog.typeName? 3 u = some "*errors.errorString") : u = 135 :=
  typeName_ptr_named (nm := "errors.errorString") (by rw [star]; kernel_rfl) (by kernel_rfl) (by decide) u (by rw [star]; exact h)
theorem cellsE : Tryd.prog.cellsOf 157 = 1 := by kernel_rfl
theorem cellsS : Tryd.prog.cellsOf 9 = 1 := by kernel_rfl

/-- What the row's list gives: three sentinels. -/
theorem sents_of {W : World} (h : laidMetH Tryd.prog Rows.fnExactNumberInRow.laid W) : ∃ aL aF aM, Sents W aL aF aM := by
  obtain ⟨a0, a1, a2, c0, c1, c2, t0, t1, t2, h0, h1, h2, n01, n02, n12, b0, b1, b2⟩ := laid_three (show laidMet Tryd.prog Rows.fnExactNumberInRow.laid W from h) gL gLT gF gFT gM gMT Tryd.underlying53 rowE Tryd.underlying135 Tryd.underlying157 rfl rfl Tryd.underlying9 cellsE cellsS
  exact ⟨a0, a1, a2, ⟨by simpa using World.var?_cell gL h0 0, c0, t0, b0⟩, ⟨by simpa using World.var?_cell gF h1 0, c1, t1, b1⟩, ⟨by simpa using World.var?_cell gM h2 0, c2, t2, b2⟩, n01, n02, n12⟩

theorem walk (A : Option Addr) (c : Nat) (xs : List Int) {w : World} (h : Ints w w.heap.size A xs) (hl : xs.length ≤ 9223372036854775807) (_ : ∀ n ∈ xs, (Lit.int .i64 n).wf = true) (f0 f1 : Int) (_ : (Lit.int .i64 f0).wf = true) (_ : (Lit.int .i64 f1).wf = true) (w1 : World) (e1 : w = w1) (hL : laidMetH Tryd.prog Rows.fnExactNumberInRow.laid w1) :
    Calls Tryd.prog 4 #[.agg #[.slice A xs.length c], .agg #[.int .i64 f0, .int .i64 f1]] w1 fun e w' => e = .returned (.bool true) ∧ Below w1.heap.size w1 w' := by
  subst e1
  obtain ⟨aL, aF, aM, hS⟩ := sents_of hL
  by_cases hn : xs.length ≤ 1048576
  · by_cases e : partCode xs f0 f1 = 0
    · obtain ⟨_, hv, hf⟩ : partCode xs f0 f1 = 0 ∧ okB xs = true ∧ fieldB f0 f1 xs.length = true := by
        rcases partCode_cases xs f0 f1 with h' | h' | h' <;> first | exact h' | (rw [e] at h'; exact absurd h'.1 (by decide))
      have hf' : 0 ≤ f0 ∧ f0 < f1 ∧ f1 ≤ xs.length := by simpa [fieldB] using hf
      obtain ⟨i, rfl⟩ : ∃ i : Nat, f0 = i := ⟨f0.toNat, by omega⟩
      obtain ⟨j, rfl⟩ : ∃ j : Nat, f1 = j := ⟨f1.toNat, by omega⟩
      have hij : i < j := by omega
      have hj : j ≤ xs.length := by omega
      by_cases hlong : 12 < j - i
      · refine walk_small A c xs i j 0 5 w h hn (fun W A B hW hI hB => ?_) (fun W A B hW hI hB => ?_)
        · obtain ⟨b, off, rfl, _⟩ := hI (by omega)
          exact specNumberIn_long b off xs.length xs B i j W hI hB hn hij hj e hlong
        · obtain ⟨b, off, rfl, _⟩ := hI (by omega)
          exact implNumberIn_long b off xs.length xs B i j W hI hB (Nat.le_refl _) hn hij hj e hlong (hS.below hW)
      · refine walk_small A c xs i j (numV (numOf (partOf xs i j))) (numCode (numOf (partOf xs i j))) w h hn (fun W A B hW hI hB => ?_) (fun W A B hW hI hB => ?_)
        · obtain ⟨b, off, rfl, _⟩ := hI (by omega)
          exact specNumberIn_good b off xs.length xs B i j W hI hB (Nat.le_refl _) hn hij hj e hv (by omega)
        · obtain ⟨b, off, rfl, _⟩ := hI (by omega)
          exact implNumberIn_good b off xs.length xs B i j W hI hB (Nat.le_refl _) ⟨hn, by omega⟩ hij hj e hv (by omega) (hS.below hW)
    · exact walk_small A c xs f0 f1 0 _ w h hn (fun W A B _ hI hB => specNumberIn_bad A xs.length xs B f0 f1 W hI hB hn e) (fun W A B _ hI hB => implNumberIn_bad A xs.length xs B f0 f1 W hI hB hn e)
  · exact walk_big A c xs.length f0 f1 w hl (by omega)

/-- The door's own heap meets the condition: three closed facts. -/
theorem door_met (os : Os) (args : Array Value) : laidMetH Tryd.prog Rows.fnExactNumberInRow.laid ((World.doorLaid Tryd.prog 4000 os).forCall (fun _ _ => 0) ⟨#[], args, []⟩).memory :=
  laidMetH_of_parts3 (fuel := 8) (laidMet_of_run' 8 (by kernel_rfl) (by kernel_rfl)) (by kernel_rfl) (by kernel_rfl)

set_option maxRecDepth 100000 in
theorem lifted (os : Os) (started : os.Started) (H : Type) (enc : TypeId × Value → H) :
    ReturnsInHanded {} Tryd.checked os 4 .any (fun w args => (Rows.fnExactNumberInSpec.pre enc Tryd.prog Tryd.f4 [] false w args ∧ laidMetH Tryd.prog Rows.fnExactNumberInRow.laid w) ∧ sizedMet enc Tryd.prog Tryd.f4 (OpenSpec.ofChange Rows.fnExactNumberInSpec) false w args)
      (Rows.fnExactNumberInSpec.post enc Tryd.prog Tryd.f4 false true false false) := by
  refine returnsInHanded_of_change_and (C := Tryd.checked) (X := fun w _ => laidMetH Tryd.prog Rows.fnExactNumberInRow.laid w) (fun _ _ _ hh h => h.of_heap hh) own started (by kernel_rfl) Tryd.func4
    (ChangeSpec.witness_shaped (enc := enc) (C := Tryd.checked) (os := os) (X := fun w _ => laidMetH Tryd.prog Rows.fnExactNumberInRow.laid w) false (World.doorLaid Tryd.prog 4000 os) #[.agg #[.slice none 0 0], .agg #[.int .i64 0, .int .i64 0]] 8 rfl (World.shaped_of_RefB (by kernel_rfl) (by kernel_rfl)) (by kernel_rfl) (by kernel_rfl) (by kernel_rfl) (door_met os _)) ?_
  intro W base args ds gs before hval0 hW _ _ hL _
  have hval : ∀ (j : Nat) t v, Tryd.f4.params[j]? = some t → args[j]? = some v → Value.okWide Tryd.prog W .any base t v := hval0
  have hW' := hW
  obtain ⟨p, q, hA0, hV, rfl, _, _⟩ := hW
  have hA : DataW.TrodAll enc Tryd.prog W 0 (fun _ => true) true Tryd.f4.params.toList args.toList ds p := hA0
  rw [Tryd.params4] at hA hval
  obtain ⟨v0, vs0, d0, ds0, p0, q0, hargs, rfl, rfl, h0, r0⟩ := trodAll_cons hA
  obtain ⟨v1, vs1, d1, ds1, p1, q1, rfl, rfl, rfl, h1, r1⟩ := trodAll_cons r0
  obtain ⟨rfl, rfl, rfl⟩ := trodAll_nil r1
  obtain rfl : args = #[v0, v1] := by cases args; simp_all
  obtain ⟨g1, g2, g3, rfl⟩ : ∃ g1 g2 g3, gs = [g1, g2, g3] := by
    clear hL hW' hA hval
    match gs, hV with
    | [], h => exact h.elim
    | [_], ⟨_, _, _, _, _, _, _, _, _, _, h, _⟩ => exact h.elim
    | [_, _], ⟨_, _, _, _, _, _, _, _, _, _, ⟨_, _, _, _, _, _, _, _, _, _, h, _⟩, _⟩ => exact h.elim
    | [g1, g2, g3], _ => exact ⟨g1, g2, g3, rfl⟩
    | _ :: _ :: _ :: _ :: _, ⟨_, _, _, _, _, _, _, _, _, _, ⟨_, _, _, _, _, _, _, _, _, _, ⟨_, _, _, _, _, _, _, _, _, _, h, _⟩, _⟩, _⟩ => exact h.elim
  obtain ⟨A0, c0, xs0, rfl, i0, l0, w0⟩ := open_card (hval 0 24 v0 rfl rfl) h0
  obtain ⟨a1, b1, rfl, w1, u1⟩ := open_field (hval 1 26 v1 rfl rfl) h1
  refine (walk A0 c0 xs0 i0 l0 w0 a1 b1 w1 u1 W rfl hL).mono fun e W' ⟨he, hb⟩ => ?_
  subst he
  have hread : ∀ t ∈ Tryd.f4.params.toList, Tryd.prog.readableRec t = true ∧ t < Tryd.prog.types.size := by
    intro t ht
    rw [Tryd.params4] at ht
    have ht' : t = 24 ∨ t = 26 := by simpa using ht
    rcases ht' with rfl | rfl <;> exact ⟨by kernel_rfl, of_decide_eq_true (by kernel_rfl)⟩
  have hlt := fun x hx => hW'.lt x (List.mem_append_left q hx)
  refine ⟨_, rfl, _, [g1, g2, g3], _, [], _, q, hW', ?_, args_stay hread hA0 (fun x hx => hb.same (hlt x hx)) (fun x hx => by simpa using hlt x hx), ?_, ?_, fun h => by cases h⟩
  · exact trodAll_mk1 (shut_bool Tryd.underlying4 true)
  · exact Below.trodVars laidOut hb (by kernel_rfl) hV
  · exact World.keptBut_mono (fun x hx => ⟨hx, by rcases List.mem_append.1 hx with h' | h' <;> first | exact Or.inr (Or.inl h') | exact Or.inr (Or.inr h') | exact Or.inr (Or.inr (by simpa using h'))⟩) (hb.frame (· ∈ _))

theorem said : Rows.FnExactNumberInSaid :=
  OpenClaim.holds_of_wide 4 Tryd.f4 rfl rfl rfl rfl rfl rfl rfl ⟨rfl, rfl, rfl, rfl, rfl⟩ rfl rfl rfl rfl rfl (by kernel_rfl) Tryd.func4 (by kernel_rfl)
    (of_decide_eq_true (by kernel_rfl)) (by unfold Func.isWrapper; first | (rw [if_pos (by decide +kernel)]; kernel_rfl) | (rw [if_neg (by decide +kernel)]; exact ⟨rfl, rfl⟩))
    (fun os started H enc _ => lifted os started H enc)

/-- No parameter wants a stand-in; the program's own looks are as the card says. -/
theorem plain (f : FuncId) (fn : Func) (hf : Tryd.pinned.checked.prog.funcNamed "loop.example/g01012/laws.FnExactNumberIn" = some f) (hfn : Tryd.pinned.checked.prog.funcs[f]? = some fn) :
    Rows.fnExactNumberInCard.stood.looks = Tryd.pinned.checked.prog.looks [] ∧ ∀ (j : Nat) t, fn.params[j]? = some t → Tryd.pinned.checked.prog.wantsStandIn t = false := by
  obtain rfl : f = 4 := Option.some.inj ((show Tryd.prog.funcNamed "loop.example/g01012/laws.FnExactNumberIn" = some 4 by kernel_rfl).symm.trans hf) |>.symm
  obtain rfl : fn = Tryd.f4 := (Option.some.inj (Tryd.func4.symm.trans hfn)).symm
  refine ⟨by kernel_rfl, fun j t ht => ?_⟩
  rw [Tryd.params4] at ht
  have hm : t ∈ [24, 26] := by simpa using Array.mem_of_getElem? ht
  have hall : ([24, 26].all fun u => !Tryd.prog.wantsStandIn u) = true := by kernel_rfl
  exact (show Tryd.prog.wantsStandIn t = false by simpa using List.all_eq_true.1 hall t hm)

theorem proved : Rows.FnExactNumberInCardSaid :=
  Claim7.holds_tied_plain_at .later [] _ _ _ _ said (fun _ h => by cases h) (by kernel_rfl) (fun _ h => by cases h) fnExactNumberIn_row_tie rfl ⟨rfl, rfl⟩ (by kernel_rfl) rfl plain (by kernel_rfl)
end Go.Proofs.YtjfogadcedgndabDoor.fnExactNumberIn
