/- For every text and width, the law FnExactPunchText returns true: impl.PunchText answers as spec.PunchText, in memory of its own. Condition: the two sentinel errors hold what the program's text lays in them (the card ties that). -/
import Derived.Test.YtmibkaldeickdadDoorPunchText
import Derived.Test.YtmibkaldeickdadDoorLaw
import Derived.Test.YtmibkaldeickdadDoorCards
import Derived.Test.YtmibkaldeickdadDoorTie
import Derived.LaidMore
import Derived.OpenVars
import Derived.Stop.Joined
namespace Go.Proofs.YtmibkaldeickdadDoor.fnExactPunchText
open Go.ChangeShapes Go.WideShapes Go.ChangeAt Go.RowKit
open Go.ChangeMaps (open_string)

theorem walk_big (s : ByteArray) (a1 : Int) (w : World) (hn : s.size ≤ 9223372036854775807) (hbig : 1048576 < s.size) :
    Calls Tryd.prog 3 #[.string s, .int .i64 a1] w fun e w' => e = .returned (.bool true) ∧ Below w.heap.size w w' := by
  have hb : (1048576 : Int) < (s.size : Int) := by omega
  go_enter Tryd.func3, Tryd.ntmps3
  go_wp2
  go_ret
  exact ⟨rfl, Below.refl _ _⟩

theorem walk_no (s : ByteArray) (a1 : Int) (k : Int) (w : World) (hm : s.size ≤ 1048576)
    (hs : ∀ W : World, Below w.heap.size w W → Calls Tryd.prog 8 #[.string s, .int .i64 a1] W (GivesCode k W))
    (hi : ∀ W : World, Below w.heap.size w W → Calls Tryd.prog 9 #[.string s, .int .i64 a1] W (GivesCode k W)) :
    Calls Tryd.prog 3 #[.string s, .int .i64 a1] w fun e w' => e = .returned (.bool true) ∧ Below w.heap.size w w' := by
  have hb : ¬ (1048576 : Int) < (s.size : Int) := by omega
  have HS := Lib.hid hs
  have HI := Lib.hid hi
  clear hs hi
  go_enter Tryd.func3, Tryd.ntmps3
  go_wp2_with fail
  refine (HS.out _ (Below.refl _ _)).mono ?_
  rintro e w1 ⟨rfl, hb⟩
  have B_1 := Lib.hid hb
  clear hb
  have hb := below_box w1 (.cells #[.slice none 0 0] 24)
  have B_2 := Lib.hid (below_step B_1.out hb)
  have cw_2 : (w1.alloc (.cells #[.slice none 0 0] 24)).cell? ⟨w1.heap.size, 0, none⟩ = some (.slice none 0 0) := by simp
  clear hb B_1
  go_wp2_with fail
  refine (HI.out _ B_2.out).mono ?_
  rintro e w3 ⟨rfl, hb⟩
  have B_3 := Lib.hid (below_step B_2.out hb)
  have cw_3 := cell_kept cw_2 hb
  clear hb cw_2 B_2
  have hb := below_box w3 (.cells #[.slice none 0 0] 24)
  have B_4 := Lib.hid (below_step B_3.out hb)
  have cw_4 := cell_kept cw_3 hb
  have cg_4 : (w3.alloc (.cells #[.slice none 0 0] 24)).cell? ⟨w3.heap.size, 0, none⟩ = some (.slice none 0 0) := by simp
  clear hb cw_3 B_3
  go_wp2_with fail
  refine (eqCard_any none none 0 0 [] [] 0 0 _ Ints.nil Ints.nil (Nat.zero_le _) (Nat.zero_le _) (by simp) (by simp)).mono ?_
  rintro e w5 ⟨rfl, hb⟩
  have B_5 := Lib.hid (below_step B_4.out hb)
  have cw_5 := cell_kept cw_4 hb
  have cg_5 := cell_kept cg_4 hb
  clear hb cw_4 cg_4 B_4
  go_wp2_with fail
  refine (markCard_nil 0 1 _).mono ?_
  rintro e w6 ⟨rfl, hb⟩
  have B_6 := Lib.hid (below_step B_5.out hb)
  have cw_6 := cell_kept cw_5 hb
  have cg_6 := cell_kept cg_5 hb
  clear hb cw_5 cg_5 B_5
  go_wp2_with fail
  refine (heldCard_any none 0 0 0 1 _ Ints.nil (Nat.zero_le _) (by omega) (by omega) (by omega)).mono ?_
  rintro e w7 ⟨rfl, hb⟩
  have B_7 := Lib.hid (below_step B_6.out hb)
  have cw_7 := cell_kept cw_6 hb
  have cg_7 := cell_kept cg_6 hb
  clear hb cw_6 cg_6 B_6
  go_wp2_with fail
  refine (HI.out _ B_7.out).mono ?_
  rintro e w8 ⟨rfl, hb⟩
  have B_8 := Lib.hid (below_step B_7.out hb)
  have cw_8 := cell_kept cw_7 hb
  have cg_8 := cell_kept cg_7 hb
  clear hb cw_7 cg_7 B_7
  have hb := below_box w8 (.cells #[.slice none 0 0] 24)
  have B_9 := Lib.hid (below_step B_8.out hb)
  have cw_9 := cell_kept cw_8 hb
  have cg_9 := cell_kept cg_8 hb
  have ch_9 : (w8.alloc (.cells #[.slice none 0 0] 24)).cell? ⟨w8.heap.size, 0, none⟩ = some (.slice none 0 0) := by simp
  clear hb cw_8 cg_8 B_8
  go_wp2_with fail
  refine (eqCard_any none none 0 0 [] [] 0 0 _ Ints.nil Ints.nil (Nat.zero_le _) (Nat.zero_le _) (by simp) (by simp)).mono ?_
  rintro e w10 ⟨rfl, hb⟩
  have B_10 := Lib.hid (below_step B_9.out hb)
  have cw_10 := cell_kept cw_9 hb
  have cg_10 := cell_kept cg_9 hb
  have ch_10 := cell_kept ch_9 hb
  clear hb cw_9 cg_9 ch_9 B_9
  go_wp2_with fail
  refine (heldCard_any none 0 0 0 1 _ Ints.nil (Nat.zero_le _) (by omega) (by omega) (by omega)).mono ?_
  rintro e w11 ⟨rfl, hb⟩
  have B_11 := Lib.hid (below_step B_10.out hb)
  have cw_11 := cell_kept cw_10 hb
  have cg_11 := cell_kept cg_10 hb
  have ch_11 := cell_kept ch_10 hb
  clear hb cw_10 cg_10 ch_10 B_10
  go_wp2
  go_ret
  exact ⟨rfl, B_11.out⟩

theorem walk_yes (s : ByteArray) (a1 : Int) (ys : List Int) (w : World) (hm : s.size ≤ 1048576) (hn : ys.length ≤ 1048576)
    (hs : ∀ W : World, Below w.heap.size w W → Calls Tryd.prog 8 #[.string s, .int .i64 a1] W (GivesCard ys W))
    (hi : ∀ W : World, Below w.heap.size w W → Calls Tryd.prog 9 #[.string s, .int .i64 a1] W (GivesCard ys W)) :
    Calls Tryd.prog 3 #[.string s, .int .i64 a1] w fun e w' => e = .returned (.bool true) ∧ Below w.heap.size w w' := by
  have hb : ¬ (1048576 : Int) < (s.size : Int) := by omega
  have HS := Lib.hid hs
  have HI := Lib.hid hi
  clear hs hi
  have hn' : ys.length ≤ 140737488355328 := by omega
  go_enter Tryd.func3, Tryd.ntmps3
  go_wp2_with fail
  refine (HS.out _ (Below.refl _ _)).mono ?_
  rintro e w1 ⟨gw, cw, xw, rfl, hg, hb, hrow⟩
  have B_1 := Lib.hid hb
  have Rw_1 := Lib.hid hrow
  clear hb hrow hg
  have hb := below_box w1 (.cells #[.slice (some ⟨gw, 0, none⟩) ys.length cw] 24)
  have B_2 := Lib.hid (below_step B_1.out hb)
  have Rw_2 := Lib.hid (Rw_1.out.later hb)
  have cw_2 : (w1.alloc (.cells #[.slice (some ⟨gw, 0, none⟩) ys.length cw] 24)).cell? ⟨w1.heap.size, 0, none⟩ = some (.slice (some ⟨gw, 0, none⟩) ys.length cw) := by simp
  clear hb Rw_1 B_1
  go_wp2_with fail
  refine (HI.out _ B_2.out).mono ?_
  rintro e w3 ⟨gg, cg, xg, rfl, hg, hb, hrow⟩
  have L_Rw_Rg : Hid (gw < gg) := Nat.lt_of_lt_of_le (Rw_2.out.lt) hg
  have L_cw_Rg : Hid (w1.heap.size < gg) := Nat.lt_of_lt_of_le (World.block_lt_of_cell? _ _ cw_2) hg
  have G_Rg := Lib.hid (Nat.le_trans B_2.out.size hg)
  have B_3 := Lib.hid (below_step B_2.out hb)
  have cw_3 := cell_kept cw_2 hb
  have Rw_3 := Lib.hid (Rw_2.out.later hb)
  have Rg_3 := Lib.hid hrow
  clear hb hrow hg cw_2 Rw_2 B_2
  have L_Rg_cg : Hid (gg < w3.heap.size) := Nat.lt_of_lt_of_le (Rg_3.out.lt) (Nat.le_refl _)
  have hb := below_box w3 (.cells #[.slice (some ⟨gg, 0, none⟩) ys.length cg] 24)
  have B_4 := Lib.hid (below_step B_3.out hb)
  have cw_4 := cell_kept cw_3 hb
  have Rw_4 := Lib.hid (Rw_3.out.later hb)
  have Rg_4 := Lib.hid (Rg_3.out.later hb)
  have cg_4 : (w3.alloc (.cells #[.slice (some ⟨gg, 0, none⟩) ys.length cg] 24)).cell? ⟨w3.heap.size, 0, none⟩ = some (.slice (some ⟨gg, 0, none⟩) ys.length cg) := by simp
  clear hb cw_3 Rw_3 Rg_3 B_3
  go_wp2_with fail
  refine (eqCard_any (some ⟨gg, 0, none⟩) (some ⟨gw, 0, none⟩) cg cw ys ys (gg + 1) (gw + 1) _ Rg_4.out.ints Rw_4.out.ints Rg_4.out.lt Rw_4.out.lt hn hn').mono ?_
  rintro e w5 ⟨rfl, hb⟩
  have B_5 := Lib.hid (below_step B_4.out hb)
  have cw_5 := cell_kept cw_4 hb
  have cg_5 := cell_kept cg_4 hb
  have Rw_5 := Lib.hid (Rw_4.out.later hb)
  have Rg_5 := Lib.hid (Rg_4.out.later hb)
  clear hb cw_4 cg_4 Rw_4 Rg_4 B_4
  go_wp2_with fail
  refine (markCard_any gg cg ys xg 1 _ Rg_5.out (by omega) (by omega) hn).mono ?_
  rintro e w6 ⟨rfl, hg, hrow⟩
  have B_6 := Lib.hid (below_only B_5.out hg G_Rg.out)
  have cw_6 := cell_only hg cw_5 (Nat.ne_of_lt L_cw_Rg.out)
  have cg_6 := cell_only hg cg_5 (Nat.ne_of_gt L_Rg_cg.out)
  have Rw_6 := Lib.hid (Row.only hg Rw_5.out (Nat.ne_of_lt L_Rw_Rg.out))
  have Rg_6 := Lib.hid hrow
  clear hg hrow B_5 cw_5 cg_5 Rw_5 Rg_5
  go_wp2_with fail
  refine (heldCard_any (some ⟨gg, 0, none⟩) cg ys.length (gg + 1) 1 _ Rg_6.out.ints Rg_6.out.lt (by omega) (by omega) hn).mono ?_
  rintro e w7 ⟨rfl, hb⟩
  have B_7 := Lib.hid (below_step B_6.out hb)
  have cw_7 := cell_kept cw_6 hb
  have cg_7 := cell_kept cg_6 hb
  have Rw_7 := Lib.hid (Rw_6.out.later hb)
  have Rg_7 := Lib.hid (Rg_6.out.later hb)
  clear hb cw_6 cg_6 Rw_6 Rg_6 B_6
  go_wp2_with fail
  refine (HI.out _ B_7.out).mono ?_
  rintro e w8 ⟨gh, ch, xh, rfl, hg, hb, hrow⟩
  have L_Rg_Rh : Hid (gg < gh) := Nat.lt_of_lt_of_le (Rg_7.out.lt) hg
  have B_8 := Lib.hid (below_step B_7.out hb)
  have cw_8 := cell_kept cw_7 hb
  have cg_8 := cell_kept cg_7 hb
  have Rw_8 := Lib.hid (Rw_7.out.later hb)
  have Rg_8 := Lib.hid (Rg_7.out.later hb)
  have Rh_8 := Lib.hid hrow
  clear hb hrow hg cw_7 cg_7 Rw_7 Rg_7 B_7
  have L_Rg_ch : Hid (gg < w8.heap.size) := Nat.lt_of_lt_of_le (Rg_8.out.lt) (Nat.le_refl _)
  have hb := below_box w8 (.cells #[.slice (some ⟨gh, 0, none⟩) ys.length ch] 24)
  have B_9 := Lib.hid (below_step B_8.out hb)
  have cw_9 := cell_kept cw_8 hb
  have cg_9 := cell_kept cg_8 hb
  have Rw_9 := Lib.hid (Rw_8.out.later hb)
  have Rg_9 := Lib.hid (Rg_8.out.later hb)
  have Rh_9 := Lib.hid (Rh_8.out.later hb)
  have ch_9 : (w8.alloc (.cells #[.slice (some ⟨gh, 0, none⟩) ys.length ch] 24)).cell? ⟨w8.heap.size, 0, none⟩ = some (.slice (some ⟨gh, 0, none⟩) ys.length ch) := by simp
  clear hb cw_8 cg_8 Rw_8 Rg_8 Rh_8 B_8
  go_wp2_with fail
  refine (eqCard_any (some ⟨gh, 0, none⟩) (some ⟨gw, 0, none⟩) ch cw ys ys (gh + 1) (gw + 1) _ Rh_9.out.ints Rw_9.out.ints Rh_9.out.lt Rw_9.out.lt hn hn').mono ?_
  rintro e w10 ⟨rfl, hb⟩
  have B_10 := Lib.hid (below_step B_9.out hb)
  have cw_10 := cell_kept cw_9 hb
  have cg_10 := cell_kept cg_9 hb
  have ch_10 := cell_kept ch_9 hb
  have Rw_10 := Lib.hid (Rw_9.out.later hb)
  have Rg_10 := Lib.hid (Rg_9.out.later hb)
  have Rh_10 := Lib.hid (Rh_9.out.later hb)
  clear hb cw_9 cg_9 ch_9 Rw_9 Rg_9 Rh_9 B_9
  go_wp2_with fail
  refine (heldCard_any (some ⟨gg, 0, none⟩) cg ys.length (gg + 1) 1 _ Rg_10.out.ints Rg_10.out.lt (by omega) (by omega) hn).mono ?_
  rintro e w11 ⟨rfl, hb⟩
  have B_11 := Lib.hid (below_step B_10.out hb)
  have cw_11 := cell_kept cw_10 hb
  have cg_11 := cell_kept cg_10 hb
  have ch_11 := cell_kept ch_10 hb
  have Rw_11 := Lib.hid (Rw_10.out.later hb)
  have Rg_11 := Lib.hid (Rg_10.out.later hb)
  have Rh_11 := Lib.hid (Rh_10.out.later hb)
  clear hb cw_10 cg_10 ch_10 Rw_10 Rg_10 Rh_10 B_10
  go_wp2
  go_ret
  exact ⟨rfl, B_11.out⟩

theorem gL : Tryd.prog.globalNamed "loop.example/g01012/impl.errLong" = some 1 := by kernel_rfl
theorem gLT : (Tryd.prog.globals[1]?).map (·.type) = some 52 := by kernel_rfl
theorem gF : Tryd.prog.globalNamed "loop.example/g01012/impl.errForeign" = some 2 := by kernel_rfl
theorem gFT : (Tryd.prog.globals[2]?).map (·.type) = some 52 := by kernel_rfl
theorem star : "*" ++ "errors.errorString" = "*errors.errorString" := by decide
theorem rowE (u : TypeId) (h : Tryd.prog.typeName? 3 u = some "*errors.errorString") : u = 121 :=
  typeName_ptr_named (nm := "errors.errorString") (by rw [star]; kernel_rfl) (by kernel_rfl) (by decide) u (by rw [star]; exact h)
theorem cellsE : Tryd.prog.cellsOf 145 = 1 := by kernel_rfl
theorem cellsS : Tryd.prog.cellsOf 9 = 1 := by kernel_rfl

/-- What the row's list gives: two sentinels. -/
theorem sents_of {W : World} (h : laidMetH Tryd.prog Rows.fnExactPunchTextRow.laid W) : ∃ aL aF, Sents2 W aL aF := by
  obtain ⟨a0, a1, _, _, c0, c1, t0, t1, h0, h1, _, _, _, _, _, _, n01, b0, b1⟩ := laid_sentinels2 (show laidMet Tryd.prog Rows.fnExactPunchTextRow.laid W from h) gL gLT gF gFT Tryd.underlying52 rowE Tryd.underlying121 Tryd.underlying145 rfl rfl Tryd.underlying9 cellsE cellsS
  exact ⟨a0, a1, ⟨by simpa using World.var?_cell gL h0 0, c0, t0, b0⟩, ⟨by simpa using World.var?_cell gF h1 0, c1, t1, b1⟩, n01⟩

theorem no_of {s : ByteArray} {n : Nat} {W W' : World} {e : Ending} (ht : legalT s = false) (h : GivesText s n W e W') : GivesCode 7 W e W' := by
  rcases h with ⟨h', _⟩ | ⟨_, h⟩
  · rw [ht] at h'
    cases h'
  · exact h
theorem yes_of {s : ByteArray} {n : Nat} {W W' : World} {e : Ending} (ht : legalT s = true) (h : GivesText s n W e W') : GivesCard (punchTo s n s.size) W e W' := by
  rcases h with ⟨_, h⟩ | ⟨h', _⟩
  · exact h
  · rw [ht] at h'
    cases h'

theorem walk (s : ByteArray) (hl : s.size ≤ maxLen) (a1 : Int) (_ : (Lit.int .i64 a1).wf = true) (w : World) (hL : laidMetH Tryd.prog Rows.fnExactPunchTextRow.laid w) :
    Calls Tryd.prog 3 #[.string s, .int .i64 a1] w fun e w' => e = .returned (.bool true) ∧ Below w.heap.size w w' := by
  obtain ⟨aL, aF, hS⟩ := sents_of hL
  unfold maxLen at hl
  by_cases hm : s.size ≤ 1048576
  · cases h : inB a1 1 20
    · exact walk_no s a1 2 w hm (fun W _ => specPunchText_width s a1 h W) (fun W _ => implPunchText_width s a1 h W)
    · obtain ⟨n, rfl⟩ : ∃ n : Nat, a1 = n := ⟨a1.toNat, by simp [inB] at h; omega⟩
      have h20 : n ≤ 20 := by simp [inB] at h; omega
      by_cases hs : s.size ≤ n
      · have fs := fun W => specPunchText_fits s n h hs W
        have fi := fun W (hW : Below w.heap.size w W) => implPunchText_fits s n h hs W (hS.below hW)
        cases ht : legalT s
        · exact walk_no s n 7 w hm (fun W _ => (fs W).mono fun _ _ hh => no_of ht hh) (fun W hW => (fi W hW).mono fun _ _ hh => no_of ht hh)
        · exact walk_yes s n (punchTo s n s.size) w hm (by rw [punchTo_length s n s.size (Nat.le_refl _) hs]; omega) (fun W _ => (fs W).mono fun _ _ hh => yes_of ht hh) (fun W hW => (fi W hW).mono fun _ _ hh => yes_of ht hh)
      · exact walk_no s n 5 w hm (fun W _ => specPunchText_full s n h (by omega) hm W) (fun W hW => implPunchText_full s n h (by omega) hm W (hS.below hW))
  · exact walk_big s a1 w (by omega) (by omega)

/-- The door's own heap meets the condition: three closed facts. -/
theorem door_met (os : Os) (args : Array Value) : laidMetH Tryd.prog Rows.fnExactPunchTextRow.laid ((World.doorLaid Tryd.prog 4000 os).forCall (fun _ _ => 0) ⟨#[], args, []⟩).memory :=
  laidMetH_of_parts3 (fuel := 8) (laidMet_of_run' 8 (by kernel_rfl) (by kernel_rfl)) (by kernel_rfl) (by kernel_rfl)

set_option maxRecDepth 100000 in
theorem lifted (os : Os) (started : os.Started) (H : Type) (enc : TypeId × Value → H) :
    ReturnsInHanded {} Tryd.checked os 3 .any (fun w args => (Rows.fnExactPunchTextSpec.pre enc Tryd.prog Tryd.f3 [] false w args ∧ laidMetH Tryd.prog Rows.fnExactPunchTextRow.laid w) ∧ sizedMet enc Tryd.prog Tryd.f3 (OpenSpec.ofChange Rows.fnExactPunchTextSpec) false w args)
      (Rows.fnExactPunchTextSpec.post enc Tryd.prog Tryd.f3 false true false false) := by
  refine returnsInHanded_of_change_and (C := Tryd.checked) (X := fun w _ => laidMetH Tryd.prog Rows.fnExactPunchTextRow.laid w) (fun _ _ _ hh h => h.of_heap hh) own started (by kernel_rfl) Tryd.func3
    (ChangeSpec.witness_shaped (enc := enc) (C := Tryd.checked) (os := os) (X := fun w _ => laidMetH Tryd.prog Rows.fnExactPunchTextRow.laid w) false (World.doorLaid Tryd.prog 4000 os) #[.string ByteArray.empty, .int .i64 0] 8 rfl (World.shaped_of_RefB (by kernel_rfl) (by kernel_rfl)) (by kernel_rfl) (by kernel_rfl) (by kernel_rfl) (door_met os _)) ?_
  intro W base args ds gs before hval0 hW _ _ hL _
  have hval : ∀ (j : Nat) t v, Tryd.f3.params[j]? = some t → args[j]? = some v → Value.okWide Tryd.prog W .any base t v := hval0
  have hW' := hW
  obtain ⟨p, q, hA0, hV, rfl, _, _⟩ := hW
  have hA : DataW.TrodAll enc Tryd.prog W 0 (fun _ => true) true Tryd.f3.params.toList args.toList ds p := hA0
  rw [Tryd.params3] at hA hval
  obtain ⟨v0, vs0, d0, ds0, p0, q0, hargs, rfl, rfl, h0, r0⟩ := trodAll_cons hA
  obtain ⟨v1, vs1, d1, ds1, p1, q1, rfl, rfl, rfl, h1, r1⟩ := trodAll_cons r0
  obtain ⟨rfl, rfl, rfl⟩ := trodAll_nil r1
  obtain rfl : args = #[v0, v1] := by cases args; simp_all
  obtain ⟨g1, g2, rfl⟩ : ∃ g1 g2, gs = [g1, g2] := by
    clear hL hW' hA hval
    match gs, hV with
    | [], h => exact h.elim
    | [_], ⟨_, _, _, _, _, _, _, _, _, _, h, _⟩ => exact h.elim
    | [g1, g2], _ => exact ⟨g1, g2, rfl⟩
    | _ :: _ :: _ :: _, ⟨_, _, _, _, _, _, _, _, _, _, ⟨_, _, _, _, _, _, _, _, _, _, h, _⟩, _⟩ => exact h.elim
  obtain ⟨s0, rfl, rfl, rfl, hs0⟩ := open_string Tryd.underlying9 (hval 0 9 v0 rfl rfl) h0
  obtain ⟨a1, rfl, rfl, rfl, w1⟩ := open_int Tryd.underlying2 (hval 1 2 v1 rfl rfl) h1
  refine (walk s0 hs0 a1 w1 W hL).mono fun e W' ⟨he, hb⟩ => ?_
  subst he
  have hread : ∀ t ∈ Tryd.f3.params.toList, Tryd.prog.readableRec t = true ∧ t < Tryd.prog.types.size := by
    intro t ht
    rw [Tryd.params3] at ht
    have ht' : t = 9 ∨ t = 2 := by simpa using ht
    rcases ht' with rfl | rfl <;> exact ⟨by kernel_rfl, of_decide_eq_true (by kernel_rfl)⟩
  have hlt := fun x hx => hW'.lt x (List.mem_append_left q hx)
  refine ⟨_, rfl, _, [g1, g2], _, [], _, q, hW', ?_, args_stay hread hA0 (fun x hx => hb.same (hlt x hx)) (fun x hx => by simpa using hlt x hx), ?_, ?_, fun h => by cases h⟩
  · exact trodAll_mk1 (shut_bool Tryd.underlying4 true)
  · exact Below.trodVars laidOut hb (by kernel_rfl) hV
  · exact World.keptBut_mono (fun x hx => ⟨hx, by rcases List.mem_append.1 hx with h' | h' <;> first | exact Or.inr (Or.inl h') | exact Or.inr (Or.inr h') | exact Or.inr (Or.inr (by simpa using h'))⟩) (hb.frame (· ∈ _))

theorem said : Rows.FnExactPunchTextSaid :=
  OpenClaim.holds_of_wide 3 Tryd.f3 rfl rfl rfl rfl rfl rfl rfl ⟨rfl, rfl, rfl, rfl, rfl⟩ rfl rfl rfl rfl rfl (by kernel_rfl) Tryd.func3 (by kernel_rfl)
    (of_decide_eq_true (by kernel_rfl)) (by unfold Func.isWrapper; first | (rw [if_pos (by decide +kernel)]; kernel_rfl) | (rw [if_neg (by decide +kernel)]; exact ⟨rfl, rfl⟩))
    (fun os started H enc _ => lifted os started H enc)

/-- No parameter wants a stand-in; the program's own looks are as the card says. -/
theorem plain (f : FuncId) (fn : Func) (hf : Tryd.pinned.checked.prog.funcNamed "loop.example/g01012/laws.FnExactPunchText" = some f) (hfn : Tryd.pinned.checked.prog.funcs[f]? = some fn) :
    Rows.fnExactPunchTextCard.stood.looks = Tryd.pinned.checked.prog.looks [] ∧ ∀ (j : Nat) t, fn.params[j]? = some t → Tryd.pinned.checked.prog.wantsStandIn t = false := by
  obtain rfl : f = 3 := Option.some.inj ((show Tryd.prog.funcNamed "loop.example/g01012/laws.FnExactPunchText" = some 3 by kernel_rfl).symm.trans hf) |>.symm
  obtain rfl : fn = Tryd.f3 := (Option.some.inj (Tryd.func3.symm.trans hfn)).symm
  refine ⟨by kernel_rfl, fun j t ht => ?_⟩
  rw [Tryd.params3] at ht
  have hm : t ∈ [9, 2] := by simpa using Array.mem_of_getElem? ht
  have hall : ([9, 2].all fun u => !Tryd.prog.wantsStandIn u) = true := by kernel_rfl
  exact (show Tryd.prog.wantsStandIn t = false by simpa using List.all_eq_true.1 hall t hm)

theorem proved : Rows.FnExactPunchTextCardSaid :=
  Claim7.holds_tied_plain_at .later [] _ _ _ _ said (fun _ h => by cases h) (by kernel_rfl) (fun _ h => by cases h) fnExactPunchText_row_tie rfl ⟨rfl, rfl⟩ (by kernel_rfl) rfl plain (by kernel_rfl)
end Go.Proofs.YtmibkaldeickdadDoor.fnExactPunchText
