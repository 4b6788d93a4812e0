/- For every layout, the law FnExactLayoutText returns true: impl.LayoutText answers as spec.LayoutText and leaves its argument as it was. Condition: the library's table of powers of ten and the table of the kinds' words hold what the program's text lays in them (the card ties that). -/
import Derived.Test.YtmdgpkiicjmfhaaDoorLayTextI
import Derived.Test.YtmdgpkiicjmfhaaDoorLayLaw
import Derived.Test.YtmdgpkiicjmfhaaDoorCards
import Derived.Test.YtmdgpkiicjmfhaaDoorTie
import Derived.Deep.RegionHeld3
import Derived.LaidMore
import Derived.OpenVars
import Derived.Stop.Joined
import Derived.Stop.LaidErr
namespace Go.Proofs.YtmdgpkiicjmfhaaDoor.fnExactLayoutText
open Go.ChangeShapes Go.WideShapes Go.ChangeAt Go.RowKit

theorem gPow : Tryd.prog.globalNamed "internal/strconv.uint64pow10" = some 4 := by kernel_rfl
theorem gPowType : (Tryd.prog.globals[4]?).map (·.type) = some 164 := by kernel_rfl
theorem gLet : Tryd.prog.globalNamed "loop.example/g01012/impl.kindWords" = some 0 := by kernel_rfl
theorem gLetType : (Tryd.prog.globals[0]?).map (·.type) = some 77 := by kernel_rfl
theorem cellsString : Tryd.prog.cellsOf 9 = 1 := by kernel_rfl

theorem laid_list {W : World} (h : laidMetH Tryd.prog Rows.fnExactLayoutTextRow.laid W) : laidMet Tryd.prog (("math/bits.deBruijn32tab", Rows.laid_math_bits_deBruijn32tab) :: ("math/bits.deBruijn64tab", Rows.laid_math_bits_deBruijn64tab) :: ("internal/strconv.uint64pow10", Lib.tabData .u64 Lib.pow10Tab) :: ("loop.example/g01012/impl.kindWords", Rows.laid_loop_example_g01012_impl_kindWords) :: []) W := h
/-- What the row's list gives: the powers of ten. -/
theorem pow_of {W : World} (h : laidMetH Tryd.prog Rows.fnExactLayoutTextRow.laid W) : Pow10 W :=
  Lib.tabIs_of_head (k := .u64) (zs := Lib.pow10Tab) gPow gPowType Tryd.underlying164 Tryd.underlying112 (by kernel_rfl) (by kernel_rfl) (laidMet.tail (laidMet.tail (laid_list h)))

def codes : List (List UInt8) := [[], [116, 101, 120, 116], [110, 117, 109, 98, 101, 114]]
/-- What the row's list gives: each cell of the table holds its letter. -/
theorem letter_cell {W : World} (h : laidMetH Tryd.prog Rows.fnExactLayoutTextRow.laid W) (i : Nat) (hi : i < 3) : W.cell? ⟨0, i, none⟩ = some (.string ⟨(codes.getD i []).toArray⟩) := by
  have h' := laidMet.tail (laidMet.tail (laidMet.tail (laid_list h)))
  obtain ⟨ps, ⟨g', t', cs, fuel, p, q, hg', ht', hvar, hd, _, _⟩, _⟩ := h'
  obtain rfl := Option.some.inj (gLet.symm.trans hg')
  obtain rfl := Option.some.inj (gLetType.symm.trans ht')
  rw [World.var?_cell gLet hvar i]
  obtain ⟨xs, m, _, hx, hlen, hxl, hat⟩ := DataW.trod_array Tryd.underlying77 hd
  have hai := hat i hi
  rw [cellsString, Nat.mul_one] at hai
  have hxi : xs[i]? = some (xs[i]'(by omega)) := List.getElem?_eq_getElem (by omega)
  rw [hxi] at hai
  obtain ⟨s, hc, hy, _⟩ := DataW.trod_string Tryd.underlying9 hai
  have hci : cs[i]? = some (.string s) := by
    have := congrArg (·[0]?) hc
    simpa [List.getElem?_take, List.getElem?_drop] using this
  rw [hci]
  have hdat : xs.map (·.1) = codes.map fun l => (DataW.lit (.string l) : DataW Unit) := by
    have := congrArg Prod.fst hx
    simp only [Rows.laid_loop_example_g01012_impl_kindWords, DataW.agg.injEq] at this
    rw [← this]
    rfl
  have hi2 : i < codes.length := hi
  have e1 : (xs.map (·.1))[i]? = some (DataW.lit (.string (codes.getD i []))) := by
    rw [hdat, List.getElem?_map, List.getElem?_eq_getElem hi2]
    simp [List.getD, List.getElem?_eq_getElem hi2]
  rw [List.getElem?_map, hxi, hy] at e1
  simp only [Option.map_some, Option.some.injEq, DataW.lit.injEq, Lit.string.injEq] at e1
  rw [← e1]
theorem words_of {W : World} (h : laidMetH Tryd.prog Rows.fnExactLayoutTextRow.laid W) : KindWords W := ⟨letter_cell h 1 (by decide), letter_cell h 2 (by decide)⟩


theorem walk_big (A : Option Addr) (c : Nat) (u : Int) (ds : List It) (w : World) (h : Items w w.heap.size A ds) (hn : ds.length ≤ 9223372036854775807) (hs : ∀ d ∈ ds, d.name.size ≤ 9223372036854775807) (hbig : 1048576 < ds.length + itSize ds) :
    Calls Tryd.prog 4 #[.agg #[.int .i64 u, .slice A ds.length c]] w fun e w' => e = .returned (.bool true) ∧ Below w.heap.size w w' := by
  have hz := fun (W : World) (hW : Items W w.heap.size A ds) (hBW : w.heap.size ≤ W.heap.size) => szLayout_big A c ds w.heap.size u 1048576 W hW hBW (by omega) hn hs hbig
  have HZ := Lib.hid hz
  obtain ⟨n, hN⟩ : ∃ n, ds.length = n := ⟨_, rfl⟩
  rw [hN] at HZ ⊢
  have H := Lib.hid h
  clear hz h hs hbig hN hn
  go_enter Tryd.func4, Tryd.ntmps4
  go_wp2_with fail
  refine (HZ.out _ (H.out.alloc (Nat.le_refl _) _) (by simp)).mono ?_
  rintro e w1 ⟨rfl, hb⟩
  have B1 := Lib.hid (below_step (below_box w _) hb)
  clear hb
  go_wp2
  go_ret
  exact ⟨rfl, B1.out⟩

set_option maxRecDepth 100000 in
set_option maxHeartbeats 4000000 in
theorem walk_small (A : Option Addr) (c : Nat) (u : Int) (ds : List It) (w : World) (h : Items w w.heap.size A ds) (hfit : ds.length + itSize ds ≤ 1048576) (hL : KindWords w) (hP : Pow10 w) :
    Calls Tryd.prog 4 #[.agg #[.int .i64 u, .slice A ds.length c]] w fun e w' => e = .returned (.bool true) ∧ Below w.heap.size w w' := by
  have hz := fun (W : World) (hW : Items W w.heap.size A ds) (hBW : w.heap.size ≤ W.heap.size) => szLayout_fit A c ds w.heap.size u 1048576 W hW hBW (by omega) hfit
  obtain ⟨q, hq⟩ : ∃ q, 1048576 - ds.length - itSize ds = q := ⟨_, rfl⟩
  have hqi : (((1048576 : Nat) : Int) - ds.length - itSize ds) = (q : Int) := by omega
  rw [hqi] at hz
  have hl : ds.length ≤ 1048576 := by omega
  have hs : ∀ d ∈ ds, d.name.size ≤ 1048576 := fun d hd => by
    obtain ⟨k, hk⟩ := List.getElem?_of_mem hd
    have := itSize_at ds k d hk
    omega
  have ht := fun (W : World) (hW : Items W w.heap.size A ds) (hBW : w.heap.size ≤ W.heap.size) => toLayout_any A c ds w.heap.size u W hW hBW hl
  have hsp := fun (W : World) (g : Nat) (hW : IRow W g ds []) => specLayText_any u (some ⟨g, 0, none⟩) ds.length ds (g + 1) W hW.items hW.lt hl hs
  have him := fun (W : World) (g : Nat) (hb : Below w.heap.size w W) (hW : IRow W g ds []) => implLayText_any u (some ⟨g, 0, none⟩) ds.length ds (g + 1) W hW.items hW.lt hl (Nat.le_refl _) hs (hL.below hb) (hP.below hb)
  obtain ⟨r, hr⟩ : ∃ r, layTx u ds = r := ⟨_, rfl⟩
  simp only [hr] at hsp him
  have he := fun (W : World) (g g' : Nat) (hW : IRow W g ds []) (hW' : IRow W g' ds []) => eqLayout_same (some ⟨g, 0, none⟩) (some ⟨g', 0, none⟩) ds.length ds.length u ds (g + 1) (g' + 1) W hW.items hW'.items hW.lt hW'.lt hl
  unfold GivesLay at ht
  have H := Lib.hid h
  have HZ := Lib.hid hz
  have HT := Lib.hid ht
  have HSP := Lib.hid hsp
  have HIM := Lib.hid him
  have HE := Lib.hid he
  have hq0 : ¬ (q : Int) < 0 := by omega
  obtain ⟨n, hN⟩ : ∃ n, ds.length = n := ⟨_, rfl⟩
  rw [hN] at HZ HT HSP HIM HE ⊢
  clear hz ht hsp him he h hfit hq hqi hr hl hN hs hL hP
  go_enter Tryd.func4, Tryd.ntmps4
  go_wp2_with fail
  refine (HZ.out _ (H.out.alloc (Nat.le_refl _) _) (by simp)).mono ?_
  rintro e w1 ⟨rfl, hb⟩
  have B1 := Lib.hid (below_step (below_box w _) hb)
  have a1 := cell_kept (p := ⟨w.heap.size, 0, none⟩) (v := .int .i64 u) (by simp [go_sem]) hb
  have b1 := cell_kept (p := ⟨w.heap.size, 1, none⟩) (v := .slice A n c) (by simp [go_sem]) hb
  clear hb HZ
  go_wp2_with fail
  refine (HT.out _ (H.out.below B1.out) B1.out.size).mono ?_
  rintro e w2 ⟨g2, rfl, hg2, hb, hrow⟩
  have B2 := Lib.hid (below_step B1.out hb)
  have a2 := cell_kept a1 hb
  have b2 := cell_kept b1 hb
  have R2 := Lib.hid hrow
  clear hb hrow B1 a1 b1 hg2
  go_wp2_with fail
  refine (HSP.out _ g2 R2.out).mono ?_
  rintro e w3 ⟨rfl, hb⟩
  have B3 := Lib.hid (below_step B2.out hb)
  have a3 := cell_kept a2 hb
  have b3 := cell_kept b2 hb
  clear hb B2 a2 b2 R2
  go_wp2_with fail
  refine (HT.out _ (H.out.below B3.out) B3.out.size).mono ?_
  rintro e w4 ⟨g4, rfl, hg4, hb, hrow⟩
  have B4 := Lib.hid (below_step B3.out hb)
  have a4 := cell_kept a3 hb
  have b4 := cell_kept b3 hb
  have R4 := Lib.hid hrow
  clear hb hrow B3 a3 b3 hg4
  have hb := below_box w4 (.cells #[.int .i64 u, .slice (some ⟨g4, 0, none⟩) n n] 32)
  have B5 := Lib.hid (below_step B4.out hb)
  have a5 := cell_kept a4 hb
  have b5 := cell_kept b4 hb
  have R5 := Lib.hid (R4.out.later hb)
  have x5 : (w4.alloc (.cells #[.int .i64 u, .slice (some ⟨g4, 0, none⟩) n n] 32)).cell? ⟨w4.heap.size, 0, none⟩ = some (.int .i64 u) := by simp [go_sem]
  have y5 : (w4.alloc (.cells #[.int .i64 u, .slice (some ⟨g4, 0, none⟩) n n] 32)).cell? ⟨w4.heap.size, 1, none⟩ = some (.slice (some ⟨g4, 0, none⟩) n n) := by simp [go_sem]
  clear hb B4 a4 b4 R4
  go_wp2_with fail
  refine (HIM.out _ g4 B5.out R5.out).mono ?_
  rintro e w6 ⟨rfl, hb⟩
  have B6 := Lib.hid (below_step B5.out hb)
  have a6 := cell_kept a5 hb
  have b6 := cell_kept b5 hb
  have x6 := cell_kept x5 hb
  have y6 := cell_kept y5 hb
  have R6 := Lib.hid (R5.out.later hb)
  clear hb B5 a5 b5 x5 y5 R5
  go_wp2
  go_region_held3 (fun W => W.cell? ⟨w.heap.size, 0, none⟩ = some (.int .i64 u) ∧ W.cell? ⟨w.heap.size, 1, none⟩ = some (.slice A n c) ∧ W.cell? ⟨w4.heap.size, 0, none⟩ = some (.int .i64 u) ∧ W.cell? ⟨w4.heap.size, 1, none⟩ = some (.slice (some ⟨g4, 0, none⟩) n n))
    (first | exact ⟨a6, b6, x6, y6⟩ | exact ⟨a7, b7, x7, y7⟩ | exact ⟨a8, b8, x8, y8⟩)
    (first
      | (go_at_call 8
         refine (HT.out _ ?_ ?_).mono ?_
         · exact H.out.below B6.out.drew
         · exact B6.out.drew.size
         rintro e w7 ⟨ge, rfl, hge, hb, hrow⟩
         have B7 := Lib.hid (below_step B6.out.drew hb)
         have a7 := cell_kept (w := w6.drew) a6 hb
         have b7 := cell_kept (w := w6.drew) b6 hb
         have x7 := cell_kept (w := w6.drew) x6 hb
         have y7 := cell_kept (w := w6.drew) y6 hb
         have R7 := Lib.hid (R6.out.drew.later hb)
         have T7 := Lib.hid hrow
         clear hb hrow hge)
      | (go_at_call 11
         refine (HE.out _ g4 ge ?_ ?_).mono ?_
         · exact R7.out
         · exact T7.out
         rintro e w8 ⟨rfl, hb⟩
         have B8 := Lib.hid (below_step B7.out hb)
         have a8 := cell_kept a7 hb
         have b8 := cell_kept b7 hb
         have x8 := cell_kept x7 hb
         have y8 := cell_kept y7 hb
         clear hb))
  go_wp2
  go_ret
  exact ⟨rfl, B8.out⟩

theorem walk (u : Int) (A : Option Addr) (c : Nat) (ds : List It) {w : World} (h : Items w w.heap.size A ds) (hn : ds.length ≤ 9223372036854775807) (hs : ∀ d ∈ ds, d.name.size ≤ 9223372036854775807) (_ : World) (hL : laidMetH Tryd.prog Rows.fnExactLayoutTextRow.laid w) :
    Calls Tryd.prog 4 #[.agg #[.int .i64 u, .slice A ds.length c]] w fun e w' => e = .returned (.bool true) ∧ Below w.heap.size w w' := by
  by_cases h1 : 1048576 < ds.length + itSize ds
  · exact walk_big A c u ds w h hn hs h1
  · exact walk_small A c u ds w h (by omega) (words_of hL) (pow_of hL)

/-- The door's own heap meets the condition: three closed facts. -/
theorem door_met (os : Os) (args : Array Value) : laidMetH Tryd.prog Rows.fnExactLayoutTextRow.laid ((World.doorLaid Tryd.prog 4000 os).forCall (fun _ _ => 0) ⟨#[], args, []⟩).memory :=
  laidMetH_of_parts3 (fuel := 8) (laidMet_of_run' 8 (by kernel_rfl) (by kernel_rfl)) (by kernel_rfl) (by kernel_rfl)

set_option maxRecDepth 100000 in
theorem lifted (os : Os) (started : os.Started) (H : Type) (enc : TypeId × Value → H) :
    ReturnsInHanded {} Tryd.checked os 4 .any (fun w args => (Rows.fnExactLayoutTextSpec.pre enc Tryd.prog Tryd.f4 [] false w args ∧ laidMetH Tryd.prog Rows.fnExactLayoutTextRow.laid w) ∧ sizedMet enc Tryd.prog Tryd.f4 (OpenSpec.ofChange Rows.fnExactLayoutTextSpec) false w args)
      (Rows.fnExactLayoutTextSpec.post enc Tryd.prog Tryd.f4 false true false false) := by
  refine returnsInHanded_of_change_and (C := Tryd.checked) (X := fun w _ => laidMetH Tryd.prog Rows.fnExactLayoutTextRow.laid w) (fun _ _ _ hh h => h.of_heap hh) own started (by kernel_rfl) Tryd.func4
    (ChangeSpec.witness_shaped (enc := enc) (C := Tryd.checked) (os := os) (X := fun w _ => laidMetH Tryd.prog Rows.fnExactLayoutTextRow.laid w) false (World.doorLaid Tryd.prog 4000 os) #[.agg #[.int .i64 0, .slice none 0 0]] 8 rfl (World.shaped_of_RefB (by kernel_rfl) (by kernel_rfl)) (by kernel_rfl) (by kernel_rfl) (by kernel_rfl) (door_met os _)) ?_
  intro W base args ds gs before hval0 hW _ _ hL _
  have hval : ∀ (j : Nat) t v, Tryd.f4.params[j]? = some t → args[j]? = some v → Value.okWide Tryd.prog W .any base t v := hval0
  have hW' := hW
  obtain ⟨p, q, hA0, hV, rfl, _, _⟩ := hW
  have hA : DataW.TrodAll enc Tryd.prog W 0 (fun _ => true) true Tryd.f4.params.toList args.toList ds p := hA0
  rw [Tryd.params4] at hA hval
  obtain ⟨v0, vs0, d0, ds0, p0, q0, hargs, rfl, rfl, h0, r0⟩ := trodAll_cons hA
  obtain ⟨rfl, rfl, rfl⟩ := trodAll_nil r0
  obtain rfl : args = #[v0] := by cases args; simp_all
  obtain ⟨g1, rfl⟩ : ∃ g1, gs = [g1] := by
    clear hL hW' hA hval
    match gs, hV with
    | [], h => exact h.elim
    | [g1], _ => exact ⟨g1, rfl⟩
    | _ :: _ :: _, ⟨_, _, _, _, _, _, _, _, _, _, h, _⟩ => exact h.elim
  obtain ⟨u0, A0, c0, ds0', rfl, wu0, i0, l0, z0⟩ := open_layout (hval 0 24 v0 rfl rfl) h0
  refine (walk u0 A0 c0 ds0' i0 l0 z0 W hL).mono fun e W' ⟨he, hb⟩ => ?_
  subst he
  have hread : ∀ t ∈ Tryd.f4.params.toList, Tryd.prog.readableRec t = true ∧ t < Tryd.prog.types.size := by
    intro t ht
    rw [Tryd.params4] at ht
    obtain rfl : t = 24 := by simpa using ht
    exact ⟨by kernel_rfl, of_decide_eq_true (by kernel_rfl)⟩
  have hlt := fun x hx => hW'.lt x (List.mem_append_left q hx)
  refine ⟨_, rfl, _, [g1], _, [], _, q, hW', ?_, args_stay hread hA0 (fun x hx => hb.same (hlt x hx)) (fun x hx => by simpa using hlt x hx), ?_, ?_, fun h => by cases h⟩
  · exact trodAll_mk1 (shut_bool Tryd.underlying4 true)
  · exact Below.trodVars laidOut hb (by kernel_rfl) hV
  · exact World.keptBut_mono (fun x hx => ⟨hx, by rcases List.mem_append.1 hx with h' | h' <;> first | exact Or.inr (Or.inl h') | exact Or.inr (Or.inr h') | exact Or.inr (Or.inr (by simpa using h'))⟩) (hb.frame (· ∈ _))

theorem said : Rows.FnExactLayoutTextSaid :=
  OpenClaim.holds_of_wide 4 Tryd.f4 rfl rfl rfl rfl rfl rfl rfl ⟨rfl, rfl, rfl, rfl, rfl⟩ rfl rfl rfl rfl rfl (by kernel_rfl) Tryd.func4 (by kernel_rfl)
    (of_decide_eq_true (by kernel_rfl)) (by unfold Func.isWrapper; first | (rw [if_pos (by decide +kernel)]; kernel_rfl) | (rw [if_neg (by decide +kernel)]; exact ⟨rfl, rfl⟩))
    (fun os started H enc _ => lifted os started H enc)

/-- No parameter wants a stand-in; the program's own looks are as the card says. -/
theorem plain (f : FuncId) (fn : Func) (hf : Tryd.pinned.checked.prog.funcNamed "loop.example/g01012/laws.FnExactLayoutText" = some f) (hfn : Tryd.pinned.checked.prog.funcs[f]? = some fn) :
    Rows.fnExactLayoutTextCard.stood.looks = Tryd.pinned.checked.prog.looks [] ∧ ∀ (j : Nat) t, fn.params[j]? = some t → Tryd.pinned.checked.prog.wantsStandIn t = false := by
  obtain rfl : f = 4 := Option.some.inj ((show Tryd.prog.funcNamed "loop.example/g01012/laws.FnExactLayoutText" = some 4 by kernel_rfl).symm.trans hf) |>.symm
  obtain rfl : fn = Tryd.f4 := (Option.some.inj (Tryd.func4.symm.trans hfn)).symm
  refine ⟨by kernel_rfl, fun j t ht => ?_⟩
  rw [Tryd.params4] at ht
  have hm : t ∈ [24] := by simpa using Array.mem_of_getElem? ht
  have hall : ([24].all fun u => !Tryd.prog.wantsStandIn u) = true := by kernel_rfl
  exact (show Tryd.prog.wantsStandIn t = false by simpa using List.all_eq_true.1 hall t hm)

theorem proved : Rows.FnExactLayoutTextCardSaid :=
  Claim7.holds_tied_plain_at .later [] _ _ _ _ said (fun _ h => by cases h) (by kernel_rfl) (fun _ h => by cases h) fnExactLayoutText_row_tie rfl ⟨rfl, rfl⟩ (by kernel_rfl) rfl plain (by kernel_rfl)
end Go.Proofs.YtmdgpkiicjmfhaaDoor.fnExactLayoutText
