/- For every code, the law FnExactCodeName returns true: impl.CodeName answers as spec.CodeName. Condition: the package-level table of names holds what the program's text lays in it (the card ties that). -/
import Derived.Test.YtfjokjdfekkbiacDoorCards
import Derived.Test.YtfjokjdfekkbiacDoorTie
import Derived.Test.YtfjokjdfekkbiacDoorPost
import Derived.WalkSpells
import Derived.Lib.Hide
import Derived.Deep.DeepHandedRow
import Derived.Lib.LaidTab
import Derived.OpenVars
namespace Go.Proofs.YtfjokjdfekkbiacDoor.fnExactCodeName
open Go.ChangeShapes Go.WideShapes Go.ChangeAt Go.RowKit

theorem gNames : Tryd.prog.globalNamed "loop.example/g01012/impl.codeNames" = some 0 := by kernel_rfl
theorem gNamesType : (Tryd.prog.globals[0]?).map (·.type) = some 89 := by kernel_rfl
theorem cellsString : Tryd.prog.cellsOf 9 = 1 := by kernel_rfl

/-- the names of the codes, as bytes -/
def codes : List (List UInt8) := [[111, 107], [105, 110, 118, 97, 108, 105, 100], [114, 97, 110, 103, 101], [110, 111, 116, 45, 102, 111, 117, 110, 100], [101, 120, 105, 115, 116, 115], [102, 117, 108, 108],
  [115, 116, 97, 116, 101], [115, 121, 110, 116, 97, 120], [102, 111, 114, 109, 97, 116], [99, 108, 97, 115, 104], [106, 97, 109]]

/-- What the row's list gives: each cell of the table holds its name. -/
theorem name_cell {W : World} (h : laidMetH Tryd.prog Rows.fnExactCodeNameRow.laid W) (i : Nat) (hi : i < 11) : W.cell? ⟨0, i, none⟩ = some (.string ⟨(codes.getD i []).toArray⟩) := by
  have h' : laidMet Tryd.prog [("loop.example/g01012/impl.codeNames", Rows.laid_loop_example_g01012_impl_codeNames)] W := h
  obtain ⟨ps, ⟨g', t', cs, fuel, p, q, hg', ht', hvar, hd, _, _⟩, _⟩ := h'
  obtain rfl := Option.some.inj (gNames.symm.trans hg')
  obtain rfl := Option.some.inj (gNamesType.symm.trans ht')
  rw [World.var?_cell gNames hvar i]
  obtain ⟨xs, m, _, hx, hlen, hxl, hat⟩ := DataW.trod_array Tryd.underlying89 hd
  have hai := hat i hi
  rw [cellsString, Nat.mul_one] at hai
  have hxi : xs[i]? = some (xs[i]'(by omega)) := List.getElem?_eq_getElem (by omega)
  rw [hxi] at hai
  obtain ⟨s, hc, hy, _⟩ := DataW.trod_string Tryd.underlying9 hai
  have hci : cs[i]? = some (.string s) := by
    have := congrArg (·[0]?) hc
    simpa [List.getElem?_take, List.getElem?_drop] using this
  rw [hci]
  have hdat : xs.map (·.1) = codes.map fun l => (DataW.lit (.string l) : DataW Unit) := by
    have := congrArg Prod.fst hx
    simp only [Rows.laid_loop_example_g01012_impl_codeNames, DataW.agg.injEq] at this
    rw [← this]
    rfl
  have hi2 : i < codes.length := hi
  have e1 : (xs.map (·.1))[i]? = some (DataW.lit (.string (codes.getD i []))) := by
    rw [hdat, List.getElem?_map, List.getElem?_eq_getElem hi2]
    simp [List.getD, List.getElem?_eq_getElem hi2]
  rw [List.getElem?_map, hxi, hy] at e1
  simp only [Option.map_some, Option.some.injEq, DataW.lit.injEq, Lit.string.injEq] at e1
  rw [← e1]

theorem code_cases (r : Int) : r < 0 ∨ 10 < r ∨ r = 0 ∨ r = 1 ∨ r = 2 ∨ r = 3 ∨ r = 4 ∨ r = 5 ∨ r = 6 ∨ r = 7 ∨ r = 8 ∨ r = 9 ∨ r = 10 := by omega

set_option maxHeartbeats 4000000 in
theorem walk (a0 : Int) (w : World) (hc : ∀ i, i < 11 → w.cell? ⟨0, i, none⟩ = some (.string ⟨(codes.getD i []).toArray⟩)) :
    Calls Tryd.prog 6 #[.int .i64 a0] w fun e w' => e = .returned (.bool true) ∧ Below w.heap.size w w' := by
  have hlt : 0 < w.heap.size := World.block_lt_of_cell? _ _ (hc 0 (by decide))
  rcases code_cases a0 with h | h | h | h | h | h | h | h | h | h | h | h | h
  · go_enter Tryd.func6, Tryd.ntmps6
    clear hc
    go_wp2
    go_ret
    exact ⟨rfl, (Below.refl _ _).alloc (Nat.le_refl _) _⟩
  · have hd : decide (a0 ≤ 10) = false := decide_eq_false (by omega)
    go_enter Tryd.func6, Tryd.ntmps6
    clear hc
    go_wp2
    go_ret
    exact ⟨rfl, (Below.refl _ _).alloc (Nat.le_refl _) _⟩
  · subst h
    have ci : w.cell? ⟨0, 0, none⟩ = some (.string ⟨#[111, 107]⟩) := hc 0 (by decide)
    go_enter Tryd.func6, Tryd.ntmps6
    clear hc
    go_wp2
    go_ret
    exact ⟨rfl, (Below.refl _ _).alloc (Nat.le_refl _) _⟩
  · subst h
    have ci : w.cell? ⟨0, 1, none⟩ = some (.string ⟨#[105, 110, 118, 97, 108, 105, 100]⟩) := hc 1 (by decide)
    go_enter Tryd.func6, Tryd.ntmps6
    clear hc
    go_wp2
    go_ret
    exact ⟨rfl, (Below.refl _ _).alloc (Nat.le_refl _) _⟩
  · subst h
    have ci : w.cell? ⟨0, 2, none⟩ = some (.string ⟨#[114, 97, 110, 103, 101]⟩) := hc 2 (by decide)
    go_enter Tryd.func6, Tryd.ntmps6
    clear hc
    go_wp2
    go_ret
    exact ⟨rfl, (Below.refl _ _).alloc (Nat.le_refl _) _⟩
  · subst h
    have ci : w.cell? ⟨0, 3, none⟩ = some (.string ⟨#[110, 111, 116, 45, 102, 111, 117, 110, 100]⟩) := hc 3 (by decide)
    go_enter Tryd.func6, Tryd.ntmps6
    clear hc
    go_wp2
    go_ret
    exact ⟨rfl, (Below.refl _ _).alloc (Nat.le_refl _) _⟩
  · subst h
    have ci : w.cell? ⟨0, 4, none⟩ = some (.string ⟨#[101, 120, 105, 115, 116, 115]⟩) := hc 4 (by decide)
    go_enter Tryd.func6, Tryd.ntmps6
    clear hc
    go_wp2
    go_ret
    exact ⟨rfl, (Below.refl _ _).alloc (Nat.le_refl _) _⟩
  · subst h
    have ci : w.cell? ⟨0, 5, none⟩ = some (.string ⟨#[102, 117, 108, 108]⟩) := hc 5 (by decide)
    go_enter Tryd.func6, Tryd.ntmps6
    clear hc
    go_wp2
    go_ret
    exact ⟨rfl, (Below.refl _ _).alloc (Nat.le_refl _) _⟩
  · subst h
    have ci : w.cell? ⟨0, 6, none⟩ = some (.string ⟨#[115, 116, 97, 116, 101]⟩) := hc 6 (by decide)
    go_enter Tryd.func6, Tryd.ntmps6
    clear hc
    go_wp2
    go_ret
    exact ⟨rfl, (Below.refl _ _).alloc (Nat.le_refl _) _⟩
  · subst h
    have ci : w.cell? ⟨0, 7, none⟩ = some (.string ⟨#[115, 121, 110, 116, 97, 120]⟩) := hc 7 (by decide)
    go_enter Tryd.func6, Tryd.ntmps6
    clear hc
    go_wp2
    go_ret
    exact ⟨rfl, (Below.refl _ _).alloc (Nat.le_refl _) _⟩
  · subst h
    have ci : w.cell? ⟨0, 8, none⟩ = some (.string ⟨#[102, 111, 114, 109, 97, 116]⟩) := hc 8 (by decide)
    go_enter Tryd.func6, Tryd.ntmps6
    clear hc
    go_wp2
    go_ret
    exact ⟨rfl, (Below.refl _ _).alloc (Nat.le_refl _) _⟩
  · subst h
    have ci : w.cell? ⟨0, 9, none⟩ = some (.string ⟨#[99, 108, 97, 115, 104]⟩) := hc 9 (by decide)
    go_enter Tryd.func6, Tryd.ntmps6
    clear hc
    go_wp2
    go_ret
    exact ⟨rfl, (Below.refl _ _).alloc (Nat.le_refl _) _⟩
  · subst h
    have ci : w.cell? ⟨0, 10, none⟩ = some (.string ⟨#[106, 97, 109]⟩) := hc 10 (by decide)
    go_enter Tryd.func6, Tryd.ntmps6
    clear hc
    go_wp2
    go_ret
    exact ⟨rfl, (Below.refl _ _).alloc (Nat.le_refl _) _⟩

set_option maxRecDepth 100000 in
/-- What the walk gives, for every argument and every world that holds the table. -/
theorem contract (H : Type) (enc : TypeId × Value → H) (W : World) (base : Nat) (args : Array Value) (ds gs : List (DataW H)) (before : List MemPlace)
    (hval : ∀ (j : Nat) t v, Tryd.f6.params[j]? = some t → args[j]? = some v → Value.okWide Tryd.prog W .any base t v)
    (hW : DataW.Whole enc Tryd.prog Tryd.f6.params.toList Rows.fnExactCodeNameSpec.vars false W args.toList ds gs before) (hL : laidMetH Tryd.prog Rows.fnExactCodeNameRow.laid W) :
    Calls Tryd.prog 6 args W fun e W' => ∃ v, e = .returned v ∧ Rows.fnExactCodeNameSpec.post enc Tryd.prog Tryd.f6 false true false false W args v W' := by
  have hW' := hW
  obtain ⟨p, q, hA0, hV, rfl, _, _⟩ := hW
  have hA : DataW.TrodAll enc Tryd.prog W 0 (fun _ => true) true Tryd.f6.params.toList args.toList ds p := hA0
  rw [Tryd.params6] at hA hval
  obtain ⟨v0, vs0, d0, ds0, p0, q0, hargs, rfl, rfl, h0, r0⟩ := trodAll_cons hA
  obtain ⟨rfl, rfl, rfl⟩ := trodAll_nil r0
  obtain rfl : args = #[v0] := by cases args; simp_all
  obtain ⟨g1, rfl⟩ : ∃ g1, gs = [g1] := by
    match gs, hV with
    | [], h => exact h.elim
    | [g1], _ => exact ⟨g1, rfl⟩
    | _ :: _ :: _, ⟨_, _, _, _, _, _, _, _, _, _, h, _⟩ => exact h.elim
  obtain ⟨a0, rfl, rfl, rfl, w0⟩ := open_int Tryd.underlying2 (hval 0 2 v0 rfl rfl) h0
  refine (walk a0 W (fun i hi => name_cell hL i hi)).mono fun e W' ⟨he, hb⟩ => ?_
  subst he
  refine ⟨_, rfl, [_], [g1], _, [], _, q, hW', ?_, trodAll_mk1 (shut_int Tryd.underlying2 w0), ?_, ?_, fun h => by cases h⟩
  · exact trodAll_mk1 (shut_bool Tryd.underlying4 true)
  · exact Below.trodVars laidOut hb (by kernel_rfl) hV
  · exact World.keptBut_mono (fun x hx => ⟨hx, Or.inr (Or.inr (by simpa using hx))⟩) (hb.frame (· ∈ _))

/-- A world for the witness: the settled one, the table holding what its initialiser lays. -/
noncomputable def laidWorld (os : Os) : World :=
  { World.holding Tryd.prog os ⟨#[], #[], []⟩ with heap := (World.holding Tryd.prog os ⟨#[], #[], []⟩).heap.modify 0 fun
      | .cells _ t frozen => .cells #[.string ⟨#[111, 107]⟩, .string ⟨#[105, 110, 118, 97, 108, 105, 100]⟩, .string ⟨#[114, 97, 110, 103, 101]⟩, .string ⟨#[110, 111, 116, 45, 102, 111, 117, 110, 100]⟩, .string ⟨#[101, 120, 105, 115, 116, 115]⟩, .string ⟨#[102, 117, 108, 108]⟩, .string ⟨#[115, 116, 97, 116, 101]⟩, .string ⟨#[115, 121, 110, 116, 97, 120]⟩, .string ⟨#[102, 111, 114, 109, 97, 116]⟩, .string ⟨#[99, 108, 97, 115, 104]⟩, .string ⟨#[106, 97, 109]⟩] t frozen
      | o => o }
theorem laid_met (os : Os) : laidMet Tryd.prog Rows.fnExactCodeNameRow.laid ((laidWorld os).forCall (fun _ _ => 0) ⟨#[], #[.int .i64 0], []⟩).memory :=
  laidMet_of_run' 8 (by kernel_rfl) (by kernel_rfl)
theorem reads (os : Os) {H : Type} (enc : TypeId × Value → H) : ∃ gd places, DataW.whole enc Tryd.prog ((laidWorld os).forCall (fun _ _ => 0) ⟨#[], #[.int .i64 0], []⟩).memory Tryd.f6.params.toList Rows.fnExactCodeNameSpec.vars false #[Value.int .i64 0].toList 8 = some ([.lit (.int .i64 0)], [gd], places) :=
  ⟨Rows.laid_loop_example_g01012_impl_codeNames, MemPlace.row ⟨0, 0, none⟩ 11, by kernel_rfl⟩

set_option maxRecDepth 100000 in
theorem lifted (os : Os) (started : os.Started) (H : Type) (enc : TypeId × Value → H) (F : Stop.Interp) :
    ReturnsInHanded {} Tryd.checked os 6 .any ((OpenSpec.ofChange Rows.fnExactCodeNameSpec).preRow enc Tryd.prog Tryd.f6 Rows.fnExactCodeNameRow.domain false Rows.fnExactCodeNameRow.laid) (((OpenSpec.ofChange Rows.fnExactCodeNameSpec).at F).post enc Tryd.prog Tryd.f6 false true false false) := by
  obtain ⟨gd, places, hx⟩ := reads os enc
  refine returnsInHanded_of_row (C := Tryd.checked) (s := OpenSpec.ofChange Rows.fnExactCodeNameSpec) own started (by kernel_rfl) Tryd.func6
    (witness_row_at (enc := enc) (C := Tryd.checked) false (laidWorld os) #[.int .i64 0] rfl (by kernel_rfl) (by kernel_rfl) (by kernel_rfl)
      (OpenSpec.preRow_of_cond 8 hx (by kernel_rfl) (fun k hk => by cases hk) (by kernel_rfl) (laid_met os))) ?_
  intro W base args ds gs before hval hW _ _ _ hL _ _
  exact contract H enc W base args ds gs before hval hW hL

theorem said : Rows.FnExactCodeNameSaid :=
  OpenClaim.holds_of_cond 6 Tryd.f6 rfl rfl rfl rfl rfl rfl rfl ⟨rfl, rfl, rfl, rfl, rfl⟩ rfl rfl rfl rfl rfl (by kernel_rfl) Tryd.func6 (by kernel_rfl)
    (of_decide_eq_true (by kernel_rfl)) (by unfold Func.isWrapper; first | (rw [if_pos (by decide +kernel)]; kernel_rfl) | (rw [if_neg (by decide +kernel)]; exact ⟨rfl, rfl⟩))
    (fun os started H enc _ F => by rw [OpenClaim.pre_eq_preRow]; exact lifted os started H enc F)

/-- No parameter wants a stand-in; the program's own looks are as the card says. -/
theorem plain (f : FuncId) (fn : Func) (hf : Tryd.pinned.checked.prog.funcNamed "loop.example/g01012/laws.FnExactCodeName" = some f) (hfn : Tryd.pinned.checked.prog.funcs[f]? = some fn) :
    true = Tryd.pinned.checked.prog.looks [] ∧ ∀ (j : Nat) t, fn.params[j]? = some t → Tryd.pinned.checked.prog.wantsStandIn t = false := by
  obtain rfl : f = 6 := Option.some.inj ((show Tryd.prog.funcNamed "loop.example/g01012/laws.FnExactCodeName" = some 6 by kernel_rfl).symm.trans hf) |>.symm
  obtain rfl : fn = Tryd.f6 := (Option.some.inj (Tryd.func6.symm.trans hfn)).symm
  refine ⟨by kernel_rfl, fun j t ht => ?_⟩
  rw [Tryd.params6] at ht
  obtain rfl : t = 2 := by simpa using Array.mem_of_getElem? ht
  exact (show Tryd.prog.wantsStandIn 2 = false by kernel_rfl)

theorem proved : Rows.FnExactCodeNameCardSaid :=
  Claim7.holds_tied_plain_at .later [] _ _ _ _ said (fun _ h => by cases h) (by kernel_rfl) (fun _ h => by cases h) fnExactCodeName_row_tie rfl ⟨rfl, rfl⟩ (by kernel_rfl) rfl plain (by kernel_rfl)
end Go.Proofs.YtfjokjdfekkbiacDoor.fnExactCodeName
