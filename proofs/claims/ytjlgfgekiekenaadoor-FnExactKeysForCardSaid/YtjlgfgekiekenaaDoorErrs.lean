/- What a row's list gives of the errors of keys: they lie in memory, all different. -/
import Derived.Test.YtjlgfgekiekenaaDoorPunchBy
import Derived.Test.YtjlgfgekiekenaaDoorRows
import Derived.LaidMore
namespace Go.Proofs.YtjlgfgekiekenaaDoor
open Go.ChangeShapes Go.WideShapes Go.ChangeAt Go.RowKit

theorem gkL : Tryd.prog.globalNamed "loop.example/g01012/impl.errLong" = some 3 := by kernel_rfl
theorem gkLT : (Tryd.prog.globals[3]?).map (·.type) = some 64 := by kernel_rfl
theorem gkF : Tryd.prog.globalNamed "loop.example/g01012/impl.errForeign" = some 4 := by kernel_rfl
theorem gkFT : (Tryd.prog.globals[4]?).map (·.type) = some 64 := by kernel_rfl
theorem gkC : Tryd.prog.globalNamed "loop.example/g01012/impl.errCount" = some 0 := by kernel_rfl
theorem gkCT : (Tryd.prog.globals[0]?).map (·.type) = some 64 := by kernel_rfl
theorem gkS : Tryd.prog.globalNamed "loop.example/g01012/impl.errStuck" = some 1 := by kernel_rfl
theorem gkST : (Tryd.prog.globals[1]?).map (·.type) = some 64 := by kernel_rfl
theorem starK : "*" ++ "errors.errorString" = "*errors.errorString" := by decide
theorem rowK (u : TypeId) (h : Tryd.prog.typeName? 3 u = some "*errors.errorString") : u = 182 :=
  typeName_ptr_named (nm := "errors.errorString") (by rw [starK]; kernel_rfl) (by kernel_rfl) (by decide) u (by rw [starK]; exact h)
theorem cellsKE : Tryd.prog.cellsOf 204 = 1 := by kernel_rfl
theorem cellsKS : Tryd.prog.cellsOf 9 = 1 := by kernel_rfl

/-- A list without its second one. -/
theorem laid_skip {P : Program} {a b : String × DataW Unit} {r : List (String × DataW Unit)} {W : World} (h : laidMet P (a :: b :: r) W) : laidMet P (a :: r) W := by
  obtain ⟨ps, ⟨g, t, cs, fuel, p, q, e1, e2, e3, e4, ⟨g', t', cs', fuel', p', q', _, _, _, _, hq, eq'⟩, ep⟩, hnd, hrows⟩ := h
  subst eq'
  subst ep
  have hsub : ∀ x : List MemPlace, (x ++ p ++ q').Sublist (x ++ p ++ (MemPlace.row ⟨g', 0, none⟩ cs'.size ++ p' ++ q')) := fun x => List.Sublist.append (List.Sublist.refl _) (List.sublist_append_right _ _)
  exact ⟨_, ⟨g, t, cs, fuel, p, q', e1, e2, e3, e4, hq, rfl⟩, (hsub _).nodup hnd, fun b off hm => hrows b off ((hsub _).subset hm)⟩

theorem ptr_same {W : World} {P : Program} {n : String} {t : TypeId} {a b : Addr} (h : W.var? P n = some #[.iface t (.pointer (some a))]) (h' : W.var? P n = some #[.iface t (.pointer (some b))]) : a = b := by
  rw [h] at h'
  injection h' with h'
  injection h' with h'
  injection h' with h'
  injection h' with _ h'
  injection h' with h'
  injection h'

theorem errs4 {r : List (String × DataW Unit)} {W : World} (h : laidMet Tryd.prog (("loop.example/g01012/impl.errLong", Rows.laid_loop_example_g01012_impl_errLong) :: ("loop.example/g01012/impl.errForeign", Rows.laid_loop_example_g01012_impl_errForeign) :: ("loop.example/g01012/impl.errCount", Rows.laid_loop_example_g01012_impl_errCount) :: ("loop.example/g01012/impl.errStuck", Rows.laid_loop_example_g01012_impl_errStuck) :: r) W) :
    ∃ aC aS aF aL, PunchErrs W aC aS aF aL := by
  obtain ⟨a0, a1, a2, c0, c1, c2, t0, t1, t2, h0, h1, h2, n01, n02, n12, b0, b1, b2⟩ := laid_three h gkL gkLT gkF gkFT gkC gkCT Tryd.underlying64 rowK Tryd.underlying182 Tryd.underlying204 rfl rfl Tryd.underlying9 cellsKE cellsKS
  obtain ⟨d1, d2, d3, _, _, c3, _, _, t3, k1, k2, k3, n12', n13, n23, _, _, b3⟩ := laid_three (laidMet.tail h) gkF gkFT gkC gkCT gkS gkST Tryd.underlying64 rowK Tryd.underlying182 Tryd.underlying204 rfl rfl Tryd.underlying9 cellsKE cellsKS
  obtain rfl := ptr_same k1 h1
  obtain rfl := ptr_same k2 h2
  have sL : Sent W 3 a0 := ⟨by simpa using World.var?_cell gkL h0 0, c0, t0, b0⟩
  have sF : Sent W 4 d1 := ⟨by simpa using World.var?_cell gkF h1 0, c1, t1, b1⟩
  have sC : Sent W 0 d2 := ⟨by simpa using World.var?_cell gkC h2 0, c2, t2, b2⟩
  have sS : Sent W 1 d3 := ⟨by simpa using World.var?_cell gkS k3 0, c3, t3, b3⟩
  exact ⟨d2, d3, d1, a0, ⟨sC, sS, sF⟩, ⟨sL, sF, n01⟩, n23, n12.symm, n13.symm⟩

theorem gkM : Tryd.prog.globalNamed "loop.example/g01012/impl.errNoMeaning" = some 2 := by kernel_rfl
theorem gkMT : (Tryd.prog.globals[2]?).map (·.type) = some 64 := by kernel_rfl

theorem errs5 {r : List (String × DataW Unit)} {W : World} (h : laidMet Tryd.prog (("loop.example/g01012/impl.errLong", Rows.laid_loop_example_g01012_impl_errLong) :: ("loop.example/g01012/impl.errForeign", Rows.laid_loop_example_g01012_impl_errForeign) :: ("loop.example/g01012/impl.errNoMeaning", Rows.laid_loop_example_g01012_impl_errNoMeaning) :: ("loop.example/g01012/impl.errCount", Rows.laid_loop_example_g01012_impl_errCount) :: ("loop.example/g01012/impl.errStuck", Rows.laid_loop_example_g01012_impl_errStuck) :: r) W) :
    ∃ aC aS aF aL aM, PunchErrs W aC aS aF aL ∧ Sents W aL aF aM := by
  obtain ⟨a0, a1, a2, c0, c1, c2, t0, t1, t2, h0, h1, h2, n01, n02, n12, b0, b1, b2⟩ := laid_three h gkL gkLT gkF gkFT gkM gkMT Tryd.underlying64 rowK Tryd.underlying182 Tryd.underlying204 rfl rfl Tryd.underlying9 cellsKE cellsKS
  obtain ⟨d1, d2, d3, _, c3, c4, _, t3, t4, k1, k2, k3, n12', n13, n23, _, b3, b4⟩ := laid_three (laid_skip (laidMet.tail h)) gkF gkFT gkC gkCT gkS gkST Tryd.underlying64 rowK Tryd.underlying182 Tryd.underlying204 rfl rfl Tryd.underlying9 cellsKE cellsKS
  obtain rfl := ptr_same k1 h1
  have sL : Sent W 3 a0 := ⟨by simpa using World.var?_cell gkL h0 0, c0, t0, b0⟩
  have sF : Sent W 4 d1 := ⟨by simpa using World.var?_cell gkF h1 0, c1, t1, b1⟩
  have sM : Sent W 2 a2 := ⟨by simpa using World.var?_cell gkM h2 0, c2, t2, b2⟩
  have sC : Sent W 0 d2 := ⟨by simpa using World.var?_cell gkC k2 0, c3, t3, b3⟩
  have sS : Sent W 1 d3 := ⟨by simpa using World.var?_cell gkS k3 0, c4, t4, b4⟩
  exact ⟨d2, d3, d1, a0, a2, ⟨⟨sC, sS, sF⟩, ⟨sL, sF, n01⟩, n23, n12'.symm, n13.symm⟩, ⟨sL, sF, sM, n01, n02, n12⟩⟩
end Go.Proofs.YtjlgfgekiekenaaDoor
