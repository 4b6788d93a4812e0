/- What a row's list gives of the two errors of impl.dial: they lie in memory. -/
import Derived.Test.YtkiphejkgpfjjaaDoorCntDial
import Derived.Test.YtkiphejkgpfjjaaDoorRows
import Derived.Stop.LaidTwo
import Derived.LaidMore
namespace Go.Proofs.YtkiphejkgpfjjaaDoor
open Go.ChangeShapes Go.WideShapes Go.ChangeAt Go.RowKit

theorem gkW : Tryd.prog.globalNamed "loop.example/g01012/impl.errWheels" = some 0 := by kernel_rfl
theorem gkWT : (Tryd.prog.globals[0]?).map (·.type) = some 53 := by kernel_rfl
theorem gkG : Tryd.prog.globalNamed "loop.example/g01012/impl.errSign" = some 1 := by kernel_rfl
theorem gkGT : (Tryd.prog.globals[1]?).map (·.type) = some 53 := by kernel_rfl
theorem starD : "*" ++ "errors.errorString" = "*errors.errorString" := by decide
theorem rowD (u : TypeId) (h : Tryd.prog.typeName? 3 u = some "*errors.errorString") : u = 149 :=
  typeName_ptr_named (nm := "errors.errorString") (by rw [starD]; kernel_rfl) (by kernel_rfl) (by decide) u (by rw [starD]; exact h)
theorem cellsDE : Tryd.prog.cellsOf 169 = 1 := by kernel_rfl
theorem cellsDS : Tryd.prog.cellsOf 9 = 1 := by kernel_rfl

theorem dial_errs {r : List (String × DataW Unit)} {W : World} (h : laidMet Tryd.prog (("loop.example/g01012/impl.errWheels", Rows.laid_loop_example_g01012_impl_errWheels) :: ("loop.example/g01012/impl.errSign", Rows.laid_loop_example_g01012_impl_errSign) :: r) W) : ∃ aW aS, DialErrs W aW aS := by
  obtain ⟨a0, a1, _, _, c0, c1, t0, t1, h0, h1, _, _, _, _, _, _, n01, b0, b1⟩ := laid_sentinels2 h gkW gkWT gkG gkGT Tryd.underlying53 rowD Tryd.underlying149 Tryd.underlying169 rfl rfl Tryd.underlying9 cellsDE cellsDS
  exact ⟨a0, a1, ⟨by simpa using World.var?_cell gkW h0 0, c0, t0, b0⟩, ⟨by simpa using World.var?_cell gkG h1 0, c1, t1, b1⟩⟩
end Go.Proofs.YtkiphejkgpfjjaaDoor
