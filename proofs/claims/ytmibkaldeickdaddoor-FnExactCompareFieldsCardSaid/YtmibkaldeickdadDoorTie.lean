/-
  DERIVED. GIVEN WITH THE SEED: THE PROGRAM's TIES (one call each: nine closed facts by the kernel) AND EACH ROW's TIE, after the 31st guide's Derived/Test/Toyas{Tie, Card}.lean. No idea stands in it: it is a product of the set-up. Laid BY PROGRAM, IN A SANDBOX (cutbox-door.mjs). By AI agents, Wed Nov 11 2026. No macro, syntax, notation, axiom, sorry.
-/
import Derived.Test.YtmibkaldeickdadDoorRows
import Derived.LaidByTextLater
import Derived.SevenTiedAt
import Derived.LaidSub
import Derived.LaidOnce
namespace Go.Proofs.YtmibkaldeickdadDoor
open Go
set_option maxRecDepth 100000
theorem seatTie1 : Tryd.prog.laidByTextLater [("loop.example/g01012/impl.places", Rows.laid_loop_example_g01012_impl_places), ("loop.example/g01012/impl.errLong", Rows.laid_loop_example_g01012_impl_errLong), ("loop.example/g01012/impl.errForeign", Rows.laid_loop_example_g01012_impl_errForeign), ("loop.example/g01012/impl.errNoMeaning", Rows.laid_loop_example_g01012_impl_errNoMeaning)] [.data, .sentinel, .sentinel, .sentinel] true :=
  Program.laidByTextLater_by_one 71 8 92 (by kernel_rfl) (by kernel_rfl) (by kernel_rfl) (by kernel_rfl) (by kernel_rfl) (by kernel_rfl) (fun _ _ => by kernel_rfl)
theorem noOwnUnsafe : Tryd.pinned.checked.prog.headLifts.contains "ownunsafe" = false := by kernel_rfl
theorem tie : Tryd.prog.laidByTextLater [("loop.example/g01012/impl.errLong", Rows.laid_loop_example_g01012_impl_errLong), ("loop.example/g01012/impl.errForeign", Rows.laid_loop_example_g01012_impl_errForeign)] [.sentinel, .sentinel] true :=
  Program.laidByTextLater.sub seatTie1 ["loop.example/g01012/impl.errLong", "loop.example/g01012/impl.errForeign"] (by kernel_rfl) (by kernel_rfl)
theorem fnExactPunchText_row_tie : Rows.fnExactPunchTextRow.laidByTextAt .later Tryd.pinned [.sentinel, .sentinel] true :=
  OpenClaim.laidByTextAt_later rfl rfl tie noOwnUnsafe
theorem tie2 : Tryd.prog.laidByTextLater [("loop.example/g01012/impl.errLong", Rows.laid_loop_example_g01012_impl_errLong), ("loop.example/g01012/impl.errForeign", Rows.laid_loop_example_g01012_impl_errForeign), ("loop.example/g01012/impl.errNoMeaning", Rows.laid_loop_example_g01012_impl_errNoMeaning)] [.sentinel, .sentinel, .sentinel] true :=
  Program.laidByTextLater.sub seatTie1 ["loop.example/g01012/impl.errLong", "loop.example/g01012/impl.errForeign", "loop.example/g01012/impl.errNoMeaning"] (by kernel_rfl) (by kernel_rfl)
theorem fnExactReadText_row_tie : Rows.fnExactReadTextRow.laidByTextAt .later Tryd.pinned [.sentinel, .sentinel, .sentinel] true :=
  OpenClaim.laidByTextAt_later rfl rfl tie2 noOwnUnsafe
theorem fnExactNumberIn_row_tie : Rows.fnExactNumberInRow.laidByTextAt .later Tryd.pinned [.sentinel, .sentinel, .sentinel] true :=
  OpenClaim.laidByTextAt_later rfl rfl tie2 noOwnUnsafe
theorem tie3 : Tryd.prog.laidByTextLater [("loop.example/g01012/impl.places", Rows.laid_loop_example_g01012_impl_places)] [.data] true :=
  Program.laidByTextLater.sub seatTie1 ["loop.example/g01012/impl.places"] (by kernel_rfl) (by kernel_rfl)
theorem fnExactCompareFields_row_tie : Rows.fnExactCompareFieldsRow.laidByTextAt .later Tryd.pinned [.data] true :=
  OpenClaim.laidByTextAt_later rfl rfl tie3 noOwnUnsafe
theorem fnExactRankOf_row_tie : Rows.fnExactRankOfRow.laidByTextAt .later Tryd.pinned [.data] true :=
  OpenClaim.laidByTextAt_later rfl rfl tie3 noOwnUnsafe
theorem fnExactPunchTextUpto_row_tie : Rows.fnExactPunchTextUptoRow.laidByTextAt .later Tryd.pinned [.sentinel, .sentinel] true :=
  OpenClaim.laidByTextAt_later rfl rfl tie noOwnUnsafe
theorem fnExactReadTextUpto_row_tie : Rows.fnExactReadTextUptoRow.laidByTextAt .later Tryd.pinned [.sentinel, .sentinel, .sentinel] true :=
  OpenClaim.laidByTextAt_later rfl rfl tie2 noOwnUnsafe
theorem fnExactNumberInUpto_row_tie : Rows.fnExactNumberInUptoRow.laidByTextAt .later Tryd.pinned [.sentinel, .sentinel, .sentinel] true :=
  OpenClaim.laidByTextAt_later rfl rfl tie2 noOwnUnsafe
theorem fnExactCompareFieldsUpto_row_tie : Rows.fnExactCompareFieldsUptoRow.laidByTextAt .later Tryd.pinned [.data] true :=
  OpenClaim.laidByTextAt_later rfl rfl tie3 noOwnUnsafe
theorem fnExactRankOfUpto_row_tie : Rows.fnExactRankOfUptoRow.laidByTextAt .later Tryd.pinned [.data] true :=
  OpenClaim.laidByTextAt_later rfl rfl tie3 noOwnUnsafe
end Go.Proofs.YtmibkaldeickdadDoor
