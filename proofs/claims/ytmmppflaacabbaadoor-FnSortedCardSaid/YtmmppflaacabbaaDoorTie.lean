/-
  DERIVED. GIVEN WITH THE SEED: THE PROGRAM's TIES (one call each: nine closed facts by the kernel) AND EACH ROW's TIE, after the 31st guide's Derived/Test/Toyas{Tie, Card}.lean. No idea stands in it: it is a product of the set-up. Laid BY PROGRAM, IN A SANDBOX (cutbox-door.mjs). By AI agents, Wed Nov 11 2026. No macro, syntax, notation, axiom, sorry.
-/
import Derived.Test.YtmmppflaacabbaaDoorRows
import Derived.LaidByTextLater
import Derived.SevenTiedAt
import Derived.LaidSub
import Derived.LaidOnce
namespace Go.Proofs.YtmmppflaacabbaaDoor
open Go
set_option maxRecDepth 100000
theorem seatTie1 : Tryd.prog.laidByTextLater [("unicode/utf8.acceptRanges", Rows.laid_unicode_utf8_acceptRanges), ("loop.example/g01012/impl.places", Rows.laid_loop_example_g01012_impl_places), ("loop.example/g01012/impl.errLong", Rows.laid_loop_example_g01012_impl_errLong), ("loop.example/g01012/impl.errForeign", Rows.laid_loop_example_g01012_impl_errForeign), ("loop.example/g01012/impl.errCount", Rows.laid_loop_example_g01012_impl_errCount), ("loop.example/g01012/impl.errStuck", Rows.laid_loop_example_g01012_impl_errStuck)] [.data, .data, .sentinel, .sentinel, .sentinel, .sentinel] true :=
  Program.laidByTextLater_by_one 100 8 92 (by kernel_rfl) (by kernel_rfl) (by kernel_rfl) (by kernel_rfl) (by kernel_rfl) (by kernel_rfl) (fun _ _ => by kernel_rfl)
theorem pin_laid_unicode_utf8_first : Tryd.pinned.checked.prog.pinnedFits "unicode/utf8.first" = true := by kernel_rfl
theorem noOwnUnsafe : Tryd.pinned.checked.prog.headLifts.contains "ownunsafe" = false := by kernel_rfl
theorem tie : Tryd.prog.laidByTextLater [("loop.example/g01012/impl.places", Rows.laid_loop_example_g01012_impl_places)] [.data] true :=
  Program.laidByTextLater.sub seatTie1 ["loop.example/g01012/impl.places"] (by kernel_rfl) (by kernel_rfl)
theorem fnSorted_row_tie : Rows.fnSortedRow.laidByTextAt .later Tryd.pinned [.data] true :=
  OpenClaim.laidByTextAt_later rfl rfl tie noOwnUnsafe
theorem fnFewest_row_tie : Rows.fnFewestRow.laidByTextAt .later Tryd.pinned [.data] true :=
  OpenClaim.laidByTextAt_later rfl rfl tie noOwnUnsafe
theorem fits2 : Tryd.pinned.checked.prog.listedFits [("unicode/utf8.acceptRanges", Rows.laid_unicode_utf8_acceptRanges), ("loop.example/g01012/impl.errLong", Rows.laid_loop_example_g01012_impl_errLong), ("loop.example/g01012/impl.errForeign", Rows.laid_loop_example_g01012_impl_errForeign), ("loop.example/g01012/impl.errCount", Rows.laid_loop_example_g01012_impl_errCount), ("loop.example/g01012/impl.errStuck", Rows.laid_loop_example_g01012_impl_errStuck), ("unicode/utf8.first", Rows.laid_unicode_utf8_first)] = true := by
  unfold Program.listedFits
  rw [noOwnUnsafe]
  kernel_rfl
theorem tie2 : Tryd.prog.laidByTextLater [("unicode/utf8.acceptRanges", Rows.laid_unicode_utf8_acceptRanges), ("loop.example/g01012/impl.errLong", Rows.laid_loop_example_g01012_impl_errLong), ("loop.example/g01012/impl.errForeign", Rows.laid_loop_example_g01012_impl_errForeign), ("loop.example/g01012/impl.errCount", Rows.laid_loop_example_g01012_impl_errCount), ("loop.example/g01012/impl.errStuck", Rows.laid_loop_example_g01012_impl_errStuck)] [.data, .sentinel, .sentinel, .sentinel, .sentinel] true :=
  Program.laidByTextLater.sub seatTie1 ["unicode/utf8.acceptRanges", "loop.example/g01012/impl.errLong", "loop.example/g01012/impl.errForeign", "loop.example/g01012/impl.errCount", "loop.example/g01012/impl.errStuck"] (by kernel_rfl) (by kernel_rfl)
theorem fnExactPunchAll_row_tie : Rows.fnExactPunchAllRow.laidByTextAt .later Tryd.pinned [.data, .sentinel, .sentinel, .sentinel, .sentinel, .pinned] true :=
  OpenClaim.laidByTextAt_pinned rfl rfl tie2 rfl rfl rfl rfl (fun y hy _e => by
    simp only [Rows.fnExactPunchAllRow, List.zip_cons_cons, List.zip_nil_right, List.mem_cons, List.mem_nil_iff, or_false] at hy
    rcases hy with rfl | rfl | rfl | rfl | rfl | rfl
    · cases _e
    · cases _e
    · cases _e
    · cases _e
    · cases _e
    · exact ⟨pin_laid_unicode_utf8_first, by kernel_rfl⟩) fits2
theorem fnSortedUpto_row_tie : Rows.fnSortedUptoRow.laidByTextAt .later Tryd.pinned [.data] true :=
  OpenClaim.laidByTextAt_later rfl rfl tie noOwnUnsafe
theorem fnExactPunchAllUpto_row_tie : Rows.fnExactPunchAllUptoRow.laidByTextAt .later Tryd.pinned [.data, .sentinel, .sentinel, .sentinel, .sentinel, .pinned] true :=
  OpenClaim.laidByTextAt_pinned rfl rfl tie2 rfl rfl rfl rfl (fun y hy _e => by
    simp only [Rows.fnExactPunchAllUptoRow, List.zip_cons_cons, List.zip_nil_right, List.mem_cons, List.mem_nil_iff, or_false] at hy
    rcases hy with rfl | rfl | rfl | rfl | rfl | rfl
    · cases _e
    · cases _e
    · cases _e
    · cases _e
    · cases _e
    · exact ⟨pin_laid_unicode_utf8_first, by kernel_rfl⟩) fits2
theorem fnFewestUpto_row_tie : Rows.fnFewestUptoRow.laidByTextAt .later Tryd.pinned [.data] true :=
  OpenClaim.laidByTextAt_later rfl rfl tie noOwnUnsafe
end Go.Proofs.YtmmppflaacabbaaDoor
