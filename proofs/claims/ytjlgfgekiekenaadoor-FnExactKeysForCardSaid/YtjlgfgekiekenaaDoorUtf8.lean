/- What a row's list gives of the two tables of unicode/utf8: they hold what their text says. -/
import Derived.Test.YtjlgfgekiekenaaDoorKeyCount
import Derived.Test.YtjlgfgekiekenaaDoorRows
import Derived.Lib.LaidU8T
import Derived.PinnedBridge
import Derived.LaidMore
namespace Go.Proofs.YtjlgfgekiekenaaDoor
open Go.ChangeShapes Go.WideShapes Go.ChangeAt Go.RowKit Go.Lib

def u8R : Go.Shelf.Ren := ⟨fun n => n, fun | 5 => 5 | 119 => 162 | 138 => 164 | 139 => 165 | n => n, fun | 3 => 5 | 4 => 6 | n => n⟩
theorem u8types : U8Types Tryd.prog u8R := ⟨Tryd.underlying5, Tryd.underlying162, Tryd.underlying164, Tryd.underlying165⟩
theorem u8extra : U8Extra Tryd.prog u8R := ⟨by kernel_rfl, by kernel_rfl, by kernel_rfl, by kernel_rfl, by kernel_rfl, by kernel_rfl, by kernel_rfl⟩
theorem accept_eq : Rows.laid_unicode_utf8_acceptRanges (H := Unit) = acceptData := by kernel_rfl
theorem utf8_of {l : List (String × DataW Unit)} {W : World} (h : laidMet Tryd.prog l W) (m1 : ("unicode/utf8.first", Rows.laid_unicode_utf8_first) ∈ l) (m2 : ("unicode/utf8.acceptRanges", Rows.laid_unicode_utf8_acceptRanges) ∈ l) : Utf8In W := by
  have r1 := laidMet.reads h m1
  have r2 := laidMet.reads h m2
  rw [accept_eq] at r2
  have e : Rows.laid_unicode_utf8_first = firstData := Go.Pinned.utf8First_eq
  rw [e] at r1
  exact utf8Tabs_of_readsT u8types u8extra r1 r2
theorem Utf8In.below {w w' : World} (h : Utf8In w) (hb : Below w.heap.size w w') : Utf8In w' :=
  ⟨fun c hc => cell_kept (h.1 c hc) hb, fun i hi => ⟨cell_kept (h.2 i hi).1 hb, cell_kept (h.2 i hi).2 hb⟩⟩
end Go.Proofs.YtjlgfgekiekenaaDoor
