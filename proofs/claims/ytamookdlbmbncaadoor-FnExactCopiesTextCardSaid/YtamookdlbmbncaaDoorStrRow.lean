/- Blocks of texts that a program makes and fills one by one. -/
import Derived.Test.YtamookdlbmbncaaDoorMem
import Derived.Laws.MakeOwn
import Derived.Maps.AppendAt
import Derived.Deep.Slices
import Derived.Outline
namespace Go.Proofs.YtamookdlbmbncaaDoor
open Go.ChangeShapes Go.WideShapes Go.ChangeAt Go.RowKit

theorem info_strs : (Tryd.prog.info? 9).map (fun i => (i.zero, i.size, i.bytes)) = some (some (.string ⟨#[]⟩), 1, 16) := by kernel_rfl
def strCells (ws : List ByteArray) (n : Nat) : List Value := ws.map Value.string ++ List.replicate (n - ws.length) (.string ⟨#[]⟩)
theorem strCells_set (ws : List ByteArray) (n : Nat) (x : ByteArray) (h : ws.length < n) : (strCells ws n).set ws.length (.string x) = strCells (ws ++ [x]) n := by
  unfold strCells
  obtain ⟨r, hr⟩ : ∃ r, n - ws.length = r + 1 := ⟨n - ws.length - 1, by omega⟩
  have hr2 : n - (ws ++ [x]).length = r := by simp; omega
  rw [hr, hr2, List.set_append_right _ _ (by simp)]
  simp [List.replicate_succ]
theorem strCells_next (ws : List ByteArray) (n : Nat) (h : ws.length < n) : (strCells ws n)[ws.length]? = some (.string ⟨#[]⟩) := by
  unfold strCells
  rw [List.getElem?_append_right (by simp), List.getElem?_replicate, if_pos (by simp; omega)]
theorem strCells_get (ws : List ByteArray) (n j : Nat) (x : ByteArray) (h : ws[j]? = some x) : (strCells ws n)[j]? = some (.string x) := by
  obtain ⟨hj, _⟩ := List.getElem?_eq_some_iff.1 h
  unfold strCells
  rw [List.getElem?_append_left (by simpa using hj), List.getElem?_map, h]
  rfl
/-- block g holds the texts ws, then empty ones -/
def SRow (w : World) (g : Nat) (ws : List ByteArray) (n : Nat) : Prop := w.heap[g]? = some (.cells (strCells ws n).toArray 9 (0, 0))
theorem SRow.lt {w : World} {g n : Nat} {ws : List ByteArray} (h : SRow w g ws n) : g < w.heap.size := by
  rcases Nat.lt_or_ge g w.heap.size with hlt | hge
  · exact hlt
  · unfold SRow at h
    rw [Array.getElem?_eq_none hge] at h
    cases h
theorem SRow.cell {w : World} {g n : Nat} {ws : List ByteArray} (h : SRow w g ws n) {j : Nat} {v : Value} (hv : (strCells ws n)[j]? = some v) : w.cell? ⟨g, j, none⟩ = some v := by
  rw [cell_of_row w g j _ _ _ h]
  simp only [List.getElem?_toArray]
  exact hv
theorem SRow.frozen {w : World} {g n : Nat} {ws : List ByteArray} (h : SRow w g ws n) (i : Nat) : w.frozen? ⟨g, i, none⟩ = false := by
  unfold SRow at h
  simp [World.frozen?, h]
theorem SRow.later {w w' : World} {g n : Nat} {ws : List ByteArray} (h : SRow w g ws n) (hb : Below w.heap.size w w') : SRow w' g ws n := (hb.block g h.lt).trans h
theorem SRow.drew {w : World} {g n : Nat} {ws : List ByteArray} (h : SRow w g ws n) : SRow w.drew g ws n := h
theorem SRow.put {w : World} {g n : Nat} {ws : List ByteArray} (h : SRow w g ws n) (x : ByteArray) (hn : ws.length < n) : SRow (w.setCell ⟨g, ws.length, none⟩ (.string x)) g (ws ++ [x]) n := by
  unfold SRow at h ⊢
  rw [← strCells_set ws n x hn]
  simp [World.setCell, Array.getElem?_modify, h]
end Go.Proofs.YtamookdlbmbncaaDoor
