/- A list of bytes that comes in: what lies in memory. No function of the program is spoken of. -/
import Derived.Test.YtdakbbgbglgioaaDoorM1
import Derived.Test.YtdakbbgbglgioaaDoorPost
import Derived.ChangeSlices
namespace Go.Proofs.YtdakbbgbglgioaaDoor
open Go.ChangeShapes Go.WideShapes Go.ChangeAt Go.RowKit

section
variable {H : Type} {enc : TypeId × Value → H}
set_option maxRecDepth 100000 in
theorem open_bytes {W : World} {b : Nat} {r : Reach} {v : Value} {d : DataW H} {p : List MemPlace} (hv : Value.okWide Tryd.prog W r b 22 v) (h : DataW.Trod enc Tryd.prog W 0 (fun _ => true) true 22 v d p) :
    ∃ A n c, v = .slice A n c ∧ BytesAt W W.heap.size A n ∧ n ≤ 9223372036854775807 := by
  obtain ⟨a1, len, cap, rfl⟩ := okWide_slice Tryd.underlying22 hv
  obtain ⟨fuel, hf⟩ := h
  rcases open_ints Tryd.underlying22 Tryd.underlying5 (by kernel_rfl) hf with ⟨hcs, _⟩ | ⟨a, len', cap', zs, hcs, _, hl, hm, hz, _, hcell, hwf⟩
  · simp [Value.cells] at hcs
    obtain ⟨rfl, rfl, rfl⟩ := hcs
    exact ⟨none, 0, 0, rfl, fun h => absurd h (by omega), by omega⟩
  · simp [Value.cells] at hcs
    obtain ⟨rfl, rfl, rfl⟩ := hcs
    simp only [if_true] at hz
    unfold maxLen at hm
    refine ⟨some a, len, cap, rfl, ?_, by omega⟩
    intro h0
    obtain ⟨ab, ao, spot⟩ := a
    have hspot : spot = none := by simpa [Addr.add] using World.cell?_spot (hcell 0 (by omega))
    subst hspot
    refine ⟨ab, ao, rfl, ?_, fun i hi => ?_⟩
    · have h1 := hcell 0 (by omega)
      rw [Addr.add_lit] at h1
      exact World.block_lt_of_cell? _ _ h1
    · have h1 := hcell i (by omega)
      rw [Addr.add_lit] at h1
      have hr := range_u8 hwf i
      rw [List.getD_eq_getElem?_getD] at h1
      refine ⟨(zs[i]?.getD 0).toNat, by omega, ?_⟩
      rw [h1, Int.toNat_of_nonneg hr.1]
end
end Go.Proofs.YtdakbbgbglgioaaDoor
