/- An argument that is a card (a field, a pass) is opened to its list of numbers. For every program of this seat's rows; no condition. -/
import Derived.Test.YtpklmhffgbgakaaMem
import Derived.Test.YtpklmhffgbgakaaPost
import Derived.Lib.SmallJoins
namespace Go.Proofs.Ytpklmhffgbgakaa
open Go.ChangeShapes Go.WideShapes Go.ChangeAt Go.RowKit

section
variable {H : Type} {enc : TypeId × Value → H}

set_option maxRecDepth 100000 in
/-- A card that comes in: its slice's numbers. -/
theorem open_card {W : World} {b : Nat} {r : Reach} {v : Value} {d : DataW H} {p : List MemPlace} (hv : Value.okWide Try.prog W r b 56 v) (h : DataW.Trod enc Try.prog W 0 (fun _ => true) true 56 v d p) :
    ∃ A c xs, v = .agg #[.slice A (List.length xs) c] ∧ Ints W W.heap.size A xs ∧ xs.length ≤ 9223372036854775807 ∧ (∀ n ∈ xs, (Lit.int .i64 n).wf = true) := by
  obtain ⟨cs, rfl, hsz⟩ := okWide_struct Try.underlying56 hv
  obtain ⟨l⟩ := cs
  have hC : Try.prog.cellsOf 56 = 1 := by kernel_rfl
  match l, hsz.trans hC with
  | [c0], _ =>
    obtain ⟨fuel, hf⟩ := h
    obtain ⟨y0, n, _, _, hy⟩ := trod_struct1 Try.underlying56 hf
    have hc1 : Try.prog.cellsOf 44 = 1 := by kernel_rfl
    have hy' : DataW.trod enc Try.prog W 0 (fun _ => true) true n 44 [c0] = some y0 := by
      rw [hc1] at hy
      simpa [Value.cells] using hy
    rcases open_ints Try.underlying44 Try.underlying2 (by kernel_rfl) hy' with ⟨hcs, _⟩ | ⟨a, len, cap, zs, hcs, _, hl, hm, hz, _, hcell, hwf⟩
    · obtain rfl : c0 = .slice none 0 0 := by simpa using hcs
      exact ⟨none, 0, [], rfl, Ints.nil, by simp, by simp⟩
    · obtain rfl : c0 = .slice (some a) len cap := by simpa using hcs
      simp only [if_true] at hz
      have hlen : (zs.take len).length = len := by simp; omega
      unfold maxLen at hm
      refine ⟨some a, cap, zs.take len, by rw [hlen], ?_, by omega, fun n hn => hwf n (List.mem_of_mem_take hn)⟩
      intro h0
      obtain ⟨b', off, rfl, hc⟩ := ints_at hcell (by omega)
      refine ⟨b', off, rfl, ?_, fun i hi => ?_⟩
      · exact World.block_lt_of_cell? _ _ (hc 0 (by omega))
      · rw [hc i (by omega), List.getElem?_take_of_lt (by omega)]
        rfl

end
end Go.Proofs.Ytpklmhffgbgakaa
