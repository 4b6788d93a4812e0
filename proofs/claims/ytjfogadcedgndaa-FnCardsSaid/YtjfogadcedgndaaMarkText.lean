/- laws.markText answers a text that depends on its number alone, for every number from 1 to 1099511627776: a contract. -/
import Derived.Test.YtjfogadcedgndaaTexts
import Derived.Laws.BytesString
import Derived.Laws.Concat
import Derived.Laws.Cells
namespace Go.Proofs.Ytjfogadcedgndaa
open Go.ChangeShapes Go.WideShapes Go.ChangeAt Go.RowKit

def dg (k : Nat) (o : ByteArray) : ByteArray :=
  if _ : k = 0 then o else dg (k / 10) ((⟨#[48 + UInt8.ofNat (k % 10)]⟩ : ByteArray) ++ o)
termination_by k
decreasing_by omega
theorem dg_zero (o : ByteArray) : dg 0 o = o := by rw [dg]; simp
theorem dg_more (k : Nat) (o : ByteArray) (h : 0 < k) : dg k o = dg (k / 10) ((⟨#[48 + UInt8.ofNat (k % 10)]⟩ : ByteArray) ++ o) := by
  rw [dg, dif_neg (by omega)]
def mtext (k : Nat) : ByteArray := (⟨#[109]⟩ : ByteArray) ++ dg k ⟨#[]⟩

theorem digit_string (W : World) (d : Nat) (hd : d ≤ 9) (W' : World) (hW : W' = W.alloc (.cells #[.int .u8 (48 + (d : Int))] 5)) : (convert 22 9 (.slice (some ⟨W.heap.size, 0, none⟩) 1 1)).run Try.prog W' =
    .ok (.string ⟨#[48 + UInt8.ofNat d]⟩) W' := by
  subst hW
  rw [run_convert_bytes_string _ _ _ _ _ _ _ Try.underlying22 Try.underlying5 Try.underlying9]
  have hl : (loadCells ⟨W.heap.size, 0, none⟩ 1).run Try.prog (W.alloc (.cells #[.int .u8 (48 + (d : Int))] 5)) = .ok (([48 + (d : Int)] : List Int).map (Value.int .u8)).toArray (W.alloc (.cells #[.int .u8 (48 + (d : Int))] 5)) := by
    simp [loadCells, go_sem]
  have := run_bytesToString (P := Try.prog) _ _ 1 1 _ hl
  rw [this]
  have e : (48 + (d : Int)).toNat = 48 + d := by omega
  simp only [List.foldl, e, UInt8.ofNat_add]
  rfl

end Go.Proofs.Ytjfogadcedgndaa