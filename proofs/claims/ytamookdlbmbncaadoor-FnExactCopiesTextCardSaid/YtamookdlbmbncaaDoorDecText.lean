/- A number's decimal text, as a value. -/
import Derived.Test.YtamookdlbmbncaaDoorRows
import Derived.ProofKit
import Derived.Lib.ItoaLen
namespace Go.Proofs.YtamookdlbmbncaaDoor

def decS (a : Int) : ByteArray := ⟨(Lib.itoa a).toArray⟩
theorem decS_size {a : Int} (h0 : -9223372036854775808 ≤ a) (h1 : a ≤ 9223372036854775807) : (decS a).size ≤ 21 := by
  show (Lib.itoa a).toArray.size ≤ 21
  rw [List.size_toArray]
  exact Lib.itoa_length_le a (by omega) (by omega)
theorem nil_appB (x : ByteArray) : (⟨#[]⟩ : ByteArray) ++ x = x := by
  apply ByteArray.ext
  simp
end Go.Proofs.YtamookdlbmbncaaDoor
