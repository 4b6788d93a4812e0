/- The text of columns: spec.l03Text and (columns).text answer the characters of columns, or that one has none, for every 1 to 1048576 columns: contracts. -/
import Derived.Test.YtamookdlbmbncaaChars
import Derived.Test.YtamookdlbmbncaaMem
import Derived.Test.YtamookdlbmbncaaSent
import Derived.Test.YtamookdlbmbncaaShelf
import Derived.Shelf.Strings.BuilderK
import Derived.Deep.QuietTactic
import Derived.BigQuiet
import Derived.Laws.IdiomStrings
import Derived.Laws.AppendOwn
namespace Go.Proofs.Ytamookdlbmbncaa
open Go.ChangeShapes Go.WideShapes Go.ChangeAt Go.RowKit

/-- the byte of a column -/
def byteV (m : Int) : UInt8 := (charV m).toNat.toUInt8
theorem byteV_int (m : Int) : ((byteV m).toNat : Int) = charV m := by
  have := charV_le m
  unfold byteV
  rw [Nat.toUInt8, UInt8.toNat_ofNat']
  omega
def textL (xs : List Int) : List UInt8 := xs.map byteV
def textS (xs : List Int) : ByteArray := ⟨(textL xs).toArray⟩
def textOk (xs : List Int) : Bool := xs.all charOk
theorem textL_length (xs : List Int) : (textL xs).length = xs.length := by simp [textL]
theorem textL_take (xs : List Int) (k : Nat) (hk : k < xs.length) : textL (xs.take (k + 1)) = textL (xs.take k) ++ [byteV (xs[k]?.getD 0)] := by
  rw [textL, textL, List.take_succ_eq_append_getElem hk, List.getElem?_eq_getElem hk, List.map_append]
  rfl
theorem cells_take (xs : List Int) (k : Nat) (hk : k < xs.length) : Lib.byteCells (textL (xs.take (k + 1))) = Lib.byteCells (textL (xs.take k)) ++ [Value.int .u8 (charV (xs[k]?.getD 0))] := by
  rw [textL_take xs k hk, Lib.byteCells_append]
  simp [Lib.byteCells, byteV_int]
theorem textOk_take (xs : List Int) (k : Nat) (hk : k < xs.length) (h : textOk (xs.take k) = true) (hc : charOk (xs[k]?.getD 0) = true) : textOk (xs.take (k + 1)) = true := by
  rw [List.getElem?_eq_getElem hk] at hc
  rw [textOk, List.take_succ_eq_append_getElem hk, List.all_append, List.all_cons, List.all_nil, Bool.and_true]
  have hc' : charOk xs[k] = true := hc
  rw [hc', Bool.and_true]
  exact h
theorem textOk_bad (xs : List Int) (k : Nat) (hk : k < xs.length) (hc : charOk (xs[k]?.getD 0) = false) : textOk xs = false := by
  rw [List.getElem?_eq_getElem hk] at hc
  rw [textOk, List.all_eq_false]
  exact ⟨xs[k], List.getElem_mem hk, by simpa using hc⟩

theorem info_byte : (Try.prog.info? 5).map (fun i => (i.zero, i.size, i.bytes)) = some (some (.int .u8 0), 1, 1) := by kernel_rfl

/-- What an append of one byte leaves. -/
theorem own_byte {w w' : World} {base : Nat} {v v' : Value} {bs : List Value} {n : Nat} {x : Int} {W : World} {B : Nat}
    (hown : w'.ownsRow base 5 1 v' (n + 1) (bs ++ [.int .u8 x])) (hgrow : (w.alloc (.cells #[.int .u8 x] 5)).grownBy w' v.ownBlock)
    (hold : w.ownsRow base 5 1 v n bs) (hb : Below B W w) (hB : B ≤ base) (hs : B ≤ w.heap.size) :
    w'.ownsRow base 5 1 v' (n + 1) (bs ++ [.int .u8 x]) ∧ Below B W w' :=
  ⟨hown, (hb.alloc hs _).grown hgrow (by simp; omega) (fun k hk => Nat.le_trans hB (hold.lt k hk).1)⟩

def readCode (xs : List Int) : Int := if okB xs = false then 1 else if textOk xs = false then 8 else 0
def readS (xs : List Int) : ByteArray := if okB xs = false then ⟨#[]⟩ else if textOk xs = true then textS xs else ⟨#[]⟩

end Go.Proofs.Ytamookdlbmbncaa