/- The text of columns: spec.l03Text and (columns).text answer the characters of columns, or that one has none, for every 1 to 1048576 columns: contracts. -/
import Derived.Test.YtamookdlbmbncabDoorChars
import Derived.Test.YtamookdlbmbncabDoorMem
import Derived.Test.YtamookdlbmbncabDoorSent
import Derived.Test.YtamookdlbmbncabDoorShelf
import Derived.Shelf.Strings.BuilderK
import Derived.Deep.QuietTactic
import Derived.BigQuiet
import Derived.Laws.IdiomStrings
import Derived.Laws.AppendOwn
namespace Go.Proofs.YtamookdlbmbncabDoor
open Go.ChangeShapes Go.WideShapes Go.ChangeAt Go.RowKit

/-- the byte of a column -/
def byteV (m : Int) : UInt8 := (charV m).toNat.toUInt8
theorem byteV_int (m : Int) : ((byteV m).toNat : Int) = charV m := by
  have := charV_le m
  unfold byteV
  rw [Nat.toUInt8, UInt8.toNat_ofNat']
  omega
def textL (xs : List Int) : List UInt8 := xs.map byteV
def textS (xs : List Int) : ByteArray := ⟨(textL xs).toArray⟩
def textOk (xs : List Int) : Bool := xs.all charOk
theorem textL_length (xs : List Int) : (textL xs).length = xs.length := by simp [textL]
theorem textL_take (xs : List Int) (k : Nat) (hk : k < xs.length) : textL (xs.take (k + 1)) = textL (xs.take k) ++ [byteV (xs[k]?.getD 0)] := by
  rw [textL, textL, List.take_succ_eq_append_getElem hk, List.getElem?_eq_getElem hk, List.map_append]
  rfl
theorem cells_take (xs : List Int) (k : Nat) (hk : k < xs.length) : Lib.byteCells (textL (xs.take (k + 1))) = Lib.byteCells (textL (xs.take k)) ++ [Value.int .u8 (charV (xs[k]?.getD 0))] := by
  rw [textL_take xs k hk, Lib.byteCells_append]
  simp [Lib.byteCells, byteV_int]
theorem textOk_take (xs : List Int) (k : Nat) (hk : k < xs.length) (h : textOk (xs.take k) = true) (hc : charOk (xs[k]?.getD 0) = true) : textOk (xs.take (k + 1)) = true := by
  rw [List.getElem?_eq_getElem hk] at hc
  rw [textOk, List.take_succ_eq_append_getElem hk, List.all_append, List.all_cons, List.all_nil, Bool.and_true]
  have hc' : charOk xs[k] = true := hc
  rw [hc', Bool.and_true]
  exact h
theorem textOk_bad (xs : List Int) (k : Nat) (hk : k < xs.length) (hc : charOk (xs[k]?.getD 0) = false) : textOk xs = false := by
  rw [List.getElem?_eq_getElem hk] at hc
  rw [textOk, List.all_eq_false]
  exact ⟨xs[k], List.getElem_mem hk, by simpa using hc⟩

theorem info_byte : (Tryd.prog.info? 5).map (fun i => (i.zero, i.size, i.bytes)) = some (some (.int .u8 0), 1, 1) := by kernel_rfl

/-- What an append of one byte leaves. -/
theorem own_byte {w w' : World} {base : Nat} {v v' : Value} {bs : List Value} {n : Nat} {x : Int} {W : World} {B : Nat}
    (hown : w'.ownsRow base 5 1 v' (n + 1) (bs ++ [.int .u8 x])) (hgrow : (w.alloc (.cells #[.int .u8 x] 5)).grownBy w' v.ownBlock)
    (hold : w.ownsRow base 5 1 v n bs) (hb : Below B W w) (hB : B ≤ base) (hs : B ≤ w.heap.size) :
    w'.ownsRow base 5 1 v' (n + 1) (bs ++ [.int .u8 x]) ∧ Below B W w' :=
  ⟨hown, (hb.alloc hs _).grown hgrow (by simp; omega) (fun k hk => Nat.le_trans hB (hold.lt k hk).1)⟩

/-- The string of bytes of the call's own. -/
theorem own_string {w : World} {base : Nat} {v : Value} {l : List UInt8} (h : w.ownsRow base 5 1 v l.length (Lib.byteCells l)) (h0 : 0 < l.length) :
    (convert 90 9 v).run Tryd.prog w = .ok (.string ⟨l.toArray⟩) w := by
  rcases h.2 with ⟨_, hz⟩ | ⟨g, cap, cur, rfl, hb, hg, hr⟩
  · omega
  · refine run_convert_bytes_back w 90 9 5 ⟨g, 0, none⟩ cap l Tryd.underlying90 Tryd.underlying5 Tryd.underlying9 (fun j hj => ?_)
    have := h.cells (g := g) rfl j (.int .u8 l[j].toNat) (by simp [Lib.byteCells, hj])
    simpa [Addr.add] using this

theorem l03Text_any (A : Option Addr) (c : Nat) (xs : List Int) (B : Nat) (w : World) (h : Ints w B A xs) (hB : B ≤ w.heap.size) (h0 : 0 < xs.length) (hn : xs.length ≤ 1048576) :
    Calls Tryd.prog 46 #[.slice A xs.length c] w fun e w' => e = .returned (.tuple #[.string (if textOk xs = true then textS xs else ⟨#[]⟩), .bool (textOk xs)]) ∧ Below w.heap.size w w' := by
  obtain ⟨i0, hi0, hz0, hz1, hz2⟩ := info_parts info_byte
  obtain ⟨n, hN⟩ : ∃ n, xs.length = n := ⟨_, rfl⟩
  obtain ⟨r, hr⟩ : ∃ r, textOk xs = r := ⟨_, rfl⟩
  obtain ⟨s, hs⟩ : ∃ s, (if r = true then textS xs else ⟨#[]⟩) = s := ⟨_, rfl⟩
  rw [hr, hs]
  rw [hN] at hn h0 ⊢
  have H := Lib.hid h
  have HN := Lib.hid hN
  have HR := Lib.hid hr
  have HS := Lib.hid hs
  have HC := Lib.hid l03Char_any
  clear h hN hr hs
  go_enter Tryd.func46, Tryd.ntmps46
  go_wp2
  go_loopw [4, 5] (fun v i wr => ∃ k : Nat, ∃ vv : Value, k ≤ n ∧ i = .int .i64 k ∧ vv = v ∧ Hid (textOk (xs.take k) = true) ∧ Hid (wr.ownsRow w.heap.size 5 1 v k (Lib.byteCells (textL (xs.take k)))) ∧ Hid (Below w.heap.size w wr)) (fun _ i _ => n - (intOf i).toNat)
  case atStart =>
    refine ⟨0, _, Nat.zero_le _, rfl, rfl, rfl, ?_, ?_⟩
    · exact ⟨rfl, Or.inr ⟨w.heap.size, 0, #[], rfl, Nat.le_refl _, heap_alloc_new w _, Nat.le_refl _, Nat.zero_le _, rfl, rfl⟩⟩
    · exact below_box w _
  case round =>
    obtain ⟨k, vv, hk, rfl, rfl, HT, HW, HB⟩ := hrel
    have hwr : w.heap.size ≤ wr.heap.size := HB.out.size
    by_cases hlt : k < n
    · have hx : k < xs.length := by rw [HN.out]; exact hlt
      obtain ⟨b, off, rfl, hb, hcell⟩ := (H.out.below (HB.out.mono hB)) (by omega)
      have h1 := hcell k hx
      obtain ⟨x, hxx⟩ : ∃ x, xs[k]?.getD 0 = x := ⟨_, rfl⟩
      rw [hxx] at h1
      have Hx := Lib.hid hxx
      have hx' := Lib.hid hx
      have hk0 : (0 : Int) ≤ (k : Int) := Int.natCast_nonneg _
      have hk1 : (k : Int) < (n : Int) := by omega
      have hc := fun W => HC.out x W
      have HK := Lib.hid (cells_take xs k hx)
      rw [hxx] at HK
      obtain ⟨cv, hcv⟩ : ∃ cv, charV x = cv := ⟨_, rfl⟩
      rw [hcv] at hc HK
      clear hcell hxx hx H hb hcv
      cases hm : charOk x
      · rw [hm] at hc
        have HX := Lib.hid hc
        obtain rfl : r = false := by rw [← HR.out, textOk_bad xs k hx'.out (by rw [Hx.out]; exact hm)]
        have hs' : s = ⟨#[]⟩ := by rw [← HS.out]; rfl
        have HS' := Lib.hid hs'
        clear hc hm hs' HS
        go_wp2_with (go_at_call 53; refine (HX.out _).mono ?_; rintro e w' ⟨rfl, rfl⟩)
        go_ret2
        exact ⟨by rw [HS'.out]; rfl, HB.out⟩
      · rw [hm] at hc
        have HX := Lib.hid hc
        have HT1 : Hid (textOk (xs.take (k + 1)) = true) := textOk_take xs k hx'.out HT.out (by rw [Hx.out]; exact hm)
        clear hc hm
        go_wp2_with (first | (go_at_call 53; refine (HX.out _).mono ?_; rintro e w' ⟨rfl, rfl⟩) | (at_builtin; refine wpList_append_own _ rfl _ _ 90 rfl w.heap.size 5 i0 (.int .u8 0) 1 1 Tryd.underlying90 hi0 hz0 hz1 hz2 rfl (by decide) _ _ _ rfl (HW.out.alloc _) ⟨wr.heap.size, 0, none⟩ 1 1 [.int .u8 cv] rfl rfl ?c1 ?c2 ?c3 ?c4 ?c5 ?_; rotate_left 5; intro v' w1 hown hgrow _; obtain ⟨ho, hbb⟩ := own_byte hown hgrow HW.out HB.out (Nat.le_refl _) hwr; rw [← HK.out] at ho; have HW1 := Lib.hid ho; have HB1 := Lib.hid hbb; clear hown hgrow ho hbb))
        case c1 =>
          intro j u hj
          match j, hj with
          | 0, hj => simp at hj; subst hj; simp [Addr.add]
        case c2 => intro u hu; simp at hu; subst hu; rfl
        case c3 => unfold maxLen; omega
        case c4 => omega
        case c5 => simp; omega
        go_roundw
        case rel => exact ⟨k + 1, _, by omega, by go_num, rfl, HT1, HW1, HB1⟩
        case measure => simp [intOf]; omega
    · have hkn : k = n := by omega
      have hk1 : ¬ (k : Int) < (n : Int) := by omega
      have htk : xs.take k = xs := List.take_of_length_le (by rw [HN.out]; omega)
      obtain rfl : r = true := by rw [← HR.out, ← htk]; exact HT.out
      have hstr : (convert 90 9 vv).run Tryd.prog wr = .ok (.string s) wr := by
        have hw := HW.out
        rw [htk, hkn, ← HN.out, ← textL_length xs] at hw
        rw [own_string hw (by rw [textL_length, HN.out]; omega), ← HS.out]
        rfl
      clear hkn htk HW HT
      go_wp2
      go_ret2
      exact ⟨rfl, HB.out⟩

def readCode (xs : List Int) : Int := if okB xs = false then 1 else if textOk xs = false then 8 else 0
def readS (xs : List Int) : ByteArray := if okB xs = false then ⟨#[]⟩ else if textOk xs = true then textS xs else ⟨#[]⟩

end Go.Proofs.YtamookdlbmbncabDoor