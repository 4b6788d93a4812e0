/- The text of columns: spec.l03Text and (columns).text answer the characters of columns, or that one has none, for every 1 to 1048576 columns: contracts. -/
import Derived.Test.YtjlgfgekiekenaaDoorChars
import Derived.Test.YtjlgfgekiekenaaDoorMem
import Derived.Test.YtjlgfgekiekenaaDoorSent
import Derived.Test.YtjlgfgekiekenaaDoorShelf
import Derived.Deep.QuietTactic
import Derived.BigQuiet
import Derived.Laws.IdiomStrings
import Derived.Laws.AppendOwn
namespace Go.Proofs.YtjlgfgekiekenaaDoor
open Go.ChangeShapes Go.WideShapes Go.ChangeAt Go.RowKit

/-- the byte of a column -/
def byteV (m : Int) : UInt8 := (charV m).toNat.toUInt8
theorem byteV_int (m : Int) : ((byteV m).toNat : Int) = charV m := by
  have := charV_le m
  unfold byteV
  rw [Nat.toUInt8, UInt8.toNat_ofNat']
  omega
def textL (xs : List Int) : List UInt8 := xs.map byteV
def textS (xs : List Int) : ByteArray := ⟨(textL xs).toArray⟩
def textOk (xs : List Int) : Bool := xs.all charOk
theorem textL_length (xs : List Int) : (textL xs).length = xs.length := by simp [textL]
theorem textL_take (xs : List Int) (k : Nat) (hk : k < xs.length) : textL (xs.take (k + 1)) = textL (xs.take k) ++ [byteV (xs[k]?.getD 0)] := by
  rw [textL, textL, List.take_succ_eq_append_getElem hk, List.getElem?_eq_getElem hk, List.map_append]
  rfl
theorem cells_take (xs : List Int) (k : Nat) (hk : k < xs.length) : Lib.byteCells (textL (xs.take (k + 1))) = Lib.byteCells (textL (xs.take k)) ++ [Value.int .u8 (charV (xs[k]?.getD 0))] := by
  rw [textL_take xs k hk, Lib.byteCells_append]
  simp [Lib.byteCells, byteV_int]
theorem textOk_take (xs : List Int) (k : Nat) (hk : k < xs.length) (h : textOk (xs.take k) = true) (hc : charOk (xs[k]?.getD 0) = true) : textOk (xs.take (k + 1)) = true := by
  rw [List.getElem?_eq_getElem hk] at hc
  rw [textOk, List.take_succ_eq_append_getElem hk, List.all_append, List.all_cons, List.all_nil, Bool.and_true]
  have hc' : charOk xs[k] = true := hc
  rw [hc', Bool.and_true]
  exact h
theorem textOk_bad (xs : List Int) (k : Nat) (hk : k < xs.length) (hc : charOk (xs[k]?.getD 0) = false) : textOk xs = false := by
  rw [List.getElem?_eq_getElem hk] at hc
  rw [textOk, List.all_eq_false]
  exact ⟨xs[k], List.getElem_mem hk, by simpa using hc⟩

theorem info_byte : (Tryd.prog.info? 5).map (fun i => (i.zero, i.size, i.bytes)) = some (some (.int .u8 0), 1, 1) := by kernel_rfl

/-- What an append of one byte leaves. -/
theorem own_byte {w w' : World} {base : Nat} {v v' : Value} {bs : List Value} {n : Nat} {x : Int} {W : World} {B : Nat}
    (hown : w'.ownsRow base 5 1 v' (n + 1) (bs ++ [.int .u8 x])) (hgrow : (w.alloc (.cells #[.int .u8 x] 5)).grownBy w' v.ownBlock)
    (hold : w.ownsRow base 5 1 v n bs) (hb : Below B W w) (hB : B ≤ base) (hs : B ≤ w.heap.size) :
    w'.ownsRow base 5 1 v' (n + 1) (bs ++ [.int .u8 x]) ∧ Below B W w' :=
  ⟨hown, (hb.alloc hs _).grown hgrow (by simp; omega) (fun k hk => Nat.le_trans hB (hold.lt k hk).1)⟩

/-- The string of bytes of the call's own. -/
theorem own_string {w : World} {base : Nat} {v : Value} {l : List UInt8} (h : w.ownsRow base 5 1 v l.length (Lib.byteCells l)) (h0 : 0 < l.length) :
    (convert 70 9 v).run Tryd.prog w = .ok (.string ⟨l.toArray⟩) w := by
  rcases h.2 with ⟨_, hz⟩ | ⟨g, cap, cur, rfl, hb, hg, hr⟩
  · omega
  · refine run_convert_bytes_back w 70 9 5 ⟨g, 0, none⟩ cap l Tryd.underlying70 Tryd.underlying5 Tryd.underlying9 (fun j hj => ?_)
    have := h.cells (g := g) rfl j (.int .u8 l[j].toNat) (by simp [Lib.byteCells, hj])
    simpa [Addr.add] using this

/-- what (columns).text gives besides the text -/
def textErr (aM : Addr) (b : Bool) : Value := match b with | true => .nilIface | false => .iface 182 (.pointer (some aM))

theorem text_any (A : Option Addr) (c : Nat) (xs : List Int) (B : Nat) (w : World) (h : Ints w B A xs) (hB : B ≤ w.heap.size) (hn : xs.length ≤ 1048576) {aL aF aM : Addr} (S : Sents w aL aF aM) :
    Calls Tryd.prog 56 #[.slice A xs.length c] w fun e w' => e = .returned (.tuple #[.string (if textOk xs = true then textS xs else ⟨#[]⟩), textErr aM (textOk xs)]) ∧ Below w.heap.size w w' := by
  obtain ⟨n, hN⟩ : ∃ n, xs.length = n := ⟨_, rfl⟩
  obtain ⟨r, hr⟩ : ∃ r, textOk xs = r := ⟨_, rfl⟩
  obtain ⟨s, hs⟩ : ∃ s, (if r = true then textS xs else ⟨#[]⟩) = s := ⟨_, rfl⟩
  rw [hr, hs]
  rw [hN] at hn ⊢
  have H := Lib.hid h
  have HN := Lib.hid hN
  have HR := Lib.hid hr
  have HS := Lib.hid hs
  have HC := Lib.hid implCharOf_any
  have HE := Lib.hid S
  clear h hN hr hs S
  go_enter Tryd.func56, Tryd.ntmps56
  go_wp2
  go_loopw [11] (fun i wr => ∃ k : Nat, k ≤ n ∧ i = .int .i64 k ∧ Hid (textOk (xs.take k) = true) ∧ Hid (Lib.IsBuilderF 102 5 w.heap.size w.heap.size (Lib.byteCells (textL (xs.take k))) wr) ∧ Hid (Below w.heap.size w wr)) (fun i _ => n - (intOf i).toNat)
  case atStart => exact ⟨0, Nat.zero_le _, rfl, rfl, Lib.IsBuilderF.of (Lib.fresh_isBuilder 102 5 w), below_box w _⟩
  case round =>
    obtain ⟨k, hk, rfl, HT, HW, HB⟩ := hrel
    have hwr : w.heap.size ≤ wr.heap.size := HB.out.size
    by_cases hlt : k < n
    · have hx : k < xs.length := by rw [HN.out]; exact hlt
      obtain ⟨b, off, rfl, hb, hcell⟩ := (H.out.below (HB.out.mono hB)) (by omega)
      have h1 := hcell k hx
      obtain ⟨x, hxx⟩ : ∃ x, xs[k]?.getD 0 = x := ⟨_, rfl⟩
      rw [hxx] at h1
      have Hx := Lib.hid hxx
      have hx' := Lib.hid hx
      have hk0 : (0 : Int) ≤ (k : Int) := Int.natCast_nonneg _
      have hk1 : (k : Int) < (n : Int) := by omega
      have hc := fun W => HC.out x W
      have HK := Lib.hid (cells_take xs k hx)
      rw [hxx] at HK
      obtain ⟨cv, hcv⟩ : ∃ cv, charV x = cv := ⟨_, rfl⟩
      rw [hcv] at hc HK
      clear hcell hxx hx H hb hcv
      cases hm : charOk x
      · rw [hm] at hc
        have HX := Lib.hid hc
        obtain rfl : r = false := by rw [← HR.out, textOk_bad xs k hx'.out (by rw [Hx.out]; exact hm)]
        obtain rfl : s = ⟨#[]⟩ := by rw [← HS.out]; rfl
        have hM := (HE.out.below HB.out).mean.1
        have HF := Lib.hid HB.out
        clear hc hm HS HT HW HB HE
        go_wp2_with (go_at_call 78; refine (HX.out _).mono ?_; rintro e w' ⟨rfl, rfl⟩)
        go_quiet (fail)
        go_wp2
        go_ret2
        exact ⟨rfl, below_drewN HF.out _⟩
      · rw [hm] at hc
        have HX := Lib.hid hc
        have HT1 : Hid (textOk (xs.take (k + 1)) = true) := textOk_take xs k hx'.out HT.out (by rw [Hx.out]; exact hm)
        have HWB := Lib.hid (Tryd.Builder_WriteByte_k w.heap.size w.heap.size _ cv wr HW.out (by rw [Lib.byteCells_length, textL_length, List.length_take]; omega) hwr)
        clear hc hm
        go_wp2_with (first | (go_at_call 78; refine (HX.out _).mono ?_; rintro e w' ⟨rfl, rfl⟩) | (go_at_call 79; refine HWB.out.mono ?_; rintro e w1 ⟨rfl, hI, hbb, _⟩; have HW1 : Hid (Lib.IsBuilderF 102 5 w.heap.size w.heap.size (Lib.byteCells (textL (xs.take (k + 1)))) w1) := (by rw [HK.out]; exact Or.inr hI); have HB1 := Lib.hid (HB.out.trans hbb); clear hI hbb))
        go_roundw
        case rel => exact ⟨k + 1, by omega, by go_num, HT1, HW1, HB1⟩
        case measure => simp [intOf]; omega
    · have hkn : k = n := by omega
      have hk1 : ¬ (k : Int) < (n : Int) := by omega
      have htk : xs.take k = xs := List.take_of_length_le (by rw [HN.out]; omega)
      obtain rfl : r = true := by rw [← HR.out, ← htk]; exact HT.out
      have hw := HW.out
      rw [htk] at hw
      have HST := Lib.hid (Tryd.Builder_String_any_k w.heap.size w.heap.size _ wr hw hwr)
      obtain rfl : s = textS xs := by rw [← HS.out]; rfl
      have HF := Lib.hid HB.out
      clear hkn htk HW HT hw HS HB
      go_wp2_with (go_at_call 80; refine HST.out.mono ?_; rintro e w1 ⟨rfl, _, hbb, _⟩; have HB1 := Lib.hid (HF.out.trans hbb); clear hbb)
      go_ret2
      exact ⟨rfl, HB1.out⟩

def readCode (xs : List Int) : Int := if okB xs = false then 1 else if textOk xs = false then 8 else 0
def readS (xs : List Int) : ByteArray := if okB xs = false then ⟨#[]⟩ else if textOk xs = true then textS xs else ⟨#[]⟩

end Go.Proofs.YtjlgfgekiekenaaDoor