/- spec.CardPicture, (columns).line and impl.CardPicture describe a card in twelve lines, for every card of at most 1048576 columns: contracts. -/
import Derived.Test.YtjfogadcedgndaaValid
import Derived.Test.YtjfogadcedgndaaSplit
import Derived.Test.YtjfogadcedgndaaShelf
import Derived.Laws.IdiomStrings
namespace Go.Proofs.Ytjfogadcedgndaa
open Go.ChangeShapes Go.WideShapes Go.ChangeAt Go.RowKit

/-- whether a column has the hole whose bit is at place k -/
def dotB (x : Int) (k : Nat) : Bool := bits .and .i64 (x / 2 ^ k) 1 == 1
def dotC (x : Int) (k : Nat) : UInt8 := if dotB x k = true then 111 else 46
def lineL (xs : List Int) (k : Nat) : List UInt8 := xs.map fun x => dotC x k
def lineS (xs : List Int) (k : Nat) : ByteArray := ⟨(lineL xs k).toArray⟩
theorem lineL_length (xs : List Int) (k : Nat) : (lineL xs k).length = xs.length := by simp [lineL]
theorem line_cells (xs : List Int) (b : Nat) (k : Nat) (hk : k < xs.length) (u : Int) (hu : ((dotC (xs[k]?.getD 0) b).toNat : Int) = u) : Lib.byteCells (lineL (xs.take (k + 1)) b) = Lib.byteCells (lineL (xs.take k) b) ++ [Value.int .u8 u] := by
  rw [List.getElem?_eq_getElem hk] at hu
  have e : lineL (xs.take (k + 1)) b = lineL (xs.take k) b ++ [dotC xs[k] b] := by
    rw [lineL, lineL, List.take_succ_eq_append_getElem hk, List.map_append]
    rfl
  rw [e, Lib.byteCells_append, ← hu]
  rfl

theorem line_any (A : Option Addr) (c : Nat) (xs : List Int) (B b : Nat) (w : World) (h : Ints w B A xs) (hB : B ≤ w.heap.size) (hn : xs.length ≤ 1048576) (hb : b < 12) :
    Calls Try.prog 60 #[.slice A xs.length c, .int .i64 b] w fun e w' => e = .returned (.string (lineS xs b)) ∧ Below w.heap.size w w' := by
  obtain ⟨n, hN⟩ : ∃ n, xs.length = n := ⟨_, rfl⟩
  obtain ⟨s, hs⟩ : ∃ s, lineS xs b = s := ⟨_, rfl⟩
  rw [hs]
  rw [hN] at hn ⊢
  have H := Lib.hid h
  have HN := Lib.hid hN
  have HS := Lib.hid hs
  clear h hN hs
  go_enter Try.func60, Try.ntmps60
  go_wp2
  go_loopw [10] (fun i wr => ∃ k : Nat, k ≤ n ∧ i = .int .i64 k ∧ Hid (Lib.IsBuilderF 128 5 w.heap.size w.heap.size (Lib.byteCells (lineL (xs.take k) b)) wr) ∧ Hid (Below w.heap.size w wr)) (fun i _ => n - (intOf i).toNat)
  case atStart => exact ⟨0, Nat.zero_le _, rfl, Lib.IsBuilderF.of (Lib.fresh_isBuilder 128 5 w), below_box w _⟩
  case round =>
    obtain ⟨k, hk, rfl, HW, HB⟩ := hrel
    have hwr : w.heap.size ≤ wr.heap.size := HB.out.size
    by_cases hlt : k < n
    · have hx : k < xs.length := by rw [HN.out]; exact hlt
      obtain ⟨bb, off, rfl, hbb, hcell⟩ := (H.out.below (HB.out.mono hB)) (by omega)
      have h1 := hcell k hx
      have HK := Lib.hid (line_cells xs b k hx)
      obtain ⟨x, hxx⟩ : ∃ x, xs[k]?.getD 0 = x := ⟨_, rfl⟩
      rw [hxx] at h1 HK
      have hk0 : (0 : Int) ≤ (k : Int) := Int.natCast_nonneg _
      have hk1 : (k : Int) < (n : Int) := by omega
      have hb0 : (0 : Int) ≤ (b : Int) := Int.natCast_nonneg _
      have hb1 : (b : Int) < 12 := by omega
      clear hcell hxx hx H hbb
      cases hd : (bits .and .i64 (x / 2 ^ b) 1 == 1)
      · have HK1 := Lib.hid (HK.out 46 (by rw [dotC, dotB, hd]; rfl))
        have HWB := Lib.hid (Try.Builder_WriteByte_k w.heap.size w.heap.size _ 46 wr HW.out (by rw [Lib.byteCells_length, lineL_length, List.length_take]; omega) hwr)
        go_wp2_with (go_at_call 100; refine HWB.out.mono ?_; rintro e w1 ⟨rfl, hI, hbb, _⟩; have HW1 : Hid (Lib.IsBuilderF 128 5 w.heap.size w.heap.size (Lib.byteCells (lineL (xs.take (k + 1)) b)) w1) := (by rw [HK1.out]; exact Or.inr hI); have HB1 := Lib.hid (HB.out.trans hbb); clear hI hbb)
        go_roundw
        case rel => exact ⟨k + 1, by omega, by go_num, HW1, HB1⟩
        case measure => simp [intOf]; omega
      · have HK1 := Lib.hid (HK.out 111 (by rw [dotC, dotB, hd]; rfl))
        have HWB := Lib.hid (Try.Builder_WriteByte_k w.heap.size w.heap.size _ 111 wr HW.out (by rw [Lib.byteCells_length, lineL_length, List.length_take]; omega) hwr)
        go_wp2_with (go_at_call 100; refine HWB.out.mono ?_; rintro e w1 ⟨rfl, hI, hbb, _⟩; have HW1 : Hid (Lib.IsBuilderF 128 5 w.heap.size w.heap.size (Lib.byteCells (lineL (xs.take (k + 1)) b)) w1) := (by rw [HK1.out]; exact Or.inr hI); have HB1 := Lib.hid (HB.out.trans hbb); clear hI hbb)
        go_roundw
        case rel => exact ⟨k + 1, by omega, by go_num, HW1, HB1⟩
        case measure => simp [intOf]; omega
    · have hkn : k = n := by omega
      have hk1 : ¬ (k : Int) < (n : Int) := by omega
      have htk : xs.take k = xs := List.take_of_length_le (by rw [HN.out]; omega)
      have hw := HW.out
      rw [htk] at hw
      have HST := Lib.hid (Try.Builder_String_any_k w.heap.size w.heap.size _ wr hw hwr)
      obtain rfl : s = lineS xs b := HS.out.symm
      have HF := Lib.hid HB.out
      clear hkn htk HW hw HS HB
      go_wp2_with (go_at_call 101; refine HST.out.mono ?_; rintro e w1 ⟨rfl, _, hbb, _⟩; have HB1 := Lib.hid (HF.out.trans hbb); clear hbb)
      go_ret
      exact ⟨rfl, HB1.out⟩

/-- the twelve lines of a card -/
def picTo (xs : List Int) (k : Nat) : List ByteArray := (List.range k).map fun b => lineS xs b
theorem picTo_length (xs : List Int) (k : Nat) : (picTo xs k).length = k := by simp [picTo]
theorem picTo_step (xs : List Int) (k : Nat) : picTo xs (k + 1) = picTo xs k ++ [lineS xs k] := by simp [picTo, List.range_succ]

/-- A list of texts of new memory, and OK. -/
def GivesTexts0 (ss : List ByteArray) (w : World) (e : Ending) (w' : World) : Prop :=
  ∃ g cap, e = .returned (.tuple #[.slice (some ⟨g, 0, none⟩) ss.length cap, .int .i64 0]) ∧ w.heap.size ≤ g ∧ Below w.heap.size w w' ∧ w'.ownsRow w.heap.size 9 1 (.slice (some ⟨g, 0, none⟩) ss.length cap) ss.length (txts ss)
/-- No list, and a code. -/
def GivesNoTexts (a : Int) (w : World) (e : Ending) (w' : World) : Prop :=
  e = .returned (.tuple #[.slice none 0 0, .int .i64 a]) ∧ Below w.heap.size w w'

theorem implPic_bad (A : Option Addr) (c : Nat) (xs : List Int) (B : Nat) (w : World) (h : Ints w B A xs) (hB : B ≤ w.heap.size) (hn : xs.length ≤ 1048576) (hv : okB xs = false) :
    Calls Try.prog 17 #[.agg #[.slice A xs.length c]] w (GivesNoTexts 1 w) := by
  have hok := implValidCard_any A c xs B (w.alloc (.cells #[.slice A xs.length c] 26)) (h.alloc hB _) (by simp; omega) hn
  rw [hv] at hok
  have HO := Lib.hid hok
  clear hok hv h hn
  go_enter Try.func17, Try.ntmps17
  go_wp2_with fail
  refine HO.out.mono ?_
  rintro e w1 ⟨rfl, hb⟩
  have B1 := Lib.hid (below_step (below_box w _) hb)
  clear hb
  go_wp2
  go_ret2
  exact ⟨rfl, B1.out⟩

/-- What an append of one byte leaves. -/
theorem own_dot {w w' : World} {base : Nat} {v v' : Value} {bs : List Value} {n : Nat} {x : Int} {W : World} {B : Nat}
    (hown : w'.ownsRow base 5 1 v' (n + 1) (bs ++ [.int .u8 x])) (hgrow : (w.alloc (.cells #[.int .u8 x] 5)).grownBy w' v.ownBlock)
    (hold : w.ownsRow base 5 1 v n bs) (hb : Below B W w) (hB : B ≤ base) (hs : B ≤ w.heap.size) :
    w'.ownsRow base 5 1 v' (n + 1) (bs ++ [.int .u8 x]) ∧ Below B W w' :=
  ⟨hown, (hb.alloc hs _).grown hgrow (by simp; omega) (fun k hk => Nat.le_trans hB (hold.lt k hk).1)⟩
theorem info_dot : (Try.prog.info? 5).map (fun i => (i.zero, i.size, i.bytes)) = some (some (.int .u8 0), 1, 1) := by kernel_rfl
theorem own_lineS {w : World} {base : Nat} {v : Value} {l : List UInt8} (h : w.ownsRow base 5 1 v l.length (Lib.byteCells l)) (h0 : 0 < l.length) :
    (convert 22 9 v).run Try.prog w = .ok (.string ⟨l.toArray⟩) w := by
  rcases h.2 with ⟨_, hz⟩ | ⟨g, cap, cur, rfl, hb, hg, hr⟩
  · omega
  · refine run_convert_bytes_back w 22 9 5 ⟨g, 0, none⟩ cap l Try.underlying22 Try.underlying5 Try.underlying9 (fun j hj => ?_)
    have := h.cells (g := g) rfl j (.int .u8 l[j].toNat) (by simp [Lib.byteCells, hj])
    simpa [Addr.add] using this
/-- a row of the call's own that other new memory leaves as it is -/
theorem own_keep {w w' : World} {base n size : Nat} {e : TypeId} {v : Value} {xs : List Value} (h : w.ownsRow base e size v n xs) (hb : Below w.heap.size w w') : w'.ownsRow base e size v n xs := by
  refine ⟨h.1, ?_⟩
  rcases h.2 with h0 | ⟨g, cap, cur, hv, hg, hh, rest⟩
  · exact Or.inl h0
  · refine Or.inr ⟨g, cap, cur, hv, hg, ?_, rest⟩
    have hlt : g < w.heap.size := by
      rcases Nat.lt_or_ge g w.heap.size with h' | h'
      · exact h'
      · rw [Array.getElem?_eq_none h'] at hh; cases hh
    rw [hb.block g hlt]
    exact hh

end Go.Proofs.Ytjfogadcedgndaa