/- spec.CardPicture, (columns).line and impl.CardPicture describe a card in twelve lines, for every card of at most 1048576 columns: contracts. -/
import Derived.Test.YtmibkaldeickdabValid
import Derived.Test.YtmibkaldeickdabSplit
import Derived.Test.YtmibkaldeickdabShelf
import Derived.Laws.IdiomStrings
namespace Go.Proofs.Ytmibkaldeickdab
open Go.ChangeShapes Go.WideShapes Go.ChangeAt Go.RowKit

/-- whether a column has the hole whose bit is at place k -/
def dotB (x : Int) (k : Nat) : Bool := bits .and .i64 (x / 2 ^ k) 1 == 1
def dotC (x : Int) (k : Nat) : UInt8 := if dotB x k = true then 111 else 46
def lineL (xs : List Int) (k : Nat) : List UInt8 := xs.map fun x => dotC x k
def lineS (xs : List Int) (k : Nat) : ByteArray := ⟨(lineL xs k).toArray⟩
theorem lineL_length (xs : List Int) (k : Nat) : (lineL xs k).length = xs.length := by simp [lineL]
theorem line_cells (xs : List Int) (b : Nat) (k : Nat) (hk : k < xs.length) (u : Int) (hu : ((dotC (xs[k]?.getD 0) b).toNat : Int) = u) : Lib.byteCells (lineL (xs.take (k + 1)) b) = Lib.byteCells (lineL (xs.take k) b) ++ [Value.int .u8 u] := by
  rw [List.getElem?_eq_getElem hk] at hu
  have e : lineL (xs.take (k + 1)) b = lineL (xs.take k) b ++ [dotC xs[k] b] := by
    rw [lineL, lineL, List.take_succ_eq_append_getElem hk, List.map_append]
    rfl
  rw [e, Lib.byteCells_append, ← hu]
  rfl

theorem line_any (A : Option Addr) (c : Nat) (xs : List Int) (B b : Nat) (w : World) (h : Ints w B A xs) (hB : B ≤ w.heap.size) (hn : xs.length ≤ 1048576) (hb : b < 12) :
    Calls Try.prog 27 #[.slice A xs.length c, .int .i64 b] w fun e w' => e = .returned (.string (lineS xs b)) ∧ Below w.heap.size w w' := by
  obtain ⟨n, hN⟩ : ∃ n, xs.length = n := ⟨_, rfl⟩
  obtain ⟨s, hs⟩ : ∃ s, lineS xs b = s := ⟨_, rfl⟩
  rw [hs]
  rw [hN] at hn ⊢
  have H := Lib.hid h
  have HN := Lib.hid hN
  have HS := Lib.hid hs
  clear h hN hs
  go_enter Try.func27, Try.ntmps27
  go_wp2
  go_loopw [10] (fun i wr => ∃ k : Nat, k ≤ n ∧ i = .int .i64 k ∧ Hid (Lib.IsBuilderF 76 5 w.heap.size w.heap.size (Lib.byteCells (lineL (xs.take k) b)) wr) ∧ Hid (Below w.heap.size w wr)) (fun i _ => n - (intOf i).toNat)
  case atStart => exact ⟨0, Nat.zero_le _, rfl, Lib.IsBuilderF.of (Lib.fresh_isBuilder 76 5 w), below_box w _⟩
  case round =>
    obtain ⟨k, hk, rfl, HW, HB⟩ := hrel
    have hwr : w.heap.size ≤ wr.heap.size := HB.out.size
    by_cases hlt : k < n
    · have hx : k < xs.length := by rw [HN.out]; exact hlt
      obtain ⟨bb, off, rfl, hbb, hcell⟩ := (H.out.below (HB.out.mono hB)) (by omega)
      have h1 := hcell k hx
      have HK := Lib.hid (line_cells xs b k hx)
      obtain ⟨x, hxx⟩ : ∃ x, xs[k]?.getD 0 = x := ⟨_, rfl⟩
      rw [hxx] at h1 HK
      have hk0 : (0 : Int) ≤ (k : Int) := Int.natCast_nonneg _
      have hk1 : (k : Int) < (n : Int) := by omega
      have hb0 : (0 : Int) ≤ (b : Int) := Int.natCast_nonneg _
      have hb1 : (b : Int) < 12 := by omega
      clear hcell hxx hx H hbb
      cases hd : (bits .and .i64 (x / 2 ^ b) 1 == 1)
      · have HK1 := Lib.hid (HK.out 46 (by rw [dotC, dotB, hd]; rfl))
        have HWB := Lib.hid (Try.Builder_WriteByte_k w.heap.size w.heap.size _ 46 wr HW.out (by rw [Lib.byteCells_length, lineL_length, List.length_take]; omega) hwr)
        go_wp2_with (go_at_call 44; refine HWB.out.mono ?_; rintro e w1 ⟨rfl, hI, hbb, _⟩; have HW1 : Hid (Lib.IsBuilderF 76 5 w.heap.size w.heap.size (Lib.byteCells (lineL (xs.take (k + 1)) b)) w1) := (by rw [HK1.out]; exact Or.inr hI); have HB1 := Lib.hid (HB.out.trans hbb); clear hI hbb)
        go_roundw
        case rel => exact ⟨k + 1, by omega, by go_num, HW1, HB1⟩
        case measure => simp [intOf]; omega
      · have HK1 := Lib.hid (HK.out 111 (by rw [dotC, dotB, hd]; rfl))
        have HWB := Lib.hid (Try.Builder_WriteByte_k w.heap.size w.heap.size _ 111 wr HW.out (by rw [Lib.byteCells_length, lineL_length, List.length_take]; omega) hwr)
        go_wp2_with (go_at_call 44; refine HWB.out.mono ?_; rintro e w1 ⟨rfl, hI, hbb, _⟩; have HW1 : Hid (Lib.IsBuilderF 76 5 w.heap.size w.heap.size (Lib.byteCells (lineL (xs.take (k + 1)) b)) w1) := (by rw [HK1.out]; exact Or.inr hI); have HB1 := Lib.hid (HB.out.trans hbb); clear hI hbb)
        go_roundw
        case rel => exact ⟨k + 1, by omega, by go_num, HW1, HB1⟩
        case measure => simp [intOf]; omega
    · have hkn : k = n := by omega
      have hk1 : ¬ (k : Int) < (n : Int) := by omega
      have htk : xs.take k = xs := List.take_of_length_le (by rw [HN.out]; omega)
      have hw := HW.out
      rw [htk] at hw
      have HST := Lib.hid (Try.Builder_String_any_k w.heap.size w.heap.size _ wr hw hwr)
      obtain rfl : s = lineS xs b := HS.out.symm
      have HF := Lib.hid HB.out
      clear hkn htk HW hw HS HB
      go_wp2_with (go_at_call 45; refine HST.out.mono ?_; rintro e w1 ⟨rfl, _, hbb, _⟩; have HB1 := Lib.hid (HF.out.trans hbb); clear hbb)
      go_ret
      exact ⟨rfl, HB1.out⟩

/-- the twelve lines of a card -/
def picTo (xs : List Int) (k : Nat) : List ByteArray := (List.range k).map fun b => lineS xs b
theorem picTo_length (xs : List Int) (k : Nat) : (picTo xs k).length = k := by simp [picTo]
theorem picTo_step (xs : List Int) (k : Nat) : picTo xs (k + 1) = picTo xs k ++ [lineS xs k] := by simp [picTo, List.range_succ]

/-- A list of texts of new memory, and OK. -/
def GivesTexts0 (ss : List ByteArray) (w : World) (e : Ending) (w' : World) : Prop :=
  ∃ g cap, e = .returned (.tuple #[.slice (some ⟨g, 0, none⟩) ss.length cap, .int .i64 0]) ∧ w.heap.size ≤ g ∧ Below w.heap.size w w' ∧ w'.ownsRow w.heap.size 9 1 (.slice (some ⟨g, 0, none⟩) ss.length cap) ss.length (txts ss)
/-- No list, and a code. -/
def GivesNoTexts (a : Int) (w : World) (e : Ending) (w' : World) : Prop :=
  e = .returned (.tuple #[.slice none 0 0, .int .i64 a]) ∧ Below w.heap.size w w'

theorem specPic_bad (A : Option Addr) (c : Nat) (xs : List Int) (B : Nat) (w : World) (h : Ints w B A xs) (hB : B ≤ w.heap.size) (hn : xs.length ≤ 1048576) (hv : okB xs = false) :
    Calls Try.prog 7 #[.agg #[.slice A xs.length c]] w (GivesNoTexts 1 w) := by
  have hok := l02Ok_any A c xs B w.heap.size 0 (w.alloc (.cells #[.slice A xs.length c] 29)) (by simp) (h.alloc hB _) hn
  rw [hv] at hok
  have HO := Lib.hid hok
  clear hok hv h hn
  go_enter Try.func7, Try.ntmps7
  go_wp2_with (go_at_call 24; refine HO.out.mono ?_; rintro e w' ⟨rfl, rfl⟩)
  go_ret2
  exact ⟨rfl, below_box w _⟩

theorem implPic_bad (A : Option Addr) (c : Nat) (xs : List Int) (B : Nat) (w : World) (h : Ints w B A xs) (hB : B ≤ w.heap.size) (hn : xs.length ≤ 1048576) (hv : okB xs = false) :
    Calls Try.prog 9 #[.agg #[.slice A xs.length c]] w (GivesNoTexts 1 w) := by
  have hok := implValidCard_any A c xs B (w.alloc (.cells #[.slice A xs.length c] 29)) (h.alloc hB _) (by simp; omega) hn
  rw [hv] at hok
  have HO := Lib.hid hok
  clear hok hv h hn
  go_enter Try.func9, Try.ntmps9
  go_wp2_with fail
  refine HO.out.mono ?_
  rintro e w1 ⟨rfl, hb⟩
  have B1 := Lib.hid (below_step (below_box w _) hb)
  clear hb
  go_wp2
  go_ret2
  exact ⟨rfl, B1.out⟩

/-- What an append of one byte leaves. -/
theorem own_dot {w w' : World} {base : Nat} {v v' : Value} {bs : List Value} {n : Nat} {x : Int} {W : World} {B : Nat}
    (hown : w'.ownsRow base 5 1 v' (n + 1) (bs ++ [.int .u8 x])) (hgrow : (w.alloc (.cells #[.int .u8 x] 5)).grownBy w' v.ownBlock)
    (hold : w.ownsRow base 5 1 v n bs) (hb : Below B W w) (hB : B ≤ base) (hs : B ≤ w.heap.size) :
    w'.ownsRow base 5 1 v' (n + 1) (bs ++ [.int .u8 x]) ∧ Below B W w' :=
  ⟨hown, (hb.alloc hs _).grown hgrow (by simp; omega) (fun k hk => Nat.le_trans hB (hold.lt k hk).1)⟩
theorem info_dot : (Try.prog.info? 5).map (fun i => (i.zero, i.size, i.bytes)) = some (some (.int .u8 0), 1, 1) := by kernel_rfl
theorem own_lineS {w : World} {base : Nat} {v : Value} {l : List UInt8} (h : w.ownsRow base 5 1 v l.length (Lib.byteCells l)) (h0 : 0 < l.length) :
    (convert 36 9 v).run Try.prog w = .ok (.string ⟨l.toArray⟩) w := by
  rcases h.2 with ⟨_, hz⟩ | ⟨g, cap, cur, rfl, hb, hg, hr⟩
  · omega
  · refine run_convert_bytes_back w 36 9 5 ⟨g, 0, none⟩ cap l Try.underlying36 Try.underlying5 Try.underlying9 (fun j hj => ?_)
    have := h.cells (g := g) rfl j (.int .u8 l[j].toNat) (by simp [Lib.byteCells, hj])
    simpa [Addr.add] using this
/-- a row of the call's own that other new memory leaves as it is -/
theorem own_keep {w w' : World} {base n size : Nat} {e : TypeId} {v : Value} {xs : List Value} (h : w.ownsRow base e size v n xs) (hb : Below w.heap.size w w') : w'.ownsRow base e size v n xs := by
  refine ⟨h.1, ?_⟩
  rcases h.2 with h0 | ⟨g, cap, cur, hv, hg, hh, rest⟩
  · exact Or.inl h0
  · refine Or.inr ⟨g, cap, cur, hv, hg, ?_, rest⟩
    have hlt : g < w.heap.size := by
      rcases Nat.lt_or_ge g w.heap.size with h' | h'
      · exact h'
      · rw [Array.getElem?_eq_none h'] at hh; cases hh
    rw [hb.block g hlt]
    exact hh

set_option maxRecDepth 100000 in
set_option maxHeartbeats 2000000 in
theorem specPic_good (A : Option Addr) (c : Nat) (xs : List Int) (B : Nat) (w : World) (h : Ints w B A xs) (hB : B ≤ w.heap.size) (hn : xs.length ≤ 1048576) (hv : okB xs = true) :
    Calls Try.prog 7 #[.agg #[.slice A xs.length c]] w (GivesTexts0 (picTo xs 12) w) := by
  obtain ⟨i0, hi0, hz0, hz1, hz2⟩ := info_parts info_str
  obtain ⟨j0, hj0, hy0, hy1, hy2⟩ := info_parts info_dot
  have hok := l02Ok_any A c xs B w.heap.size 0 (w.alloc (.cells #[.slice A xs.length c] 29)) (by simp) (h.alloc hB _) hn
  rw [hv] at hok
  have hpos : 0 < xs.length := by
    rcases Nat.eq_zero_or_pos xs.length with h0 | h0
    · have : xs = [] := List.eq_nil_of_length_eq_zero h0
      subst this
      cases hv
    · exact h0
  obtain ⟨n, hN⟩ : ∃ n, xs.length = n := ⟨_, rfl⟩
  rw [hN] at hok hn hpos ⊢
  have HO := Lib.hid hok
  have HN := Lib.hid hN
  have H0 := Lib.hid h
  have hBs : B ≤ w.heap.size + 1 := by omega
  clear hok hv h hN
  go_enter Try.func7, Try.ntmps7
  go_wp2_with (go_at_call 24; refine HO.out.mono ?_; rintro e w' ⟨rfl, rfl⟩)
  clear HO
  go_loopw [4, 5] (fun v i wr => ∃ k : Nat, ∃ vv : Value, k ≤ 12 ∧ i = .int .u64 k ∧ vv = v ∧ Hid (wr.ownsRow (w.heap.size + 1) 9 1 v (picTo xs k).length (txts (picTo xs k))) ∧ Hid (Below (w.heap.size + 1) (w.alloc (.cells #[.slice A n c] 29)) wr)) (fun _ i _ => 12 - (intOf i).toNat)
  case atStart =>
    refine ⟨0, _, Nat.zero_le _, rfl, rfl, ?_, ?_⟩
    · exact ⟨rfl, Or.inr ⟨w.heap.size + 1, 0, #[], rfl, Nat.le_refl _, by have := heap_alloc_new (w.alloc (.cells #[.slice A n c] 29)) (.cells #[] 9); simpa using this, Nat.le_refl _, Nat.zero_le _, rfl, rfl⟩⟩
    · exact (Below.refl _ _).alloc (by simp) _
  case round =>
    obtain ⟨k, vv, hk, rfl, rfl, HW, HB⟩ := hrel
    obtain ⟨wo, rfl⟩ : ∃ wo : World, wo = wr := ⟨_, rfl⟩
    have hwo : w.heap.size + 1 ≤ wo.heap.size := by have := HB.out.size; simpa using this
    have HH := Lib.hid ((H0.out.alloc hB (.cells #[.slice A n c] 29)).below (HB.out.mono hBs))
    have HPO : Hid (wo.cell? ⟨w.heap.size, 0, none⟩ = some (.slice A n c)) := by
      show _ = _
      rw [HB.out.cell (p := ⟨w.heap.size, 0, none⟩) (by simp)]
      simp
    by_cases hlt : k < 12
    · have hk12 : (k : Int) < 12 := by omega
      have hk0 : (0 : Int) ≤ (k : Int) := Int.natCast_nonneg _
      have hlen : (picTo xs k).length ≤ 12 := by rw [picTo_length]; omega
      obtain ⟨ps, hps⟩ : ∃ ps, picTo xs k = ps := ⟨_, rfl⟩
      have HPS := Lib.hid hps
      rw [hps] at HW hlen
      clear hps
      go_wp2
      go_loopw [6, 7] (fun u i wr => ∃ t : Nat, ∃ uu : Value, t ≤ n ∧ i = .int .i64 t ∧ uu = u ∧ Hid (wr.ownsRow wo.heap.size 5 1 u t (Lib.byteCells (lineL (xs.take t) k))) ∧ Hid (Below wo.heap.size wo wr)) (fun _ i _ => n - (intOf i).toNat)
      case atStart =>
        refine ⟨0, _, Nat.zero_le _, rfl, rfl, ?_, below_box wo _⟩
        exact ⟨rfl, Or.inr ⟨wo.heap.size, 0, #[], rfl, Nat.le_refl _, heap_alloc_new wo _, Nat.le_refl _, Nat.zero_le _, rfl, rfl⟩⟩
      case round =>
        obtain ⟨t, uu, ht, rfl, rfl, HV, HI⟩ := hrel
        have hwr2 : wo.heap.size ≤ wr.heap.size := HI.out.size
        have pc := cell_kept HPO.out HI.out
        by_cases htn : t < n
        · have hx : t < xs.length := by rw [HN.out]; exact htn
          obtain ⟨bb, off, rfl, hbb, hcell⟩ := (HH.out.below (HI.out.mono (by omega))) (by omega)
          have h1 := hcell t hx
          have HK := Lib.hid (line_cells xs k t hx)
          obtain ⟨x, hxx⟩ : ∃ x, xs[t]?.getD 0 = x := ⟨_, rfl⟩
          rw [hxx] at h1 HK
          have ht0 : (0 : Int) ≤ (t : Int) := Int.natCast_nonneg _
          have ht1 : (t : Int) < (n : Int) := by omega
          clear hcell hxx hx hbb
          cases hd : (bits .and .i64 (x / 2 ^ k) 1 == 1)
          · have HK1 := Lib.hid (HK.out 46 (by rw [dotC, dotB, hd]; rfl))
            go_wp2_with (at_builtin; refine wpList_append_own _ rfl _ _ 36 rfl wo.heap.size 5 j0 (.int .u8 0) 1 1 Try.underlying36 hj0 hy0 hy1 hy2 rfl (by decide) _ _ _ rfl (HV.out.alloc _) ⟨wr.heap.size, 0, none⟩ 1 1 [.int .u8 46] rfl rfl ?c1 ?c2 ?c3 ?c4 ?c5 ?_; rotate_left 5; intro v' w1 hown hgrow _; obtain ⟨ho, hbb⟩ := own_dot hown hgrow HV.out HI.out (Nat.le_refl _) hwr2; rw [← HK1.out] at ho; have HV1 := Lib.hid ho; have HI1 := Lib.hid hbb; clear hown hgrow ho hbb)
            case c1 =>
              intro j u hj
              match j, hj with
              | 0, hj => simp at hj; subst hj; simp [Addr.add]
            case c2 => intro u hu; simp at hu; subst hu; rfl
            case c3 => unfold maxLen; omega
            case c4 => omega
            case c5 => first | omega | (simp; omega)
            go_roundw
            case rel => exact ⟨t + 1, _, by omega, by go_num, rfl, HV1, HI1⟩
            case measure => simp [intOf]; omega
          · have HK1 := Lib.hid (HK.out 111 (by rw [dotC, dotB, hd]; rfl))
            go_wp2_with (at_builtin; refine wpList_append_own _ rfl _ _ 36 rfl wo.heap.size 5 j0 (.int .u8 0) 1 1 Try.underlying36 hj0 hy0 hy1 hy2 rfl (by decide) _ _ _ rfl (HV.out.alloc _) ⟨wr.heap.size, 0, none⟩ 1 1 [.int .u8 111] rfl rfl ?d1 ?d2 ?d3 ?d4 ?d5 ?_; rotate_left 5; intro v' w1 hown hgrow _; obtain ⟨ho, hbb⟩ := own_dot hown hgrow HV.out HI.out (Nat.le_refl _) hwr2; rw [← HK1.out] at ho; have HV1 := Lib.hid ho; have HI1 := Lib.hid hbb; clear hown hgrow ho hbb)
            case d1 =>
              intro j u hj
              match j, hj with
              | 0, hj => simp at hj; subst hj; simp [Addr.add]
            case d2 => intro u hu; simp at hu; subst hu; rfl
            case d3 => unfold maxLen; omega
            case d4 => omega
            case d5 => first | omega | (simp; omega)
            go_roundw
            case rel => exact ⟨t + 1, _, by omega, by go_num, rfl, HV1, HI1⟩
            case measure => simp [intOf]; omega
        · have htn' : t = n := by omega
          have ht1 : ¬ (t : Int) < (n : Int) := by omega
          have htk : xs.take t = xs := List.take_of_length_le (by rw [HN.out]; omega)
          have hstr : (convert 36 9 uu).run Try.prog wr = .ok (.string (lineS xs k)) wr := by
            have hv := HV.out
            rw [htk, htn', ← HN.out, ← lineL_length xs k] at hv
            exact own_lineS hv (by rw [lineL_length, HN.out]; exact hpos)
          have HW2 := Lib.hid (own_keep HW.out HI.out)
          have HB2 : Hid (Below (w.heap.size + 1) (w.alloc (.cells #[.slice A n c] 29)) wr) := HB.out.trans (HI.out.mono hwo)
          have HL1 : Hid (picTo xs (k + 1) = ps ++ [lineS xs k]) := by
            show _ = _
            rw [picTo_step, HPS.out]
          have hwr3 : w.heap.size + 1 ≤ wr.heap.size := by omega
          obtain ⟨s, hs⟩ : ∃ s, lineS xs k = s := ⟨_, rfl⟩
          rw [hs] at hstr HL1
          clear htn' htk HV HW HB HH hs
          go_wp2_with (at_builtin; refine wpList_append_own _ rfl _ _ 26 rfl (w.heap.size + 1) 9 i0 (.string ⟨#[]⟩) 1 16 Try.underlying26 hi0 hz0 hz1 hz2 rfl (by decide) _ _ _ rfl (HW2.out.alloc _) ⟨wr.heap.size, 0, none⟩ 1 1 [.string s] rfl rfl ?e1 ?e2 ?e3 ?e4 ?e5 ?_; rotate_left 5; intro v' w1 hown hgrow _; obtain ⟨ho, hbb⟩ := own_text hown hgrow HW2.out HB2.out (Nat.le_refl _) hwr3; rw [← HL1.out] at ho; have HW3 := Lib.hid ho; have HB3 := Lib.hid hbb; clear hown hgrow ho hbb)
          case e2 => first | rfl | (intro u hu; simp at hu; subst hu; rfl)
          case e3 => unfold maxLen; omega
          case e4 => omega
          case e5 => first | omega | (simp; omega)
          go_roundw
          case rel => exact ⟨k + 1, _, by omega, by go_num, rfl, HW3, HB3⟩
          case measure => simp [intOf]; omega
    · obtain rfl : k = 12 := by omega
      have hown := HW.out
      obtain ⟨g, cap, hv, hg⟩ := own_shape HW.out (by rw [picTo_length]; omega)
      subst hv
      have HW3 := Lib.hid hown
      clear hown HW
      go_wp2
      go_ret2
      refine ⟨g, cap, rfl, by omega, below_step (below_box w _) (HB.out.mono (by simp)), ?_⟩
      exact ⟨HW3.out.1, HW3.out.2.imp id (fun ⟨g', cap', cur, hv, hg', rest⟩ => ⟨g', cap', cur, hv, by omega, rest⟩)⟩
end Go.Proofs.Ytmibkaldeickdab
