/- spec.l01Dec and spec.Decimal answer the decimal form of a number, for every int64: contracts. -/
import Derived.Test.YtamookdlbmbncaaDoorMem
import Derived.Lib.ItoaMem
import Derived.Shelf.Strings.BuilderK
import Derived.Laws.IdiomStrings
import Derived.Laws.AppendOwn
import Derived.Laws.Concat
import Derived.Outline
namespace Go.Proofs.YtamookdlbmbncaaDoor
open Go.ChangeShapes Go.WideShapes Go.ChangeAt Go.RowKit

/-- the digits of a number, none for 0 -/
def dz (q : Nat) : List UInt8 := if q = 0 then [] else Lib.decDigits q
theorem dz_zero : dz 0 = [] := rfl
theorem dz_pos {q : Nat} (h : 0 < q) : dz q = Lib.decDigits q := by rw [dz, if_neg (by omega)]
theorem dz_step {q : Nat} (h : 0 < q) : dz q = dz (q / 10) ++ [UInt8.ofNat (48 + q % 10)] := by
  rw [dz_pos h]
  by_cases h9 : q < 10
  · rw [Lib.decDigits_one h9, show q / 10 = 0 by omega, show q % 10 = q by omega, dz_zero]
    rfl
  · rw [Lib.decDigits, dif_neg h9, dz_pos (by omega)]
theorem dz_length (q : Nat) (h : q < 18446744073709551616) : (dz q).length ≤ 20 := by
  by_cases h0 : q = 0
  · subst h0
    simp [dz_zero]
  · rw [dz_pos (by omega), Lib.decDigits_length]
    have := Lib.numDigits_eq q (by omega) h
    split at this <;> omega

theorem info_u8 : (Tryd.prog.info? 5).map (fun i => (i.zero, i.size, i.bytes)) = some (some (.int .u8 0), 1, 1) := by kernel_rfl

theorem own_at {w : World} {base : Nat} {v : Value} {l : List UInt8} (h : w.ownsRow base 5 1 v l.length (Lib.byteCells l)) (h0 : 0 < l.length) :
    ∃ g cap, v = .slice (some ⟨g, 0, none⟩) l.length cap := by
  rcases h.2 with ⟨_, hz⟩ | ⟨g, cap, cur, rfl, hb, hg, hr⟩
  · omega
  · exact ⟨g, cap, rfl⟩
theorem own_conv {w : World} {base : Nat} {v : Value} {l : List UInt8} (h : w.ownsRow base 5 1 v l.length (Lib.byteCells l)) (h0 : 0 < l.length) :
    (convert 104 9 v).run Tryd.prog w = .ok (.string ⟨l.toArray⟩) w := by
  rcases h.2 with ⟨_, hz⟩ | ⟨g, cap, cur, rfl, hb, hg, hr⟩
  · omega
  · refine run_convert_bytes_back w 104 9 5 ⟨g, 0, none⟩ cap l Tryd.underlying104 Tryd.underlying5 Tryd.underlying9 (fun j hj => ?_)
    have := h.cells (g := g) rfl j (.int .u8 l[j].toNat) (by simp [Lib.byteCells, hj])
    simpa [Addr.add] using this
theorem own_src {w : World} {base g cap : Nat} {l : List UInt8} (h : w.ownsRow base 5 1 (.slice (some ⟨g, 0, none⟩) l.length cap) l.length (Lib.byteCells l)) (o : Obj) :
    ∀ j u, (Lib.byteCells l)[j]? = some u → (w.alloc o).cell? ((⟨g, 0, none⟩ : Addr).add j) = some u := fun j u hj => by
  have hc := h.cells (g := g) rfl j u hj
  rw [World.cell?_alloc_lt _ _ _ (World.block_lt_of_cell? _ _ hc)]
  exact hc
theorem bytes_one (l : List UInt8) : ∀ u ∈ Lib.byteCells l, u.oneCell' = true := by
  intro u hu
  simp [Lib.byteCells] at hu
  obtain ⟨c, _, rfl⟩ := hu
  rfl
/-- a byte and what a slice holds -/
theorem own_front {W w w2 : World} {base : Nat} {v' : Value} {x : Int} {l : List UInt8} (c : UInt8) (hc : (c.toNat : Int) = x)
    (hown : w2.ownsRow base 5 1 v' (1 + l.length) ([.int .u8 x] ++ Lib.byteCells l)) (hgrow : (w.alloc (.cells #[.int .u8 x] 5)).grownBy w2 (some w.heap.size))
    (hb : Below base W w) (hs : base ≤ w.heap.size) :
    w2.ownsRow base 5 1 v' (c :: l).length (Lib.byteCells (c :: l)) ∧ Below base W w2 := by
  refine ⟨?_, (hb.alloc hs _).grown hgrow (by simp; omega) (fun k hk => by injection hk with hk; omega)⟩
  have e : Lib.byteCells (c :: l) = [Value.int .u8 x] ++ Lib.byteCells l := by simp [Lib.byteCells, hc]
  rw [e, List.length_cons, Nat.add_comm]
  exact hown
theorem own_one (wr : World) (base : Nat) (h : base ≤ wr.heap.size) (x : Int) : (wr.alloc (.cells #[.int .u8 x] 5)).ownsRow base 5 1 (.slice (some ⟨wr.heap.size, 0, none⟩) 1 1) 1 [.int .u8 x] :=
  ⟨rfl, Or.inr ⟨wr.heap.size, 1, #[.int .u8 x], rfl, h, heap_alloc_new wr _, Nat.le_refl _, by unfold maxLen; omega, rfl, rfl⟩⟩

set_option maxRecDepth 100000 in
set_option maxHeartbeats 1000000 in
theorem l01Dec_pos (u : Nat) (hu : u < 9223372036854775808) (w : World) :
    Calls Tryd.prog 67 #[.int .i64 (u : Int)] w fun e w' => e = .returned (.string ⟨(Lib.itoa (u : Int)).toArray⟩) ∧ Below w.heap.size w w' := by
  obtain ⟨s, hs⟩ : ∃ s : ByteArray, (⟨(Lib.itoa (u : Int)).toArray⟩ : ByteArray) = s := ⟨_, rfl⟩
  rw [hs]
  have HS := Lib.hid hs
  clear hs
  obtain ⟨i0, hi0, hz0, hz1, hz2⟩ := info_parts info_u8
  go_enter Tryd.func67, Tryd.ntmps67
  go_wp2
  go_loopw [3, 4] (fun v i wr => ∃ q : Nat, ∃ l : List UInt8, ∃ vv : Value, q ≤ u ∧ i = .int .i64 (q : Int) ∧ vv = v ∧ Hid (dz q ++ l = dz u) ∧ Hid (∃ g cap, v = .slice (some ⟨g, 0, none⟩) l.length cap) ∧ Hid (wr.ownsRow w.heap.size 5 1 v l.length (Lib.byteCells l)) ∧ Hid (Below w.heap.size w wr)) (fun _ i _ => (intOf i).natAbs)
  case atStart =>
    refine ⟨u, [], _, Nat.le_refl _, rfl, rfl, by simp [Hid], ⟨w.heap.size, 0, rfl⟩, ?_, below_box w _⟩
    exact ⟨rfl, Or.inr ⟨w.heap.size, 0, #[], rfl, Nat.le_refl _, heap_alloc_new w _, Nat.le_refl _, Nat.zero_le _, rfl, rfl⟩⟩
  case round =>
    obtain ⟨q, l, vv, hq, rfl, rfl, HD, HV, HW, HB⟩ := hrel
    have hwr : w.heap.size ≤ wr.heap.size := HB.out.size
    have hll : l.length ≤ 20 := by
      have e := congrArg List.length HD.out
      have := dz_length u (by omega)
      rw [List.length_append] at e
      omega
    by_cases hpos : 0 < q
    · obtain ⟨g, cap, hv⟩ := HV.out
      have HD1 : Hid (dz (q / 10) ++ (UInt8.ofNat (48 + q % 10) :: l) = dz u) := by
        show _ = _
        rw [← HD.out, dz_step hpos, List.append_assoc]
        rfl
      obtain ⟨d, hd⟩ : ∃ d, q % 10 = d := ⟨_, rfl⟩
      obtain ⟨t, ht⟩ : ∃ t, q / 10 = t := ⟨_, rfl⟩
      have e1 : (q : Int).tmod 10 = (d : Int) := by rw [← hd]; rfl
      have e2 : (q : Int).tdiv 10 = (t : Int) := by rw [← ht]; rfl
      have e3 : (q : Int) % 10 = (d : Int) := by rw [← hd]; rfl
      have e4 : (q : Int) / 10 = (t : Int) := by rw [← ht]; rfl
      have hd9 : d ≤ 9 := by omega
      have htq : t < q := by omega
      have hne : ((q : Int) != 0) = true := bne_iff_ne.2 (by omega)
      rw [hd, ht] at HD1
      have hc : ((UInt8.ofNat (48 + d)).toNat : Int) = 48 + (d : Int) := by rw [UInt8.toNat_ofNat']; omega
      have HC := Lib.hid hc
      have hd0 : ¬ (d : Int) < 0 := by omega
      subst hv
      have hsrc := own_src HW.out (.cells #[.int .u8 (48 + (d : Int))] 5)
      have HSRC := Lib.hid hsrc
      have HONE := Lib.hid (own_one wr w.heap.size hwr (48 + (d : Int)))
      clear hd ht hc hsrc HV HD
      go_wp2_with (at_builtin; refine wpList_append_own _ rfl _ _ 104 rfl w.heap.size 5 i0 (.int .u8 0) 1 1 Tryd.underlying104 hi0 hz0 hz1 hz2 rfl (by decide) _ _ _ rfl HONE.out ⟨g, 0, none⟩ l.length cap (Lib.byteCells l) rfl ?c1 ?c2 ?c3 ?c4 ?c5 ?c6 ?_; rotate_left 6; intro v' w1 hown hgrow _; obtain ⟨ho, hbb⟩ := own_front (UInt8.ofNat (48 + d)) HC.out hown hgrow HB.out hwr; have HW1 := Lib.hid ho; have HB1 := Lib.hid hbb; clear hown hgrow ho hbb)
      case c1 => simp [Lib.byteCells_length]
      case c2 => (intro j u hj; have h := HSRC.out j u hj; first | exact h | (rw [Lib.add_plain, Nat.zero_add] at h; exact h))
      case c3 => exact bytes_one l
      case c4 => unfold maxLen; omega
      case c5 => omega
      case c6 => first | omega | (simp; omega)
      go_roundw
      case rel => exact ⟨t, _, _, by omega, by go_num, rfl, HD1, own_at HW1.out (by simp), HW1, HB1⟩
      case measure => simp [intOf]; omega
    · obtain rfl : q = 0 := by omega
      obtain ⟨g, cap, hv⟩ := HV.out
      have hl : l = dz u := by have := HD.out; rw [dz_zero, List.nil_append] at this; exact this
      have hn : ¬ (u : Int) < 0 := by omega
      by_cases hu0 : u = 0
      · subst hu0
        obtain rfl : l = [] := by rw [hl]; rfl
        obtain rfl : s = ⟨#[48]⟩ := by rw [← HS.out]; decide +kernel
        subst hv
        clear hl HD HV HW HS
        go_wp2
        go_ret
        exact ⟨rfl, HB.out⟩
      · have hl' : l = Lib.decDigits u := by rw [hl, dz_pos (by omega)]
        have hlp : 0 < l.length := by rw [hl', Lib.decDigits_length, Lib.nDigits]; split <;> omega
        have hconv := own_conv HW.out hlp
        have hlz : ((l.length : Int) == 0) = false := beq_eq_false_iff_ne.2 (by omega)
        obtain rfl : s = ⟨l.toArray⟩ := by rw [← HS.out, hl', Lib.itoa_nonneg]
        subst hv
        clear hl hl' HD HV HW HS
        go_wp2
        go_ret
        exact ⟨rfl, HB.out⟩

set_option maxRecDepth 100000 in
set_option maxHeartbeats 1000000 in
theorem l01Dec_neg (u : Nat) (hu : u < 9223372036854775809) (h0 : 0 < u) (w : World) :
    Calls Tryd.prog 67 #[.int .i64 (-(u : Int))] w fun e w' => e = .returned (.string ⟨(Lib.itoa (-(u : Int))).toArray⟩) ∧ Below w.heap.size w w' := by
  obtain ⟨s, hs⟩ : ∃ s : ByteArray, (⟨(Lib.itoa (-(u : Int))).toArray⟩ : ByteArray) = s := ⟨_, rfl⟩
  rw [hs]
  have HS := Lib.hid hs
  clear hs
  obtain ⟨i0, hi0, hz0, hz1, hz2⟩ := info_parts info_u8
  go_enter Tryd.func67, Tryd.ntmps67
  go_wp2
  go_loopw [3, 4] (fun v i wr => ∃ q : Nat, ∃ l : List UInt8, ∃ vv : Value, q ≤ u ∧ i = .int .i64 (-(q : Int)) ∧ vv = v ∧ Hid (dz q ++ l = dz u) ∧ Hid (∃ g cap, v = .slice (some ⟨g, 0, none⟩) l.length cap) ∧ Hid (wr.ownsRow w.heap.size 5 1 v l.length (Lib.byteCells l)) ∧ Hid (Below w.heap.size w wr)) (fun _ i _ => (intOf i).natAbs)
  case atStart =>
    refine ⟨u, [], _, Nat.le_refl _, rfl, rfl, by simp [Hid], ⟨w.heap.size, 0, rfl⟩, ?_, below_box w _⟩
    exact ⟨rfl, Or.inr ⟨w.heap.size, 0, #[], rfl, Nat.le_refl _, heap_alloc_new w _, Nat.le_refl _, Nat.zero_le _, rfl, rfl⟩⟩
  case round =>
    obtain ⟨q, l, vv, hq, rfl, rfl, HD, HV, HW, HB⟩ := hrel
    have hwr : w.heap.size ≤ wr.heap.size := HB.out.size
    have hll : l.length ≤ 20 := by
      have e := congrArg List.length HD.out
      have := dz_length u (by omega)
      rw [List.length_append] at e
      omega
    by_cases hpos : 0 < q
    · obtain ⟨g, cap, hv⟩ := HV.out
      have HD1 : Hid (dz (q / 10) ++ (UInt8.ofNat (48 + q % 10) :: l) = dz u) := by
        show _ = _
        rw [← HD.out, dz_step hpos, List.append_assoc]
        rfl
      obtain ⟨d, hd⟩ : ∃ d, q % 10 = d := ⟨_, rfl⟩
      obtain ⟨t, ht⟩ : ∃ t, q / 10 = t := ⟨_, rfl⟩
      have e1 : (-(q : Int)).tmod 10 = -(d : Int) := by rw [Int.neg_tmod, ← hd]; rfl
      have e2 : (-(q : Int)).tdiv 10 = -(t : Int) := by rw [Int.neg_tdiv, ← ht]; rfl
      have hd9 : d ≤ 9 := by omega
      have htq : t < q := by omega
      have hne : ((-(q : Int)) != 0) = true := bne_iff_ne.2 (by omega)
      rw [hd, ht] at HD1
      have hc : ((UInt8.ofNat (48 + d)).toNat : Int) = 48 + (d : Int) := by rw [UInt8.toNat_ofNat']; omega
      have HC := Lib.hid hc
      subst hv
      have hsrc := own_src HW.out (.cells #[.int .u8 (48 + (d : Int))] 5)
      have HSRC := Lib.hid hsrc
      have HONE := Lib.hid (own_one wr w.heap.size hwr (48 + (d : Int)))
      clear hd ht hc hsrc HV HD
      by_cases hdz : d = 0
      · have hdn : ¬ -(d : Int) < 0 := by omega
        have HC := Lib.hid (show ((UInt8.ofNat (48 + d)).toNat : Int) = 48 + -(d : Int) by rw [HC.out]; omega)
        have HSRC := Lib.hid (own_src HW.out (.cells #[.int .u8 (48 + -(d : Int))] 5))
        have HONE := Lib.hid (own_one wr w.heap.size hwr (48 + -(d : Int)))
        have hd48 : 0 ≤ 48 + -(d : Int) := by omega
        clear hdz
        go_wp2_with (at_builtin; refine wpList_append_own _ rfl _ _ 104 rfl w.heap.size 5 i0 (.int .u8 0) 1 1 Tryd.underlying104 hi0 hz0 hz1 hz2 rfl (by decide) _ _ _ rfl HONE.out ⟨g, 0, none⟩ l.length cap (Lib.byteCells l) rfl ?c1a ?c2a ?c3a ?c4a ?c5a ?c6a ?_; rotate_left 6; intro v' w1 hown hgrow _; obtain ⟨ho, hbb⟩ := own_front (UInt8.ofNat (48 + d)) HC.out hown hgrow HB.out hwr; have HW1 := Lib.hid ho; have HB1 := Lib.hid hbb; clear hown hgrow ho hbb)
        case c1a => simp [Lib.byteCells_length]
        case c2a => (intro j u hj; have h := HSRC.out j u hj; first | exact h | (rw [Lib.add_plain, Nat.zero_add] at h; exact h))
        case c3a => exact bytes_one l
        case c4a => unfold maxLen; omega
        case c5a => omega
        case c6a => first | omega | (simp; omega)
        go_roundw
        case rel => exact ⟨t, _, _, by omega, by go_num, rfl, HD1, own_at HW1.out (by simp), HW1, HB1⟩
        case measure => simp [intOf]; omega
      · have hdn : -(d : Int) < 0 := by omega
        go_wp2_with (at_builtin; refine wpList_append_own _ rfl _ _ 104 rfl w.heap.size 5 i0 (.int .u8 0) 1 1 Tryd.underlying104 hi0 hz0 hz1 hz2 rfl (by decide) _ _ _ rfl HONE.out ⟨g, 0, none⟩ l.length cap (Lib.byteCells l) rfl ?c1b ?c2b ?c3b ?c4b ?c5b ?c6b ?_; rotate_left 6; intro v' w1 hown hgrow _; obtain ⟨ho, hbb⟩ := own_front (UInt8.ofNat (48 + d)) HC.out hown hgrow HB.out hwr; have HW1 := Lib.hid ho; have HB1 := Lib.hid hbb; clear hown hgrow ho hbb)
        case c1b => simp [Lib.byteCells_length]
        case c2b => (intro j u hj; have h := HSRC.out j u hj; first | exact h | (rw [Lib.add_plain, Nat.zero_add] at h; exact h))
        case c3b => exact bytes_one l
        case c4b => unfold maxLen; omega
        case c5b => omega
        case c6b => first | omega | (simp; omega)
        go_roundw
        case rel => exact ⟨t, _, _, by omega, by go_num, rfl, HD1, own_at HW1.out (by simp), HW1, HB1⟩
        case measure => simp [intOf]; omega
    · obtain rfl : q = 0 := by omega
      have hl : l = Lib.decDigits u := by have := HD.out; rw [dz_zero, List.nil_append, dz_pos h0] at this; exact this
      have hlp : 0 < l.length := by rw [hl, Lib.decDigits_length, Lib.nDigits]; split <;> omega
      have hconv := own_conv HW.out hlp
      have hn : -(u : Int) < 0 := by omega
      have hlz : ((l.length : Int) == 0) = false := beq_eq_false_iff_ne.2 (by omega)
      obtain ⟨g, cap, hv⟩ := HV.out
      have hs1 : (⟨#[45]⟩ : ByteArray).size + (⟨l.toArray⟩ : ByteArray).size ≤ 9223372036854775807 := by show 1 + l.length ≤ _; omega
      have HL : Hid ((⟨#[45]⟩ : ByteArray) ++ (⟨l.toArray⟩ : ByteArray) = s) := by
        show _ = _
        rw [← HS.out, hl, Lib.itoa_neg u h0]
        apply ByteArray.ext
        apply Array.ext'
        simp
      subst hv
      clear hl HD HV HW HS
      go_wp2
      go_ret
      exact ⟨by rw [← HL.out]; rfl, HB.out⟩

theorem l01Dec_any (n : Int) (h0 : -9223372036854775808 ≤ n) (h1 : n ≤ 9223372036854775807) (w : World) :
    Calls Tryd.prog 67 #[.int .i64 n] w fun e w' => e = .returned (.string ⟨(Lib.itoa n).toArray⟩) ∧ Below w.heap.size w w' := by
  by_cases hn : n < 0
  · obtain ⟨u, rfl⟩ : ∃ u : Nat, n = -(u : Int) := ⟨n.natAbs, by omega⟩
    exact l01Dec_neg u (by omega) (by omega) w
  · obtain ⟨u, rfl⟩ : ∃ u : Nat, n = u := ⟨n.natAbs, by omega⟩
    exact l01Dec_pos u (by omega) w

end Go.Proofs.YtamookdlbmbncaaDoor