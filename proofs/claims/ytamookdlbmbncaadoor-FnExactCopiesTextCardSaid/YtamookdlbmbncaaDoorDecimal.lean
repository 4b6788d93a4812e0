/- impl.Decimal answers the decimal form of a number, for every int64: a contract. -/
import Derived.Test.YtamookdlbmbncaaDoorFormat
namespace Go.Proofs.YtamookdlbmbncaaDoor
open Go.ChangeShapes Go.WideShapes Go.ChangeAt Go.RowKit

theorem builder_later {T e : TypeId} {B b : Nat} {bs : List Value} {w w' : World} (h : Lib.IsBuilderF T e B b bs w) (hb : Below w.heap.size w w') : Lib.IsBuilderF T e B b bs w' := by
  have hg : w.grownBy w' none := ⟨hb.os, hb.tape, hb.output, hb.size, fun i hi _ => hb.block i hi⟩
  have one : ∀ p, Lib.BuilderAtF T e B b p bs w → Lib.BuilderAtF T e B b p bs w' := fun p h => by
    have hlt := h.lt
    obtain ⟨hB, v, hbk, hown, hne⟩ := h
    exact ⟨hB, v, (hb.block b hlt).trans hbk, hown.kept hg (by cases hv : v.ownBlock <;> simp), hne⟩
  exact h.elim (fun x => .inl (one _ x)) (fun x => .inr (one _ x))

theorem natAbs_lt (n : Int) (h0 : -9223372036854775808 ≤ n) (h1 : n ≤ 9223372036854775807) : n.natAbs < 18446744073709551616 := by omega

theorem implDecimal_any (n : Int) (h0 : -9223372036854775808 ≤ n) (h1 : n ≤ 9223372036854775807) (w : World) (hP : Pow10 w) :
    Calls Tryd.prog 69 #[.int .i64 n] w fun e w' => e = .returned (.string ⟨(Lib.itoa n).toArray⟩) ∧ Below w.heap.size w w' := by
  have HA := Lib.hid (fun W => absolute_any n h0 h1 W)
  have HF := Lib.hid (fun W hW => formatUint_any n.natAbs (natAbs_lt n h0 h1) W hW)
  have hlen : (Lib.decDigits n.natAbs).length ≤ 20 := by
    by_cases hz : n.natAbs = 0
    · rw [hz]
      decide +kernel
    · rw [Lib.decDigits_length]
      have := Lib.numDigits_eq n.natAbs (by omega) (natAbs_lt n h0 h1)
      split at this <;> omega
  obtain ⟨s, hs⟩ : ∃ s : ByteArray, (⟨(Lib.decDigits n.natAbs).toArray⟩ : ByteArray) = s := ⟨_, rfl⟩
  have hsz : s.size ≤ 20 := by rw [← hs]; exact hlen
  have hsd : s.data.toList = Lib.decDigits n.natAbs := by rw [← hs]
  obtain ⟨k, hk⟩ : ∃ k : Nat, n.natAbs = k := ⟨_, rfl⟩
  rw [hk] at HA HF hsd
  rw [← hk, hs, hk] at HF
  have HP := Lib.hid hP
  have I0 := Lib.hid (Lib.IsBuilderF.of (Lib.fresh_isBuilder 106 5 w))
  by_cases hn : n < 0
  · have hr : Lib.itoa n = 45 :: s.data.toList := by rw [hsd, ← hk, Lib.itoa, if_pos hn]
    rw [hr]
    have HW := Lib.hid (Tryd.Builder_WriteByte_k w.heap.size w.heap.size [] 45 (w.alloc (.cells #[.pointer none, .slice none 0 0] 106)) I0.out (by simp) (by simp))
    clear hP hk hs hsd hr hlen I0
    go_enter Tryd.func69, Tryd.ntmps69
    go_wp2_with fail
    refine HW.out.mono ?_
    rintro e w1 ⟨rfl, hI, hb, _⟩
    have B1 := Lib.hid ((below_box w (.cells #[.pointer none, .slice none 0 0] 106)).trans hb)
    have P1 := Lib.hid (HP.out.below B1.out)
    have I1 := Lib.hid (show Lib.IsBuilderF 106 5 w.heap.size w.heap.size [.int .u8 45] w1 from Or.inr hI)
    clear hI hb HW
    go_wp2_with (go_at_call 61; refine (HA.out _).mono ?_; rintro e w' ⟨rfl, rfl⟩)
    refine (HF.out _ P1.out).mono ?_
    rintro e w2 ⟨rfl, hb⟩
    have B2 := Lib.hid (below_step B1.out hb)
    have I2 := Lib.hid (builder_later I1.out hb)
    have HWS := Lib.hid (Tryd.Builder_WriteString_k w.heap.size w.heap.size _ s w2 I2.out (by simp; omega) B2.out.size)
    clear hb I1 B1 P1
    go_wp2_with fail
    refine HWS.out.mono ?_
    rintro e w3 ⟨rfl, hI, hb, _⟩
    have B3 := Lib.hid (B2.out.trans hb)
    have I3 := Lib.hid (show Lib.IsBuilderF 106 5 w.heap.size w.heap.size (Lib.byteCells (45 :: s.data.toList)) w3 from Or.inr hI)
    have HST := Lib.hid (Tryd.Builder_String_any_k w.heap.size w.heap.size _ w3 I3.out B3.out.size)
    clear hI hb I2 B2 HWS
    go_wp2_with fail
    refine HST.out.mono ?_
    rintro e w4 ⟨rfl, _, hb, _⟩
    have B4 := Lib.hid (B3.out.trans hb)
    clear hb
    go_wp2
    go_ret
    exact ⟨rfl, B4.out⟩
  · have hr : Lib.itoa n = s.data.toList := by
      rw [hsd, ← hk, Lib.itoa, if_neg hn]
      congr 1
      omega
    rw [hr]
    have P1 := Lib.hid (HP.out.below (below_box w (.cells #[.pointer none, .slice none 0 0] 106)))
    have B1 := Lib.hid (below_box w (.cells #[.pointer none, .slice none 0 0] 106))
    clear hP hk hs hsd hr hlen HP
    go_enter Tryd.func69, Tryd.ntmps69
    go_wp2_with (go_at_call 61; refine (HA.out _).mono ?_; rintro e w' ⟨rfl, rfl⟩)
    refine (HF.out _ P1.out).mono ?_
    rintro e w2 ⟨rfl, hb⟩
    have B2 := Lib.hid (below_step B1.out hb)
    have I2 := Lib.hid (builder_later I0.out hb)
    have HWS := Lib.hid (Tryd.Builder_WriteString_k w.heap.size w.heap.size _ s w2 I2.out (by simp; omega) B2.out.size)
    clear hb I0 B1 P1
    go_wp2_with fail
    refine HWS.out.mono ?_
    rintro e w3 ⟨rfl, hI, hb, _⟩
    have B3 := Lib.hid (B2.out.trans hb)
    have I3 := Lib.hid (show Lib.IsBuilderF 106 5 w.heap.size w.heap.size (Lib.byteCells s.data.toList) w3 from Or.inr hI)
    have HST := Lib.hid (Tryd.Builder_String_any_k w.heap.size w.heap.size _ w3 I3.out B3.out.size)
    clear hI hb I2 B2 HWS
    go_wp2_with fail
    refine HST.out.mono ?_
    rintro e w4 ⟨rfl, _, hb, _⟩
    have B4 := Lib.hid (B3.out.trans hb)
    clear hb
    go_wp2
    go_ret
    exact ⟨rfl, B4.out⟩
end Go.Proofs.YtamookdlbmbncaaDoor
