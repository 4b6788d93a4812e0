/- (columns).writeNumber punches a number into a part of a row, or answers that it does not fit, for every number of a card: contracts. -/
import Derived.Test.YtjfogadcedgndaaDoorPutNum
import Derived.Test.YtjfogadcedgndaaDoorFormat
import Derived.Lib.Repeat
namespace Go.Proofs.YtjfogadcedgndaaDoor
open Go.ChangeShapes Go.WideShapes Go.ChangeAt Go.RowKit

theorem only_of_below {a w : World} (h : Below a.heap.size a w) (g : Nat) : a.grownBy w (some g) := ⟨h.os, h.tape, h.output, h.size, fun i hi _ => h.block i hi⟩
theorem rowBit_nonneg (r : Int) : 0 ≤ rowBit r := by
  unfold rowBit
  repeat' split
  all_goals decide
theorem digW_nonneg (u : Nat) : ∀ w x, x ∈ digW u w → 0 ≤ x
  | 0, x, h => by cases h
  | j + 1, x, h => by
    rw [digW, List.mem_cons] at h
    rcases h with rfl | h
    · exact rowBit_nonneg _
    · exact digW_nonneg u j x h
def decS (u : Nat) : ByteArray := ⟨(Lib.decDigits u).toArray⟩
def zeroS (k : Nat) : ByteArray := ⟨(Lib.repeatL (⟨#[48]⟩ : ByteArray).data.toList k).toArray⟩
theorem decS_size (u : Nat) : (decS u).size = (Lib.decDigits u).length := by
  show (Lib.decDigits u).toArray.size = _
  simp
theorem repeat_zero : ∀ k, Lib.repeatL [48] k = List.replicate k (48 : UInt8)
  | 0 => rfl
  | k + 1 => by
    have : Lib.repeatL [48] (k + 1) = [48] ++ Lib.repeatL [48] k := rfl
    rw [this, repeat_zero k, List.replicate_succ]
    rfl
theorem zeroS_list (k : Nat) : (zeroS k).data.toList = List.replicate k 48 := by
  show (Lib.repeatL [48] k).toArray.toList = _
  rw [repeat_zero]
theorem zeroS_size (k : Nat) : (zeroS k).size = k := by
  show (zeroS k).data.size = k
  rw [← Array.length_toList, zeroS_list, List.length_replicate]
theorem text_size (u k : Nat) : (zeroS k ++ decS u).size = k + (Lib.decDigits u).length := by
  rw [ByteArray.size_append, zeroS_size, decS_size]
theorem text_codes (u wd : Nat) (h : u < 10 ^ wd) (hw : 0 < wd) : textCodes (zeroS (wd - (Lib.decDigits u).length) ++ decS u) = digW u wd := by
  rw [← (dec_codes wd u h hw).2, textCodes, ByteArray.data_append, Array.toList_append, List.map_append, zeroS_list, List.map_replicate]
  rfl

set_option maxHeartbeats 1000000 in
theorem writeNumber_long (A : Option Addr) (wd c : Nat) (n : Int) (hu : 10 ^ wd ≤ n.natAbs) (hw : wd ≤ 1048576) (h0 : -999999999999 ≤ n) (h1 : n ≤ 999999999999) (w : World) {aL aF : Addr} (S : Sents2 w aL aF) (hP : Pow10 w) :
    Calls Tryd.prog 26 #[.slice A wd c, .int .i64 n] w fun e w' => e = .returned (.iface 168 (.pointer (some aL))) ∧ Below w.heap.size w w' := by
  have hne : ∀ (w : World), (binOp .neq 60 (.iface 168 (.pointer (some aL))) .nilIface).run Tryd.prog w = .ok (.bool true) w := fun w => run_neq_iface_nil w 60 (by kernel_rfl) _ _
  have HA := Lib.hid (fun W => absolute_any n (by omega) (by omega) W)
  have hlong := dec_long wd n.natAbs hu
  obtain ⟨u, hu'⟩ : ∃ u, n.natAbs = u := ⟨_, rfl⟩
  rw [hu'] at HA hlong
  have hu12 : u < 18446744073709551616 := by omega
  have hd13 : (Lib.decDigits u).length ≤ 20 := by
    have := dz_length u hu12
    rcases Nat.eq_zero_or_pos u with h | h
    · subst h; decide +kernel
    · rwa [dz_pos h] at this
  rw [← decS_size] at hlong hd13
  have HF := Lib.hid (formatUint_any u hu12 w hP)
  have HS := Lib.hid S
  clear hu hu' S hP
  go_enter Tryd.func26, Tryd.ntmps26
  go_wp2_with (go_at_call 44; refine (HA.out _).mono ?_; rintro e w' ⟨rfl, rfl⟩)
  refine HF.out.mono ?_
  rintro e w1 ⟨he, hb⟩
  have he' : e = .returned (.string (decS u)) := he
  obtain ⟨s, hs⟩ : ∃ s, decS u = s := ⟨_, rfl⟩
  rw [hs] at he' hlong hd13
  subst he'
  have B1 := Lib.hid hb
  have hk : max 0 ((wd : Int) - (s.size : Int)) = ((0 : Nat) : Int) := by omega
  have hrp := fun W => Tryd.strings_Repeat ⟨#[48]⟩ 0 W (by omega) (by omega)
  rw [← hk] at hrp
  have HRP := Lib.hid hrp
  have HL := Lib.hid hlong
  clear he hb hs HF HA hk hrp hlong
  go_wp2_with fail
  refine (HRP.out _).mono ?_
  rintro e w2 ⟨he, hb⟩
  have he' : e = .returned (.string (zeroS 0)) := he
  have hz0 := zeroS_size 0
  obtain ⟨z, hz⟩ : ∃ z, zeroS 0 = z := ⟨_, rfl⟩
  rw [hz] at he' hz0
  subst he'
  have B2 := Lib.hid (below_step B1.out hb)
  have hcat : z.size + s.size ≤ 9223372036854775807 := by omega
  have hws := fun (W : World) (S' : Sent W 0 aL) => write_long A wd c (z ++ s) (by rw [ByteArray.size_append]; have := HL.out; omega) (by rw [ByteArray.size_append]; omega) W S'
  have HWS := Lib.hid hws
  clear he hb hz hz0 HRP B1 hws
  go_wp2_with fail
  refine (HWS.out w2 (HS.out.long.below B2.out)).mono ?_
  rintro e w3 ⟨rfl, rfl⟩
  go_wp2
  go_ret
  exact ⟨rfl, B2.out⟩

def Punched (n : Int) (wd off : Nat) (xs : List Int) (g : Nat) (ex : List Value) (w : World) (e : Ending) (w' : World) : Prop :=
  e = .returned .nilIface ∧ w.grownBy w' (some g) ∧ Row w' g (putAt xs off (numW n wd)) ex

set_option maxHeartbeats 1000000 in
theorem writeNumber_fits (g off wd c : Nat) (n : Int) (xs : List Int) (ex : List Value) (hw : 0 < wd) (hx : off + wd ≤ xs.length) (hm : xs.length ≤ 1048576) (hu : n.natAbs < 10 ^ wd) (h0 : -999999999999 ≤ n) (h1 : n ≤ 999999999999) (w : World) (hr : Row w g xs ex) {aL aF : Addr} (S : Sents2 w aL aF) (hfg : 1 ≠ g) (hP : Pow10 w) :
    Calls Tryd.prog 26 #[.slice (some ⟨g, off, none⟩) wd c, .int .i64 n] w (Punched n wd off xs g ex w) := by
  have HA := Lib.hid (fun W => absolute_any n (by omega) (by omega) W)
  have hdc := dec_codes wd n.natAbs hu hw
  have htc := text_codes n.natAbs wd hu hw
  have HNN := Lib.hid (fun hn : n < 0 => numW_neg n wd hn)
  have HNP := Lib.hid (fun hn : ¬ n < 0 => numW_pos n wd hn)
  obtain ⟨u, hu'⟩ : ∃ u, n.natAbs = u := ⟨_, rfl⟩
  rw [hu'] at HA hdc htc HNN HNP
  have hu12 : u < 18446744073709551616 := by omega
  have hlen := hdc.1
  rw [← decS_size] at hlen htc
  have HF := Lib.hid (formatUint_any u hu12 w hP)
  have HS := Lib.hid S
  have HR := Lib.hid hr
  have HG := Lib.hid hfg
  have HX := Lib.hid hx
  have hw2 : wd ≤ 1048576 := by omega
  have HU := Lib.hid (show u ≤ 999999999999 by omega)
  clear hu hu' S hP hdc hr hfg hx
  go_enter Tryd.func26, Tryd.ntmps26
  go_wp2_with (go_at_call 44; refine (HA.out _).mono ?_; rintro e w' ⟨rfl, rfl⟩)
  refine HF.out.mono ?_
  rintro e w1 ⟨he, hb⟩
  have he' : e = .returned (.string (decS u)) := he
  obtain ⟨s, hs⟩ : ∃ s, decS u = s := ⟨_, rfl⟩
  rw [hs] at he' hlen htc
  subst he'
  have B1 := Lib.hid hb
  obtain ⟨k, hkk⟩ : ∃ k, wd - s.size = k := ⟨_, rfl⟩
  rw [hkk] at htc
  have hks : k + s.size = wd := by omega
  have hk : max 0 ((wd : Int) - (s.size : Int)) = (k : Int) := by omega
  have hrp := fun W => Tryd.strings_Repeat ⟨#[48]⟩ k W (by omega) (by show 1 * k ≤ _; omega)
  rw [← hk] at hrp
  have HRP := Lib.hid hrp
  have HKS := Lib.hid hks
  clear he hb hs HF HA hk hrp hkk hks
  go_wp2_with fail
  refine (HRP.out _).mono ?_
  rintro e w2 ⟨he, hb⟩
  have he' : e = .returned (.string (zeroS k)) := he
  have hz0 := zeroS_size k
  obtain ⟨z, hz⟩ : ∃ z, zeroS k = z := ⟨_, rfl⟩
  rw [hz] at he' hz0 htc
  subst he'
  have B2 := Lib.hid (below_step B1.out hb)
  have hcat : z.size + s.size ≤ 9223372036854775807 := by have := HKS.out; omega
  have hzs : (z ++ s).size = wd := by rw [ByteArray.size_append]; have := HKS.out; omega
  have hleg : legalT (z ++ s) = true := by
    rw [legalT, htc, List.all_eq_true]
    intro x hx
    simpa using digW_nonneg u wd x hx
  have HLG := Lib.hid hleg
  have HTC := Lib.hid htc
  have G2 := Lib.hid (only_of_below B2.out g)
  have hws := fun (W : World) (hr : Row W g xs ex) (S' : Sent W 1 aF) => writeAt_any g off wd c (z ++ s) xs ex (by omega) HX.out hm W hr S' HG.out
  have HWS := Lib.hid hws
  clear he hb hz hz0 HRP B1 hws hzs hleg htc
  go_wp2_with fail
  refine (HWS.out w2 (HR.out.below B2.out HR.out.lt) (HS.out.foreign.below B2.out)).mono ?_
  rintro e w3 ⟨hg, hw3⟩
  rcases hw3 with ⟨_, rfl, hrow⟩ | ⟨hno, _⟩
  · rw [HTC.out] at hrow
    have G3 := Lib.hid (only_step G2.out hg)
    have hl := Lib.hid (digW_length u wd)
    by_cases hn : n < 0
    · have hnw := HNN.out (by omega)
      have hlen3 := putAt_length xs off (digW u wd) (by rw [hl.out]; exact HX.out)
      have c1 := hrow.cell (i := off + (wd - 1)) (by rw [hlen3]; have := HX.out; omega)
      have f1 := hrow.frozen (off + (wd - 1))
      have hpg := putAt_get xs off (digW u wd) (wd - 1) (by rw [hl.out]; omega) (by rw [hl.out]; exact HX.out)
      obtain ⟨x, hx⟩ : ∃ x, (digW u wd)[wd - 1]?.getD 0 = x := ⟨_, rfl⟩
      rw [hpg, hx] at c1
      rw [hx] at hnw
      have HR4 : Hid (Row (w3.setCell ⟨g, off + (wd - 1), none⟩ (.int .i64 (bits .or .i64 x 2))) g (putAt xs off (numW n wd)) ex) := by
        have := hrow.set (i := off + (wd - 1)) (by rw [hlen3]; have := HX.out; omega) (bits .or .i64 x 2)
        rw [putAt_in xs off (digW u wd) (wd - 1) _ (by rw [hl.out]; omega) (by rw [hl.out]; exact HX.out), ← hnw] at this
        exact this
      have HG4 : Hid (w.grownBy (w3.setCell ⟨g, off + (wd - 1), none⟩ (.int .i64 (bits .or .i64 x 2))) (some g)) := only_step G3.out (only_set _ _ _ _)
      have r0 : (0 : Int) ≤ (wd : Int) - 1 := by omega
      have r0' : (1 : Int) ≤ (wd : Int) := by omega
      have r1 : (wd : Int) - 1 < (wd : Int) := by omega
      have r2 : ((wd : Int) - 1).toNat = wd - 1 := by omega
      clear hnw hlen3 hpg hx hrow hg
      go_wp2
      go_ret
      exact ⟨rfl, HG4.out, HR4.out⟩
    · have hnw := HNP.out (by omega)
      rw [← hnw] at hrow
      have HR4 := Lib.hid hrow
      clear hnw hrow hg
      go_wp2
      go_ret
      exact ⟨rfl, G3.out, HR4.out⟩
  · rw [HLG.out] at hno
    cases hno
end Go.Proofs.YtjfogadcedgndaaDoor
