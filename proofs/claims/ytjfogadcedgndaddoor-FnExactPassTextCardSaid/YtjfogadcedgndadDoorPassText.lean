/- spec.PassText gives the text of passes: contract. -/
import Derived.Test.YtjfogadcedgndadDoorMode
import Derived.Test.YtjfogadcedgndadDoorJoinB
import Derived.Test.YtjfogadcedgndadDoorDec
import Derived.Deep.RegionHeld3
import Derived.Lib.ItoaLen
namespace Go.Proofs.YtjfogadcedgndadDoor
open Go.ChangeShapes Go.WideShapes Go.ChangeAt Go.RowKit

def letterS (m : Int) : ByteArray := if m = 1 then ⟨#[100]⟩ else ⟨#[122]⟩
def decS (a : Int) : ByteArray := ⟨(Lib.itoa a).toArray⟩
/-- the text of a pass -/
def passS (p : Int × Int) : ByteArray := decS p.1 ++ letterS p.2
def textTo (P : List (Int × Int)) (k : Nat) : ByteArray := joinB ((P.take k).map passS)
/-- whether all modes are ones -/
def modesB (P : List (Int × Int)) : Bool := P.all fun p => modeB p.2
/-- what PassText answers -/
def passT (P : List (Int × Int)) : ByteArray := if modesB P = true then textTo P P.length else ⟨#[]⟩

theorem letterS_size (m : Int) : (letterS m).size = 1 := by
  unfold letterS
  split <;> rfl
theorem decS_size {a : Int} (h0 : -9223372036854775808 ≤ a) (h1 : a ≤ 9223372036854775807) : (decS a).size ≤ 21 := by
  show (Lib.itoa a).toArray.size ≤ 21
  rw [List.size_toArray]
  exact Lib.itoa_length_le a (by omega) (by omega)
theorem nil_appB (x : ByteArray) : (⟨#[]⟩ : ByteArray) ++ x = x := by
  apply ByteArray.ext
  simp
theorem textTo_zero (P : List (Int × Int)) : textTo P 0 = ⟨#[]⟩ := rfl
theorem textTo_one {P : List (Int × Int)} {d : Int × Int} (h : P[0]? = some d) : textTo P 1 = passS d := by
  unfold textTo
  rw [List.take_add_one, h]
  exact joinB_one _
theorem textTo_succ {P : List (Int × Int)} {k : Nat} {d : Int × Int} (h : P[k]? = some d) (hk : 0 < k) : textTo P (k + 1) = textTo P k ++ ⟨#[32]⟩ ++ passS d := by
  obtain ⟨hl, _⟩ := List.getElem?_eq_some_iff.1 h
  unfold textTo
  rw [List.take_add_one, h, List.map_append]
  refine joinB_snoc _ _ ?_
  intro e
  have := congrArg List.length e
  rw [List.length_map, List.length_take, List.length_nil] at this
  omega
theorem textTo_size {P : List (Int × Int)} (hw : ∀ d ∈ P, -9223372036854775808 ≤ d.1 ∧ d.1 ≤ 9223372036854775807) : ∀ k, k ≤ P.length → (textTo P k).size ≤ 32 * k
  | 0, _ => Nat.le_refl _
  | k + 1, hk => by
    have ih := textTo_size hw k (by omega)
    obtain ⟨d, hd⟩ : ∃ d, P[k]? = some d := ⟨P[k]'(by omega), List.getElem?_eq_getElem _⟩
    obtain ⟨w1, w2⟩ := hw d (List.mem_of_getElem? hd)
    have hz : (passS d).size ≤ 22 := by
      unfold passS
      rw [ByteArray.size_append, letterS_size]
      have := decS_size w1 w2
      omega
    by_cases h0 : k = 0
    · subst h0
      rw [textTo_one hd]
      omega
    · rw [textTo_succ hd (by omega), ByteArray.size_append, ByteArray.size_append]
      show (textTo P k).size + 1 + (passS d).size ≤ _
      omega

set_option maxHeartbeats 1000000 in
theorem l07Text_any (A : Option Addr) (c : Nat) (P : List (Int × Int)) (B : Nat) (w : World) (h : Passes w B A P) (hB : B ≤ w.heap.size) (hn : P.length ≤ 1048576) (hw : ∀ d ∈ P, -9223372036854775808 ≤ d.1 ∧ d.1 ≤ 9223372036854775807) :
    Calls Tryd.prog 24 #[.slice A P.length c] w fun e w' => e = .returned (.string (textTo P P.length)) ∧ Below w.heap.size w w' := by
  have hsz := textTo_size hw
  obtain ⟨n, hN⟩ : ∃ n, P.length = n := ⟨_, rfl⟩
  rw [hN] at hn hsz ⊢
  have H := Lib.hid h
  have HN := Lib.hid hN
  have HW := Lib.hid hw
  have HSZ := Lib.hid hsz
  clear h hN hw hsz
  go_enter Tryd.func24, Tryd.ntmps24
  go_wp2
  go_loopw [3, 4] (fun o v wr => ∃ k : Nat, k ≤ n ∧ v = .int .i64 k ∧ o = .string (textTo P k) ∧ Hid (Below w.heap.size w wr)) (fun _ v _ => n - (intOf v).toNat)
  case atStart => exact ⟨0, Nat.zero_le _, rfl, rfl, Below.refl _ _⟩
  case round =>
    obtain ⟨k, hk, rfl, rfl, HB⟩ := hrel
    by_cases hlt : k < n
    · obtain ⟨d, hd⟩ : ∃ d, P[k]? = some d := ⟨P[k]'(by rw [HN.out]; exact hlt), List.getElem?_eq_getElem _⟩
      obtain ⟨b, off, rfl, hb, hcell⟩ := (H.out.below (HB.out.mono hB)) (by rw [HN.out]; omega)
      obtain ⟨c0, c1⟩ := hcell k d hd
      obtain ⟨w1, w2⟩ := HW.out d (List.mem_of_getElem? hd)
      have hT : textTo P (k + 1) = if k = 0 then passS d else textTo P k ++ ⟨#[32]⟩ ++ passS d := by
        by_cases h0 : k = 0
        · subst h0
          rw [if_pos rfl]
          exact textTo_one hd
        · rw [if_neg h0]
          exact textTo_succ hd (by omega)
      have hz := HSZ.out k (by omega)
      have hO0 : k = 0 → textTo P k = ⟨#[]⟩ := fun e => by rw [e]; rfl
      obtain ⟨a, m⟩ := d
      simp only at c0 c1 w1 w2
      have hDz := decS_size w1 w2
      have hdc := fun W => l01Dec_any a w1 w2 W
      have hps : passS (a, m) = decS a ++ letterS m := rfl
      obtain ⟨D, hD⟩ : ∃ D, decS a = D := ⟨_, rfl⟩
      have hD' : (⟨(Lib.itoa a).toArray⟩ : ByteArray) = D := hD
      simp only [hD'] at hdc
      rw [hD] at hDz hps
      rw [hps] at hT
      obtain ⟨O, hO⟩ : ∃ O, textTo P k = O := ⟨_, rfl⟩
      rw [hO] at hT hz hO0 ⊢
      have HDC := Lib.hid hdc
      have HT := Lib.hid hT
      have HO0 := Lib.hid hO0
      have k0 : (0 : Int) ≤ (k : Int) := Int.natCast_nonneg _
      have k1 : (k : Int) < (n : Int) := by omega
      have s1 : ¬ 9223372036854775807 < O.size + 1 := by omega
      have s2 : ¬ 9223372036854775807 < O.size + 1 + D.size := by omega
      have s3 : ¬ 9223372036854775807 < O.size + 1 + D.size + 1 := by omega
      have s4 : ¬ 9223372036854775807 < O.size + D.size := by omega
      have s5 : ¬ 9223372036854775807 < O.size + D.size + 1 := by omega
      clear hcell hd hdc hps hD hD' hT hO hO0 hb w1 w2
      by_cases h0 : k = 0
      · have HTT := HT.out
        rw [if_pos h0] at HTT
        have HO : Hid (O = ⟨#[]⟩) := HO0.out h0
        subst h0
        have d0 : wr.cell? ⟨b, off, none⟩ = some (.int .i64 a) := by simpa using c0
        have d1 : wr.cell? ⟨b, off + 1, none⟩ = some (.int .i64 m) := by simpa using c1
        have hn0 : (0 : Int) < (n : Int) := by omega
        clear c0 c1
        by_cases hm : m = 1
        · have hl : letterS m = ⟨#[100]⟩ := by rw [letterS, if_pos hm]
          rw [hl] at HTT
          have HTL := Lib.hid HTT
          have m1 : (m == 1) = true := by simpa using hm
          clear HTT hl hm
          go_wp2_with (go_at_call 44; refine (HDC.out _).mono ?_; rintro e w2 ⟨rfl, hb2⟩; have d1' := cell_kept d1 hb2; have HB2 := Lib.hid (below_step HB.out hb2); clear hb2)
          go_roundw
          case rel => exact ⟨1, by omega, by go_num, by rw [HTL.out, HO.out, nil_appB], HB2⟩
          case measure => simp [intOf]; omega
        · have hl : letterS m = ⟨#[122]⟩ := by rw [letterS, if_neg hm]
          rw [hl] at HTT
          have HTL := Lib.hid HTT
          have m1 : (m == 1) = false := by simpa using hm
          clear HTT hl hm
          go_wp2_with (go_at_call 44; refine (HDC.out _).mono ?_; rintro e w2 ⟨rfl, hb2⟩; have d1' := cell_kept d1 hb2; have HB2 := Lib.hid (below_step HB.out hb2); clear hb2)
          go_roundw
          case rel => exact ⟨1, by omega, by go_num, by rw [HTL.out, HO.out, nil_appB], HB2⟩
          case measure => simp [intOf]; omega
      · have HTT := HT.out
        rw [if_neg h0] at HTT
        have e0 : (k : Int) > 0 := by omega
        by_cases hm : m = 1
        · have hl : letterS m = ⟨#[100]⟩ := by rw [letterS, if_pos hm]
          rw [hl] at HTT
          have HTL := Lib.hid HTT
          have m1 : (m == 1) = true := by simpa using hm
          clear HTT hl hm
          go_wp2_with (go_at_call 44; refine (HDC.out _).mono ?_; rintro e w2 ⟨rfl, hb2⟩; have c1' := cell_kept c1 hb2; have HB2 := Lib.hid (below_step HB.out hb2); clear hb2)
          go_roundw
          case rel => exact ⟨k + 1, by omega, by go_num, by rw [HTL.out]; simp only [ByteArray.append_assoc], HB2⟩
          case measure => simp [intOf]; omega
        · have hl : letterS m = ⟨#[122]⟩ := by rw [letterS, if_neg hm]
          rw [hl] at HTT
          have HTL := Lib.hid HTT
          have m1 : (m == 1) = false := by simpa using hm
          clear HTT hl hm
          go_wp2_with (go_at_call 44; refine (HDC.out _).mono ?_; rintro e w2 ⟨rfl, hb2⟩; have c1' := cell_kept c1 hb2; have HB2 := Lib.hid (below_step HB.out hb2); clear hb2)
          go_roundw
          case rel => exact ⟨k + 1, by omega, by go_num, by rw [HTL.out]; simp only [ByteArray.append_assoc], HB2⟩
          case measure => simp [intOf]; omega
    · have hkn : k = n := by omega
      have k1 : ¬ (k : Int) < (n : Int) := by omega
      have HF : Hid (textTo P k = textTo P n) := by show _ = _; rw [hkn]
      clear hkn
      go_wp2
      go_ret
      exact ⟨congrArg (fun z => Ending.returned (.string z)) HF.out, HB.out⟩

theorem specPassText_any (A : Option Addr) (c : Nat) (P : List (Int × Int)) (B : Nat) (w : World) (h : Passes w B A P) (hB : B ≤ w.heap.size) (hn : P.length ≤ 1048576) (hw : ∀ d ∈ P, -9223372036854775808 ≤ d.1 ∧ d.1 ≤ 9223372036854775807) :
    Calls Tryd.prog 12 #[.slice A P.length c] w fun e w' => e = .returned (.string (passT P)) ∧ Below w.heap.size w w' := by
  have ht := l07Text_any A c P B w h hB hn hw
  obtain ⟨n, hN⟩ : ∃ n, P.length = n := ⟨_, rfl⟩
  obtain ⟨r, hr⟩ : ∃ r, modesB P = r := ⟨_, rfl⟩
  rw [passT, hr]
  rw [hN] at hn ht ⊢
  obtain ⟨T, hT⟩ : ∃ T, textTo P n = T := ⟨_, rfl⟩
  rw [hT] at ht ⊢
  have H := Lib.hid h
  have HN := Lib.hid hN
  have HR := Lib.hid hr
  have HT := Lib.hid ht
  have HMO := Lib.hid l07Mode_any
  clear h hN hr hw ht hT
  go_enter Tryd.func12, Tryd.ntmps12
  go_wp2
  go_loop [3] (fun i => ∃ k : Nat, k ≤ n ∧ i = .int .i64 k ∧ Hid (modesB (P.take k) = true)) (fun i => n - (intOf i).toNat)
  case atStart => exact ⟨0, Nat.zero_le _, rfl, by show _ = _; simp [modesB]⟩
  case round =>
    obtain ⟨k, hk, rfl, HK⟩ := hrel
    by_cases hlt : k < n
    · obtain ⟨d, hd⟩ : ∃ d, P[k]? = some d := ⟨P[k]'(by rw [HN.out]; exact hlt), List.getElem?_eq_getElem _⟩
      obtain ⟨b, off, rfl, hb, hcell⟩ := H.out (by rw [HN.out]; omega)
      obtain ⟨c0, c1⟩ := hcell k d hd
      have hall : modesB (P.take (k + 1)) = (modesB (P.take k) && modeB d.2) := by
        unfold modesB
        rw [List.take_add_one, hd, List.all_append]
        simp
      have hbad : modeB d.2 = false → modesB P = false := fun e => by
        unfold modesB
        rw [List.all_eq_false]
        exact ⟨d, List.mem_of_getElem? hd, by simp [e]⟩
      obtain ⟨a, m⟩ := d
      simp only at c0 c1 hall hbad
      have hmo := fun W => HMO.out m W
      obtain ⟨u, hu⟩ : ∃ u, modeB m = u := ⟨_, rfl⟩
      simp only [hu] at hmo hall hbad
      rw [HK.out, Bool.true_and] at hall
      rw [HR.out] at hbad
      have HM := Lib.hid hmo
      have HA := Lib.hid hall
      have HBD := Lib.hid hbad
      have k0 : (0 : Int) ≤ (k : Int) := Int.natCast_nonneg _
      have k1 : (k : Int) < (n : Int) := by omega
      clear hcell hd hmo hu hall hbad hb c0 H
      cases u
      · obtain rfl : r = false := HBD.out rfl
        go_wp2_with (go_at_call 23; refine (HM.out _).mono ?_; rintro e w' ⟨rfl, rfl⟩)
        go_ret
        exact ⟨rfl, Below.refl _ _⟩
      · go_wp2_with (go_at_call 23; refine (HM.out _).mono ?_; rintro e w' ⟨rfl, rfl⟩)
        go_round
        case rel => exact ⟨k + 1, by omega, by go_num, HA⟩
        case measure => simp [intOf]; omega
    · have hkn : k = n := by omega
      have k1 : ¬ (k : Int) < (n : Int) := by omega
      obtain rfl : r = true := by
        rw [← HR.out]
        have := HK.out
        rwa [List.take_of_length_le (by rw [HN.out]; omega)] at this
      clear hkn
      go_wp2_with (go_at_call 24; refine HT.out.mono ?_; rintro e w2 ⟨rfl, hb2⟩; have HB2 := Lib.hid hb2; clear hb2)
      go_ret
      exact ⟨rfl, HB2.out⟩
end Go.Proofs.YtjfogadcedgndadDoor
