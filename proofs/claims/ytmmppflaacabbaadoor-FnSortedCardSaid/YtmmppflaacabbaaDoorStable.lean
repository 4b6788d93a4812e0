/- slices.stableCmpFunc and SortStableFunc at int64 sort a list of at most 40 rising numbers, and keep the order of equal ones: contracts. -/
import Derived.Test.YtmmppflaacabbaaDoorSymMerge
namespace Go.Proofs.YtmmppflaacabbaaDoor
open Go.ChangeShapes Go.WideShapes Go.ChangeAt Go.RowKit

section
variable {cf : Int → Int → Int} {ok : Int → Prop}
/-- two sorted parts -/
def TwoParts (cf : Int → Int → Int) (g : Nat) (L : List Int) (ex : List Value) (w wr : World) : Prop :=
  ∃ P1 P2, P1.Perm (L.take 20) ∧ P2.Perm (L.drop 20) ∧ Srt cf P1 ∧ Srt cf P2 ∧ w.grownBy wr (some g) ∧ Row wr g (P1 ++ P2) ex
/-- one sorted list -/
def OnePart (cf : Int → Int → Int) (g : Nat) (L : List Int) (ex : List Value) (w wr : World) : Prop :=
  ∃ M, M.Perm L ∧ Srt cf M ∧ w.grownBy wr (some g) ∧ Row wr g M ex

set_option maxRecDepth 100000 in
set_option maxHeartbeats 4000000 in
theorem stable_any (hO : Ord cf ok) (g n : Nat) (kp : Value) (L : List Int) (ex : List Value) (w : World) (h : Row w g L ex) (hc : Cmps cf ok g kp w) (hs : L.Pairwise (· < ·)) (hok : ∀ x ∈ L, ok x) (hn : L.length = n) (h40 : n ≤ 40) :
    Calls Tryd.prog 83 #[.slice (some ⟨g, 0, none⟩) n n, .int .i64 n, .func (.func 40) #[] #[kp]] w fun e w' => e = .returned (.tuple #[]) ∧ OnePart cf g L ex w w' := by
  have H := Lib.hid h
  have HO := Lib.hid hO
  have HC := Lib.hid hc
  have HS := Lib.hid hs
  have HOK := Lib.hid hok
  have HN := Lib.hid hn
  have ins := fun (a b : Nat) (X S Z : List Int) (W : World) (hW : w.grownBy W (some g)) (hr : Row W g (X ++ (S ++ Z)) ex) (h1 : S.Pairwise (· < ·)) (h2 : ∀ x ∈ S, ok x) ha hb hn => insertion_any hO g n n a b kp X S Z ex W hr (hc.later hW) h1 h2 ha hb hn (by omega)
  have mrg := fun (a m b : Nat) (X U V Z : List Int) (W : World) hi => symMerge_any hO g n n kp ex (b - a) a m b X U V Z W (Nat.le_refl _) hi
  have HI := Lib.hid ins
  have HM := Lib.hid mrg
  clear h hO hc hs hok hn ins mrg
  go_enter Tryd.func83, Tryd.ntmps83
  go_wp2
  go_loopw [7, 8] (fun va vb wr => ∃ t : Nat, ∃ M1 M2 : List Int, va = .int .i64 (20 * (t : Int)) ∧ vb = .int .i64 (20 * (t : Int) + 20) ∧ t ≤ 2 ∧ 20 * t ≤ n ∧ Hid (M1.Perm (L.take (20 * min t 1))) ∧ Hid (M2.Perm ((L.drop 20).take (20 * (t - 1)))) ∧ Hid (Srt cf M1) ∧ Hid (Srt cf M2) ∧ Hid (w.grownBy wr (some g)) ∧ Hid (Row wr g (M1 ++ (M2 ++ L.drop (20 * t))) ex)) (fun _ vb _ => n + 20 - (intOf vb).toNat)
  case atStart => exact ⟨0, [], [], rfl, rfl, by omega, by omega, by show List.Perm _ _; simp, by show List.Perm _ _; simp, List.Pairwise.nil, List.Pairwise.nil, World.grownBy.refl _ _, by show Row _ _ _ _; simpa using H.out⟩
  case round =>
    obtain ⟨t, M1, M2, rfl, rfl, ht, htn, HP1, HP2, HS1, HS2, HG, HR⟩ := hrel
    by_cases hlt : 20 * t + 20 ≤ n
    · as_aux_lemma =>
      have l1 : 20 * (t : Int) + 20 ≤ (n : Int) := by omega
      obtain ⟨S, Z, hSZ, s1, s2⟩ := split_len (L := L.drop (20 * t)) 20 (by rw [List.length_drop, HN.out]; omega)
      have hr : Row wr g ((M1 ++ M2) ++ (S ++ Z)) ex := by
        have := HR.out
        rw [hSZ] at this
        simpa [List.append_assoc] using this
      have hSe : S = (L.drop (20 * t)).take 20 := by rw [hSZ, ← s1]; simp
      have hZe : Z = L.drop (20 * (t + 1)) := by
        have : Z = (L.drop (20 * t)).drop 20 := by rw [hSZ, ← s1]; simp
        rw [this, List.drop_drop]
        congr 1
      have hl : (M1 ++ M2).length = 20 * t := by
        rw [List.length_append, HP1.out.length_eq, HP2.out.length_eq, List.length_take, List.length_take, List.length_drop, HN.out]
        rcases Nat.eq_zero_or_pos t with rfl | h0
        · simp
        · rw [Nat.min_eq_right (by omega : 1 ≤ t)]
          omega
      have hpw : S.Pairwise (· < ·) := by
        rw [hSe]
        exact (HS.out.sublist (List.drop_sublist _ _)).sublist (List.take_sublist _ _)
      have hio := HI.out (20 * t) (20 * t + 20) (M1 ++ M2) S Z wr HG.out hr hpw (fun x hx => HOK.out x (by rw [hSe] at hx; exact List.mem_of_mem_drop (List.mem_of_mem_take hx))) hl (by rw [s1]) (by rw [s2, List.length_drop, HN.out]; omega)
      have c1 : ((20 * t : Nat) : Int) = 20 * (t : Int) := by omega
      have c2 : ((20 * t + 20 : Nat) : Int) = 20 * (t : Int) + 20 := by omega
      rw [c1, c2] at hio
      have HIO := Lib.hid hio
      have HSE := Lib.hid hSe
      have HZE := Lib.hid hZe
      clear hSZ s1 s2 hr hSe hZe hl hpw hio c1 c2
      go_wp2_with fail
      refine HIO.out.mono ?_
      rintro e w1 ⟨rfl, M, p1, p2, hg, hr⟩
      have HG1 := Lib.hid (only_step HG.out hg)
      have HF : Hid (∃ M1' M2' : List Int, M1'.Perm (L.take (20 * min (t + 1) 1)) ∧ M2'.Perm ((L.drop 20).take (20 * (t + 1 - 1))) ∧ Srt cf M1' ∧ Srt cf M2' ∧ Row w1 g (M1' ++ (M2' ++ L.drop (20 * (t + 1)))) ex) := by
        rw [HZE.out] at hr
        rw [HSE.out] at p1
        rcases Nat.eq_zero_or_pos t with h0 | h0
        · subst h0
          have e1 : M1 = [] := List.eq_nil_of_length_eq_zero (by rw [HP1.out.length_eq]; simp)
          have e2 : M2 = [] := List.eq_nil_of_length_eq_zero (by rw [HP2.out.length_eq]; simp)
          rw [e1, e2] at hr
          exact ⟨M, [], by simpa using p1, by simp, p2, List.Pairwise.nil, by simpa using hr⟩
        · obtain rfl : t = 1 := by omega
          have e2 : M2 = [] := List.eq_nil_of_length_eq_zero (by rw [HP2.out.length_eq]; simp)
          rw [e2] at hr
          exact ⟨M1, M, HP1.out, by simpa using p1, HS1.out, p2, by simpa [List.append_assoc] using hr⟩
      obtain ⟨N1, N2, n1, n2, n3, n4, n5⟩ := HF.out
      have HN1 := Lib.hid n1
      have HN2 := Lib.hid n2
      have HN3 := Lib.hid n3
      have HN4 := Lib.hid n4
      have HN5 := Lib.hid n5
      clear p1 p2 hg hr HF n1 n2 n3 n4 n5
      go_wp2
      go_roundw
      case rel => exact ⟨t + 1, N1, N2, by go_num, by go_num, by omega, by omega, HN1, HN2, HN3, HN4, HG1, HN5⟩
      case measure => simp [intOf]; omega
    · as_aux_lemma =>
      have l1 : ¬ 20 * (t : Int) + 20 ≤ (n : Int) := by omega
      have hl : (M1 ++ M2).length = 20 * t := by
        rw [List.length_append, HP1.out.length_eq, HP2.out.length_eq, List.length_take, List.length_take, List.length_drop, HN.out]
        rcases Nat.eq_zero_or_pos t with rfl | h0
        · simp
        · rw [Nat.min_eq_right (by omega : 1 ≤ t)]
          omega
      have hr : Row wr g ((M1 ++ M2) ++ (L.drop (20 * t) ++ [])) ex := by
        have := HR.out
        simpa [List.append_assoc] using this
      have hio := HI.out (20 * t) n (M1 ++ M2) (L.drop (20 * t)) [] wr HG.out hr (HS.out.sublist (List.drop_sublist _ _)) (fun x hx => HOK.out x (List.mem_of_mem_drop hx)) hl (by rw [List.length_drop, HN.out]; omega) (by simp)
      have c1 : ((20 * t : Nat) : Int) = 20 * (t : Int) := by omega
      rw [c1] at hio
      have HIO := Lib.hid hio
      clear hl hr hio c1
      go_wp2_with fail
      refine HIO.out.mono ?_
      rintro e w1 ⟨rfl, M, p1, p2, hg, hr⟩
      have HT : Hid (TwoParts cf g L ex w w1) := by
        have hg1 := only_step HG.out hg
        rcases (by omega : t = 0 ∨ t = 1 ∨ t = 2) with h0 | h0 | h0
        · subst h0
          have e1 : M1 = [] := List.eq_nil_of_length_eq_zero (by rw [HP1.out.length_eq]; simp)
          have e2 : M2 = [] := List.eq_nil_of_length_eq_zero (by rw [HP2.out.length_eq]; simp)
          rw [e1, e2] at hr
          refine ⟨M, [], ?_, ?_, p2, List.Pairwise.nil, hg1, by simpa using hr⟩
          · rw [List.take_of_length_le (by rw [HN.out]; omega)]
            simpa using p1
          · rw [List.drop_of_length_le (by rw [HN.out]; omega)]
        · subst h0
          have e2 : M2 = [] := List.eq_nil_of_length_eq_zero (by rw [HP2.out.length_eq]; simp)
          rw [e2] at hr
          exact ⟨M1, M, HP1.out, by simpa using p1, HS1.out, p2, hg1, by simpa using hr⟩
        · subst h0
          have e3 : M = [] := List.eq_nil_of_length_eq_zero (by rw [p1.length_eq, List.length_drop, HN.out]; omega)
          rw [e3] at hr
          refine ⟨M1, M2, HP1.out, ?_, HS1.out, HS2.out, hg1, by simpa using hr⟩
          have := HP2.out
          rw [List.take_of_length_le (by rw [List.length_drop, HN.out]; omega)] at this
          exact this
      clear p1 p2 hg hr HP1 HP2 HS1 HS2 HG HR HIO l1 hlt
      have HMG : Hid (∀ W, TwoParts cf g L ex w W → 20 < n → Calls Tryd.prog 113 #[.slice (some ⟨g, 0, none⟩) n n, .int .i64 0, .int .i64 20, .int .i64 n, .func (.func 40) #[] #[kp]] W fun e w' => e = .returned (.tuple #[]) ∧ OnePart cf g L ex w w') := fun W hT h20 => by
        obtain ⟨P1, P2, p1, p2, s1, s2, hg, hr⟩ := hT
        have l1 : P1.length = 20 := by rw [p1.length_eq, List.length_take, HN.out]; omega
        have l2 : P2.length = n - 20 := by rw [p2.length_eq, List.length_drop, HN.out]
        have := HM.out 0 20 n [] P1 P2 [] W
          { row := by simpa using hr
            cmp := HC.out.later hg
            su := s1
            sv := s2
            lt := fun x hx y hy => by
              have h2 := HS.out
              rw [← List.take_append_drop 20 L, List.pairwise_append] at h2
              exact h2.2.2 x (p1.subset hx) y (p2.subset hy)
            oku := fun x hx => HOK.out x (List.mem_of_mem_take (p1.subset hx))
            okv := fun x hx => HOK.out x (List.mem_of_mem_drop (p2.subset hx))
            ha := rfl
            hm := by rw [l1]
            hb := by rw [l2]; omega
            hn := by simp
            n2 := by omega
            pu := by omega
            pv := by omega }
        refine this.mono ?_
        rintro e w' ⟨he, M, q1, q2, q3, q4⟩
        refine ⟨he, M, ?_, q2, only_step hg q3, by simpa using q4⟩
        refine q1.trans ((p1.append p2).trans ?_)
        rw [List.take_append_drop]
      rename World => w0'
      go_wp2_with fail
      go_loopw [6] (fun v6 wr => (v6 = .int .i64 20 ∧ Hid (TwoParts cf g L ex w wr)) ∨ (v6 = .int .i64 40 ∧ Hid (OnePart cf g L ex w wr))) (fun v6 _ => (60 - intOf v6).toNat)
      case atStart => exact Or.inl ⟨rfl, HT⟩
      case round =>
        rcases hrel with ⟨rfl, HT2⟩ | ⟨rfl, HO2⟩
        · by_cases h20 : 20 < n
          · have d1 : (20 : Int) < (n : Int) := by omega
            rename World => w2
            go_wp2_with fail
            go_loopw [7, 8] (fun va vb wr => (va = .int .i64 0 ∧ vb = .int .i64 40 ∧ Hid (TwoParts cf g L ex w wr)) ∨ (va = .int .i64 40 ∧ vb = .int .i64 80 ∧ n = 40 ∧ Hid (OnePart cf g L ex w wr))) (fun va _ _ => (60 - intOf va).toNat)
            case atStart => exact Or.inl ⟨rfl, rfl, HT2⟩
            case round =>
              rcases hrel with ⟨rfl, rfl, HT3⟩ | ⟨rfl, rfl, hn40, HO3⟩
              · by_cases e40 : n = 40
                · have d2 : (40 : Int) ≤ (n : Int) := by omega
                  have hmg := HMG.out wr HT3.out h20
                  have c1 : (n : Int) = 40 := by omega
                  have hmg2 : Calls Tryd.prog 113 #[.slice (some ⟨g, 0, none⟩) n n, .int .i64 0, .int .i64 20, .int .i64 40, .func (.func 40) #[] #[kp]] wr fun e w' => e = .returned (.tuple #[]) ∧ OnePart cf g L ex w w' := by
                    rw [c1] at hmg
                    exact hmg
                  have HMG2 := Lib.hid hmg2
                  have HE := Lib.hid e40
                  clear hmg hmg2 c1 e40
                  go_wp2_with fail
                  refine HMG2.out.mono ?_
                  rintro e w3 ⟨rfl, ho⟩
                  have HO3 := Lib.hid ho
                  clear ho
                  go_wp2
                  go_roundw
                  case rel => exact Or.inr ⟨rfl, rfl, HE.out, HO3⟩
                  case measure => simp [intOf]
                · have d2 : ¬ (40 : Int) ≤ (n : Int) := by omega
                  have HMG2 := Lib.hid (HMG.out wr HT3.out h20)
                  go_wp2_with fail
                  refine HMG2.out.mono ?_
                  rintro e w3 ⟨rfl, ho⟩
                  have HO3 := Lib.hid ho
                  clear ho
                  go_wp2
                  go_roundw
                  case rel => exact Or.inr ⟨rfl, HO3⟩
                  case measure => simp [intOf]
              · have d2 : ¬ (80 : Int) ≤ (n : Int) := by omega
                have d3 : ¬ (60 : Int) < (n : Int) := by omega
                clear hn40
                go_wp2
                go_roundw
                case rel => exact Or.inr ⟨rfl, HO3⟩
                case measure => simp [intOf]
          · have d1 : ¬ (20 : Int) < (n : Int) := by omega
            have HF : Hid (OnePart cf g L ex w wr) := by
              obtain ⟨P1, P2, p1, p2, s1, s2, hg, hr⟩ := HT2.out
              have e2 : P2 = [] := List.eq_nil_of_length_eq_zero (by rw [p2.length_eq, List.length_drop, HN.out]; omega)
              rw [e2, List.append_nil] at hr
              refine ⟨P1, ?_, s1, hg, hr⟩
              rw [List.take_of_length_le (by rw [HN.out]; omega)] at p1
              exact p1
            go_wp2
            go_end0
            exact ⟨rfl, HF.out⟩
        · have d1 : ¬ (40 : Int) < (n : Int) := by omega
          go_wp2
          go_end0
          exact ⟨rfl, HO2.out⟩

theorem sortStable_any (hO : Ord cf ok) (g n : Nat) (kp : Value) (L : List Int) (ex : List Value) (w : World) (h : Row w g L ex) (hc : Cmps cf ok g kp w) (hs : L.Pairwise (· < ·)) (hok : ∀ x ∈ L, ok x) (hn : L.length = n) (h40 : n ≤ 40) :
    Calls Tryd.prog 39 #[.slice (some ⟨g, 0, none⟩) n n, .func (.func 40) #[] #[kp]] w fun e w' => e = .returned (.tuple #[]) ∧ OnePart cf g L ex w w' := by
  have HS := Lib.hid (stable_any hO g n kp L ex w h hc hs hok hn h40)
  clear h hO hc hs hok hn
  go_enter Tryd.func39, Tryd.ntmps39
  go_wp2_with fail
  refine HS.out.mono ?_
  rintro e w1 ⟨rfl, ho⟩
  have HO1 := Lib.hid ho
  clear ho
  go_wp2
  go_end0
  exact ⟨rfl, HO1.out⟩
end
end Go.Proofs.YtmmppflaacabbaaDoor
