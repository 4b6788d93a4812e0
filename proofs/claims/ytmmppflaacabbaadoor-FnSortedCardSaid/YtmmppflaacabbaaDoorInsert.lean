/- slices.insertionSortCmpFunc at int64 and impl.OrderBy's comparison sorts a stretch whose numbers rise, and keeps the order of equal ones: a contract. -/
import Derived.Test.YtmmppflaacabbaaDoorSwap
import Derived.Deep.QuietTactic
import Derived.BigQuiet
namespace Go.Proofs.YtmmppflaacabbaaDoor
open Go.ChangeShapes Go.WideShapes Go.ChangeAt Go.RowKit

/-- what is asked of the comparison: it reads, may draw, and answers cf -/
def Cmps (cf : Int → Int → Int) (ok : Int → Prop) (g : Nat) (kp : Value) (w : World) : Prop :=
  ∀ W, w.grownBy W (some g) → ∀ x y, ok x → ok y → Calls Tryd.prog 40 #[.int .i64 x, .int .i64 y, kp] W fun e w' => e = .returned (.int .i64 (cf x y)) ∧ ∃ m, w' = W.drewN m
theorem Cmps.later {cf : Int → Int → Int} {ok : Int → Prop} {g : Nat} {kp : Value} {w w' : World} (h : Cmps cf ok g kp w) (hg : w.grownBy w' (some g)) : Cmps cf ok g kp w' := fun W hW => h W (only_step hg hW)
theorem only_drewN {a w : World} {row : Option Nat} (h : a.grownBy w row) (n : Nat) : a.grownBy (w.drewN n) row := ⟨h.os, h.tape, h.output, h.size, h.block⟩
theorem Cmps.at_ {cf : Int → Int → Int} {ok : Int → Prop} {g : Nat} {kp : Value} {w wr : World} (h : Cmps cf ok g kp w) (hg : w.grownBy wr (some g)) {x y : Int} (hx : ok x) (hy : ok y) (m : Nat) :
    Calls Tryd.prog 40 #[.int .i64 x, .int .i64 y, kp] (wr.drewN m) fun e w' => e = .returned (.int .i64 (cf x y)) ∧ ∃ q, w' = wr.drewN q :=
  (h _ (only_drewN hg m) x y hx hy).mono fun _ _ ⟨he, q, hq⟩ => ⟨he, m + q, by rw [hq, World.drewN_drewN]⟩

theorem row_at {w : World} {g : Nat} {A C : List Int} {x : Int} {ex : List Value} (h : Row w g (A ++ x :: C) ex) : w.cell? ⟨g, A.length, none⟩ = some (.int .i64 x) := by
  have := h.cell (i := A.length) (by simp)
  rw [get_mid] at this
  exact this

section
variable {cf : Int → Int → Int} {ok : Int → Prop}
set_option maxRecDepth 100000 in
set_option maxHeartbeats 2000000 in
theorem insertion_any (hO : Ord cf ok) (g n c a b : Nat) (kp : Value) (X S Z : List Int) (ex : List Value) (w : World) (h : Row w g (X ++ (S ++ Z)) ex) (hc : Cmps cf ok g kp w) (hs : S.Pairwise (· < ·)) (hok : ∀ x ∈ S, ok x)
    (ha : X.length = a) (hb : a + S.length = b) (hn : b + Z.length = n) (hn2 : n ≤ 1048576) :
    Calls Tryd.prog 112 #[.slice (some ⟨g, 0, none⟩) n c, .int .i64 a, .int .i64 b, .func (.func 40) #[] #[kp]] w fun e w' => e = .returned (.tuple #[]) ∧ ∃ M, M.Perm S ∧ Srt cf M ∧ w.grownBy w' (some g) ∧ Row w' g (X ++ (M ++ Z)) ex := by
  have H := Lib.hid h
  have HO := Lib.hid hO
  have HC := Lib.hid hc
  have HS := Lib.hid hs
  have HOK := Lib.hid hok
  have HA := Lib.hid ha
  have HB := Lib.hid hb
  have HN := Lib.hid hn
  have ab : a ≤ b := by omega
  have bn : b ≤ n := by omega
  clear h hO hc hs hok ha hb hn
  go_enter Tryd.func112, Tryd.ntmps112
  go_wp2
  go_loopw [8] (fun vi wr => ∃ t : Nat, ∃ S1 T : List Int, vi = .int .i64 ((a + t : Nat) : Int) ∧ 1 ≤ t ∧ a + t ≤ b + 1 ∧ Hid (S1.length = min t S.length) ∧ Hid (S1.Perm (S.take t)) ∧ Hid (S.drop t = T) ∧ Hid (Srt cf S1) ∧ Hid (w.grownBy wr (some g)) ∧ Hid (Row wr g (X ++ (S1 ++ (T ++ Z))) ex)) (fun vi _ => (b : Int).toNat + 1 - (intOf vi).toNat)
  case atStart =>
    refine ⟨1, S.take 1, S.drop 1, by go_num, Nat.le_refl _, by omega, by show _ = _; simp, List.Perm.refl _, rfl, ?_, World.grownBy.refl _ _, ?_⟩
    · cases S with
      | nil => exact List.Pairwise.nil
      | cons x S => exact List.pairwise_singleton _ _
    · show Row _ _ _ _
      rw [← List.append_assoc (S.take 1), List.take_append_drop]
      exact H.out
  case round =>
    obtain ⟨t, S1, T, rfl, ht1, ht2, HL, HP, HT, HSR, HG, HR⟩ := hrel
    by_cases hlt : a + t < b
    · have i1 : ((a + t : Nat) : Int) < (b : Int) := by omega
      obtain ⟨e, he⟩ : ∃ e, S[t]? = some e := ⟨S[t]'(by have := HB.out; omega), List.getElem?_eq_getElem _⟩
      have hT : T = e :: S.drop (t + 1) := by
        obtain ⟨hs, e'⟩ := List.getElem?_eq_some_iff.1 he
        rw [← HT.out, List.drop_eq_getElem_cons hs, e']
      have hle : ∀ s ∈ S1, s < e := fun s hs => by
        have h1 := HP.out.subset hs
        have h2 := HS.out
        rw [← List.take_append_drop t S, List.pairwise_append] at h2
        exact h2.2.2 s h1 e (by rw [HT.out, hT]; simp)
      have hoe := HOK.out e (List.mem_of_getElem? he)
      have hos : ∀ s ∈ S1, ok s := fun s hs => HOK.out s (List.mem_of_mem_take (HP.out.subset hs))
      have hsl : S1.length = t := by rw [HL.out]; have := HB.out; omega
      have HLE := Lib.hid hle
      have HOE := Lib.hid hoe
      have HOS := Lib.hid hos
      have HE := Lib.hid he
      have HSL := Lib.hid hsl
      have HR0 : Hid (Row wr g (X ++ (S1 ++ e :: ([] ++ (S.drop (t + 1) ++ Z)))) ex) := by
        show Row _ _ _ _
        have := HR.out
        rw [hT] at this
        exact this
      clear he hle hoe hos hT hsl HR
      rename World => wo
      go_wp2_with fail
      go_loopw [9] (fun vj wr => ∃ j : Nat, ∃ A B : List Int, vj = .int .i64 j ∧ a ≤ j ∧ j ≤ a + t ∧ Hid (a + A.length = j) ∧ Hid (A ++ B = S1) ∧ Hid (∀ s ∈ B, Bef cf e s) ∧ Hid (w.grownBy wr (some g)) ∧ Hid (Row wr g (X ++ (A ++ e :: (B ++ (S.drop (t + 1) ++ Z)))) ex)) (fun vj _ => (intOf vj).toNat)
      case atStart => exact ⟨a + t, S1, [], rfl, by omega, Nat.le_refl _, by show _ = _; rw [HSL.out], by show _ = _; simp, (fun s hs => by cases hs), HG, HR0⟩
      case round =>
        obtain ⟨j, A, B, rfl, hj1, hj2, HJ, HAB, HBE, HG2, HR2⟩ := hrel
        have out : (∀ s, A.getLast? = some s → Bef cf s e) → Hid (∃ S2, S2.length = t + 1 ∧ S2.Perm (S.take (t + 1)) ∧ Srt cf S2 ∧ A ++ e :: B = S2) := fun hl => by
          refine ⟨A ++ e :: B, ?_, ?_, ?_, rfl⟩
          · have h1 := HSL.out
            rw [← HAB.out] at h1
            simp only [List.length_append, List.length_cons] at h1 ⊢
            omega
          · rw [List.take_add_one, HE.out]
            refine (List.perm_middle).trans ?_
            rw [HAB.out]
            refine (List.Perm.cons e HP.out).trans ?_
            exact (List.perm_append_comm (l₁ := [e]) (l₂ := S.take t))
          · exact ins_done HO.out (fun x hx => HOS.out x (by rw [← HAB.out]; simp [hx])) HOE.out (by rw [HAB.out]; exact HSR.out) hl HBE.out
        have OUT := Lib.hid out
        clear out
        by_cases hja : a < j
        · obtain ⟨jp, rfl⟩ : ∃ jp, j = jp + 1 := ⟨j - 1, by omega⟩
          obtain ⟨A1, s, rfl⟩ : ∃ A1 s, A = A1 ++ [s] := by
            rcases List.eq_nil_or_concat A with rfl | ⟨A1, s, rfl⟩
            · have := HJ.out; simp at this; omega
            · exact ⟨A1, s, List.concat_eq_append⟩
          have hr : Row wr g ((X ++ A1) ++ s :: ([] ++ e :: (B ++ (S.drop (t + 1) ++ Z)))) ex := by simpa [List.append_assoc] using HR2.out
          have hl1 : (X ++ A1).length = jp := by
            have h1 := HJ.out
            have h2 := HA.out
            simp only [List.length_append, List.length_cons, List.length_nil] at h1 ⊢
            omega
          have c1 := row_at hr
          have hr' : Row wr g (((X ++ A1) ++ [s]) ++ e :: (B ++ (S.drop (t + 1) ++ Z))) ex := by simpa [List.append_assoc] using HR2.out
          have c2 := row_at hr'
          rw [List.length_append, hl1] at c2
          rw [hl1] at c1
          have c2' : wr.cell? ⟨g, jp + 1, none⟩ = some (.int .i64 e) := c2
          have f1 := hr.frozen jp
          have f2 := hr.frozen (jp + 1)
          have hsw := fun W (hW : Row W g ((X ++ A1) ++ s :: ([] ++ e :: (B ++ (S.drop (t + 1) ++ Z)))) ex) => hW.swap'
          simp only [hl1, List.length_nil, Nat.add_zero] at hsw
          have hse : s < e := HLE.out s (by rw [← HAB.out]; simp)
          have hss := HOS.out s (by rw [← HAB.out]; simp)
          have HQ := Lib.hid (fun m => HC.out.at_ HG2.out HOE.out hss m)
          obtain ⟨v, hv⟩ : ∃ v, cf e s = v := ⟨_, rfl⟩
          simp only [hv] at HQ
          have HV := Lib.hid hv
          have HR3 := Lib.hid hr
          have HSW := Lib.hid hsw
          have j0 : ((jp + 1 : Nat) : Int) = (jp : Int) + 1 := by omega
          have j1 : (jp : Int) + 1 > (a : Int) := by omega
          have j2 : (jp : Int) + 1 < (n : Int) := by omega
          have j3 : (0 : Int) ≤ (jp : Int) := Int.natCast_nonneg _
          have j4 : (jp : Int) < (n : Int) := by omega
          have j5 : (0 : Int) ≤ (jp : Int) + 1 := by omega
          have j6 : ((jp : Int) + 1).toNat = jp + 1 := by omega
          have jw : IntKind.i64.wrap (jp : Int) = (jp : Int) := IntWalk.i64_in _ (by omega)
          clear hr hr' hl1 hsw hss hv c2
          rw [j0]
          by_cases hv0 : v < 0
          · go_wp2_with fail
            go_quiet ((go_at_call 40; exact (HQ.out _)))
            have HG3 := Lib.hid (only_drewN HG2.out nq)
            have hr3 : Row (wr.drewN nq) g ((X ++ A1) ++ s :: ([] ++ e :: (B ++ (S.drop (t + 1) ++ Z)))) ex := HR3.out
            have d1 : (wr.drewN nq).cell? ⟨g, jp, none⟩ = some (.int .i64 s) := c1
            have d2 : (wr.drewN nq).cell? ⟨g, jp + 1, none⟩ = some (.int .i64 e) := c2'
            have d3 : (wr.drewN nq).frozen? ⟨g, jp, none⟩ = false := f1
            have d4 : (wr.drewN nq).frozen? ⟨g, jp + 1, none⟩ = false := f2
            have hs3 := HSW.out _ hr3
            clear c1 c2' f1 f2 hr3
            generalize wr.drewN nq = W2 at HG3 d1 d2 d3 d4 hs3 ⊢
            obtain ⟨q, hq⟩ : ∃ q, jp + 1 = q := ⟨_, rfl⟩
            rw [hq] at d2 d4 hs3 j6
            have n1 : ¬ jp = q := by omega
            have n2 : ¬ q = jp := by omega
            have HS3 := Lib.hid hs3
            have HBE1 : Hid (∀ x ∈ s :: B, Bef cf e x) := fun x hx => by
              rcases List.mem_cons.1 hx with rfl | hx
              · exact (bef_iff hse).1 (by rw [HV.out]; exact hv0)
              · exact HBE.out x hx
            have HQQ := Lib.hid hq
            clear hq hs3 hse
            go_wp2_with fail
            go_big_region
            all_goals
              go_wp2
              go_roundw
              case rel => exact ⟨jp, A1, s :: B, rfl, by omega, by omega, by have h0 := HJ.out; rw [List.length_append] at h0; have h1 : [s].length = 1 := rfl; show a + A1.length = jp; omega, by show _ = _; rw [← HAB.out]; simp, HBE1, only_drew (only_swap HG3.out q jp _ _), by show Row _ _ _ _; have := HS3.out.drew; simpa [List.append_assoc] using this⟩
              case measure => simp [intOf]
          · obtain ⟨S2, z1, z2, z3, z4⟩ := (OUT.out (fun s' hs' => by
              have e' : s = s' := by simpa using hs'
              subst e'
              exact (bef_iff' HO.out HOE.out (HOS.out s (by rw [← HAB.out]; simp)) hse).1 (by rw [HV.out]; exact hv0))).out
            have HZ1 := Lib.hid z1
            have HZ2 := Lib.hid z2
            have HZ3 := Lib.hid z3
            have HR4 : Hid (Row wr g (X ++ (S2 ++ (S.drop (t + 1) ++ Z))) ex) := by
              show Row _ _ _ _
              rw [← z4]
              simpa [List.append_assoc] using HR2.out
            have hj' : ¬ jp + 1 ≤ a := by omega
            clear z1 z2 z3 z4 hse
            go_wp2_with fail
            go_quiet ((go_at_call 40; exact (HQ.out _)))
            go_wp2
            go_roundw
            case rel => exact ⟨t + 1, S2, S.drop (t + 1), by go_num, by omega, by omega, by show _ = _; rw [HZ1.out]; have := HB.out; omega, HZ2, rfl, HZ3, only_drewN HG2.out _, HR4.out.drewN _⟩
            case measure => simp [intOf]; omega
        · obtain rfl : A = [] := by
            have := HJ.out
            cases A with
            | nil => rfl
            | cons x A => simp at this; omega
          obtain ⟨S2, z1, z2, z3, z4⟩ := (OUT.out (fun s' hs' => by cases hs')).out
          have HZ1 := Lib.hid z1
          have HZ2 := Lib.hid z2
          have HZ3 := Lib.hid z3
          have HR4 : Hid (Row wr g (X ++ (S2 ++ (S.drop (t + 1) ++ Z))) ex) := by
            show Row _ _ _ _
            rw [← z4]
            simpa [List.append_assoc] using HR2.out
          obtain rfl : j = a := by omega
          have hd : decide ((j : Int) > (j : Int)) = false := by simp
          have hd2 : decide ((j : Int) < (j : Int)) = false := by simp
          clear z1 z2 z3 z4 hja
          go_wp2_with fail
          go_quiet (fail)
          go_wp2
          go_roundw
          case rel => exact ⟨t + 1, S2, S.drop (t + 1), by go_num, by omega, by omega, by show _ = _; rw [HZ1.out]; have := HB.out; omega, HZ2, rfl, HZ3, only_drewN HG2.out _, HR4.out.drewN _⟩
          case measure => simp [intOf]; omega
    · have i1 : ¬ ((a + t : Nat) : Int) < (b : Int) := by omega
      have hp := HP.out
      rw [List.take_of_length_le (by have := HB.out; omega)] at hp
      have hr := HR.out
      have hT : T = [] := by rw [← HT.out, List.drop_of_length_le (by have := HB.out; omega)]
      rw [hT] at hr
      have HP1 := Lib.hid hp
      have HR1 := Lib.hid hr
      clear hp hr hT HT HR
      go_wp2
      go_end0
      exact ⟨rfl, S1, HP1.out, HSR.out, HG.out, HR1.out⟩
end
end Go.Proofs.YtmmppflaacabbaaDoor
