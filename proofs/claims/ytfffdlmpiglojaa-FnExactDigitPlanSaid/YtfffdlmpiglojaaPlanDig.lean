/- The passes of the full plan with digits: spec.DigitPlan, impl.passesWhere, DigitPlan: contracts. -/
import Derived.Test.YtfffdlmpiglojaaPlan
import Derived.Test.YtfffdlmpiglojaaOwnMem
namespace Go.Proofs.Ytfffdlmpiglojaa
open Go.ChangeShapes Go.WideShapes Go.ChangeAt Go.RowKit

set_option maxHeartbeats 1000000 in
theorem specDigitPlan_any (a b : Int) (w : World) :
    Calls Try.prog 14 #[.agg #[.int .i64 a, .int .i64 b]] w (GivesPC (digF a b) (fieldC a b) w) := by
  have hf : ∀ W : World, Calls Try.prog 28 #[.agg #[.int .i64 a, .int .i64 b], .int .i64 20] W fun e w' => e = .returned (.bool (fieldB a b 20)) ∧ Below W.heap.size W w' := fun W => l02Field_any a b 20 W
  have p0 : (w.alloc (.cells #[.int .i64 a, .int .i64 b] 27)).cell? ⟨w.heap.size, 0, none⟩ = some (.int .i64 a) := by simp
  have p1 : (w.alloc (.cells #[.int .i64 a, .int .i64 b] 27)).cell? ⟨w.heap.size, 1, none⟩ = some (.int .i64 b) := by simp
  have B0 := Lib.hid (below_box w (.cells #[.int .i64 a, .int .i64 b] 27))
  rcases fieldC_cases a b with ⟨e, ec, _, ep⟩ | ⟨e, h0, h1, h2, ec, _, ep⟩
  · rw [ec, ep]
    simp only [e] at hf
    have HF := Lib.hid hf
    clear hf e ec ep
    go_enter Try.func14, Try.ntmps14
    go_wp2_with fail
    refine (HF.out _).mono ?_
    rintro e w1 ⟨rfl, hb⟩
    have B1 := Lib.hid (below_step B0.out hb)
    clear hb
    go_wp2
    go_ret2
    exact ⟨none, 0, rfl, B1.out, PAt.nil (Nat.le_refl _)⟩
  · obtain ⟨i0, hi0, hz0, hz1, hz2⟩ := info_parts info_pass
    rw [ec, ep]
    simp only [e] at hf
    have HF := Lib.hid hf
    clear hf e ec ep
    go_enter Try.func14, Try.ntmps14
    go_wp2_with fail
    refine (HF.out _).mono ?_
    rintro e w1 ⟨rfl, hb⟩
    have B1 := Lib.hid (below_step B0.out hb)
    have q0 := cell_kept p0 hb
    have q1 := cell_kept p1 hb
    have Q0 := Lib.hid q0
    have r1 : (w1.alloc (.cells #[] 40)).cell? ⟨w.heap.size, 1, none⟩ = some (.int .i64 b) := cell_kept q1 (below_box w1 _)
    clear hb p0 p1 q0 q1
    go_wp2
    clear r1
    go_loopw [4, 5] (fun v i wr => ∃ t : Nat, ∃ x : Int, ∃ vv : Value, (t : Int) ≤ b - a ∧ i = .int .i64 x ∧ vv = v ∧ x = b - 1 - t ∧ Hid (wr.ownsRow w1.heap.size 40 2 v (digTo b t).length (paCells (digTo b t))) ∧ Hid (Below w1.heap.size w1 wr)) (fun _ i _ => (intOf i + 1).toNat)
    case atStart => exact ⟨0, b - 1, _, by omega, rfl, rfl, by omega, ⟨rfl, Or.inr ⟨w1.heap.size, 0, #[], rfl, Nat.le_refl _, heap_alloc_new _ _, Nat.le_refl _, Nat.zero_le _, rfl, rfl⟩⟩, below_box _ _⟩
    case round =>
      obtain ⟨t, x, vv, ht, rfl, rfl, hx, HO, HB⟩ := hrel
      have r0 := cell_kept Q0.out HB.out
      by_cases hlt : (t : Int) < b - a
      · have i1 : x ≥ a := by omega
        have i2 : (0 : Int) ≤ (t : Int) := Int.natCast_nonneg _
        have hpl : Hid ((digTo b t).length = t) := digTo_length b t
        have HS := Lib.hid (digTo_succ b t)
        rw [← hx] at HS
        obtain ⟨P, hP⟩ : ∃ P, digTo b t = P := ⟨_, rfl⟩
        rw [hP] at HO hpl HS
        clear hP
        have hnl : P.length ≤ 40 := by have := hpl.out; omega
        have i3 : x ≤ 20 := by omega
        have HX := Lib.hid hx
        have HN2 := Lib.hid (pa_news wr [(x, 1)] _ rfl)
        clear hx
        go_wp2_with (at_builtin; refine wpList_append_own _ rfl _ _ 24 rfl w1.heap.size 40 i0 (.agg #[.int .i64 0, .int .i64 0]) 2 16 Try.underlying24 hi0 hz0 hz1 hz2 rfl (by decide) _ _ _ rfl (HO.out.alloc _) ⟨wr.heap.size, 0, none⟩ 1 1 (paCells [(x, 1)]) rfl rfl HN2.out (pa_one _) ?c3 ?c4 ?c5 ?_; rotate_left 3; intro v' w9 hown hgrow _; obtain ⟨ho, hbb⟩ := own_pass (Q := [(x, 1)]) hown hgrow HO.out HB.out (Nat.le_refl _) HB.out.size; have HW1 := Lib.hid ho; have HB1 := Lib.hid hbb; clear hown hgrow ho hbb)
        case c3 => unfold maxLen; omega
        case c4 => omega
        case c5 => simp only [World.size_alloc]; have := HB.out.size; omega
        go_roundw
        case rel => exact ⟨t + 1, x - 1, _, by omega, rfl, rfl, by have := HX.out; omega, by rw [HS.out]; exact HW1, HB1⟩
        case measure => simp [intOf]; omega
      · have i1 : ¬ x ≥ a := by omega
        have he : t = (b - a).toNat := by omega
        have HE : Hid (∃ A cap, vv = .slice A (digTo b t).length cap ∧ PAt wr w1.heap.size wr.heap.size A (digTo b t)) := own_pat HO.out rfl
        have HT := Lib.hid he
        clear he hx HO
        obtain ⟨A', cap, rfl, hp⟩ := HE.out
        have HP := Lib.hid hp
        clear hp HE
        go_wp2
        go_ret2
        refine ⟨A', cap, by rw [← HT.out]; rfl, below_step B1.out HB.out, ?_⟩
        rw [← HT.out]
        exact HP.out.wide B1.out.size (Nat.le_refl _) (Nat.le_refl _)

theorem filter_snoc (g : Int × Int → Bool) {P : List (Int × Int)} {k : Nat} {q : Int × Int} (h : P[k]? = some q) : (P.take (k + 1)).filter g = (P.take k).filter g ++ (if g q = true then [q] else []) := by
  rw [List.take_add_one, h, List.filter_append]
  congr 1
  by_cases hg : g q = true
  · rw [if_pos hg]; simp [hg]
  · rw [if_neg hg]; simp [hg]

theorem digit_any (a b : Int) (w : World) :
    Calls Try.prog 34 #[.agg #[.int .i64 a, .int .i64 b]] w fun e w' => e = .returned (.bool (b == 1)) ∧ Below w.heap.size w w' := by
  go_enter Try.func34, Try.ntmps34
  go_wp2
  go_ret
  exact ⟨rfl, below_box w _⟩

set_option maxHeartbeats 1000000 in
theorem whereDigits_any (A : Option Addr) (c : Nat) (P : List (Int × Int)) (B : Nat) (w : World) (h : Passes w B A P) (hB : B ≤ w.heap.size) (hn : P.length ≤ 40) :
    Calls Try.prog 33 #[.slice A P.length c, .func (.func 34) #[] #[]] w (GivesP (P.filter fun q => q.2 == 1) w) := by
  obtain ⟨i0, hi0, hz0, hz1, hz2⟩ := info_parts info_pass
  obtain ⟨n, hN⟩ : ∃ n, P.length = n := ⟨_, rfl⟩
  rw [hN] at hn
  rw [hN]
  have H := Lib.hid h
  have HN := Lib.hid hN
  have HK := Lib.hid digit_any
  clear h hN
  go_enter Try.func33, Try.ntmps33
  go_wp2
  go_loopw [5, 10] (fun v i wr => ∃ t : Nat, ∃ vv : Value, t ≤ n ∧ i = .int .i64 t ∧ vv = v ∧ Hid (wr.ownsRow w.heap.size 40 2 v ((P.take t).filter fun q => q.2 == 1).length (paCells ((P.take t).filter fun q => q.2 == 1))) ∧ Hid (Below w.heap.size w wr)) (fun _ i _ => n - (intOf i).toNat)
  case atStart => exact ⟨0, _, Nat.zero_le _, rfl, rfl, World.ownsRow_nil _ _ _ _, Below.refl _ _⟩
  case round =>
    obtain ⟨t, vv, ht, rfl, rfl, HO, HB⟩ := hrel
    by_cases hlt : t < n
    · obtain ⟨q, hq⟩ : ∃ q, P[t]? = some q := ⟨P[t]'(by rw [HN.out]; exact hlt), List.getElem?_eq_getElem _⟩
      obtain ⟨b, off, rfl, hb, hcell⟩ := (H.out.below (HB.out.mono hB)) (by rw [HN.out]; omega)
      obtain ⟨c1, c2⟩ := hcell t q hq
      have HS := Lib.hid (filter_snoc (fun q => q.2 == 1) hq)
      have hle := List.length_filter_le (fun q : Int × Int => q.2 == 1) (P.take t)
      have hlt2 : (P.take t).length ≤ t := List.length_take_le _ _
      obtain ⟨Q, hQ⟩ : ∃ Q, (P.take t).filter (fun q => q.2 == 1) = Q := ⟨_, rfl⟩
      rw [hQ] at HO HS hle
      obtain ⟨x, y⟩ := q
      simp only at c1 c2 HS
      have k0 : (0 : Int) ≤ (t : Int) := Int.natCast_nonneg _
      have k1 : (t : Int) < (n : Int) := by omega
      have hnl : Q.length ≤ 40 := by omega
      have bx := below_box wr (.cells #[.int .i64 x, .int .i64 y] 40)
      have x0 : (wr.alloc (.cells #[.int .i64 x, .int .i64 y] 40)).cell? ⟨wr.heap.size, 0, none⟩ = some (.int .i64 x) := by simp
      have x1 : (wr.alloc (.cells #[.int .i64 x, .int .i64 y] 40)).cell? ⟨wr.heap.size, 1, none⟩ = some (.int .i64 y) := by simp
      have B1 := Lib.hid (below_step HB.out bx)
      have HO1 := Lib.hid (HO.out.alloc (.cells #[.int .i64 x, .int .i64 y] 40))
      clear hcell hq hQ hb bx hle hlt2
      by_cases he : y = 1
      · subst he
        have HS1 : Hid ((P.take (t + 1)).filter (fun q => q.2 == 1) = Q ++ [(x, 1)]) := by show _ = _; rw [HS.out]; rfl
        go_wp2_with fail
        refine (HK.out _ _ _).mono ?_
        rintro e w2 ⟨rfl, hb⟩
        have y0 := cell_kept x0 hb
        have y1 := cell_kept x1 hb
        have HB2 := Lib.hid (below_step B1.out hb)
        have HO2 : Hid (w2.ownsRow w.heap.size 40 2 vv Q.length (paCells Q)) := own_moved HO1.out (fun i _ hi => hb.block i hi)
        have HN2 := Lib.hid (pa_news w2 [(x, 1)] _ rfl)
        clear hb
        go_wp2_with (at_builtin; refine wpList_append_own _ rfl _ _ 24 rfl w.heap.size 40 i0 (.agg #[.int .i64 0, .int .i64 0]) 2 16 Try.underlying24 hi0 hz0 hz1 hz2 rfl (by decide) _ _ _ rfl (HO2.out.alloc _) ⟨w2.heap.size, 0, none⟩ 1 1 (paCells [(x, 1)]) rfl rfl HN2.out (pa_one _) ?c3 ?c4 ?c5 ?_; rotate_left 3; intro v' w9 hown hgrow _; obtain ⟨ho, hbb⟩ := own_pass (Q := [(x, 1)]) hown hgrow HO2.out HB2.out (Nat.le_refl _) HB2.out.size; have HW1 := Lib.hid ho; have HB1 := Lib.hid hbb; clear hown hgrow ho hbb)
        case c3 => unfold maxLen; omega
        case c4 => omega
        case c5 => simp only [World.size_alloc]; have := HB2.out.size; omega
        go_roundw
        case rel => exact ⟨t + 1, _, by omega, by go_num, rfl, by rw [HS1.out]; exact HW1, HB1⟩
        case measure => simp [intOf]; omega
      · have e1 : (y == 1) = false := by simpa using he
        have HS1 : Hid ((P.take (t + 1)).filter (fun q => q.2 == 1) = Q) := by show _ = _; rw [HS.out, e1]; simp
        go_wp2_with fail
        refine (HK.out _ _ _).mono ?_
        rintro e w2 ⟨rfl, hb⟩
        have HB2 := Lib.hid (below_step B1.out hb)
        have HO2 : Hid (w2.ownsRow w.heap.size 40 2 vv Q.length (paCells Q)) := own_moved HO1.out (fun i _ hi => hb.block i hi)
        clear hb
        go_wp2
        go_roundw
        case rel => exact ⟨t + 1, _, by omega, by go_num, rfl, by rw [HS1.out]; exact HO2, HB2⟩
        case measure => simp [intOf]; omega
    · have htn : t = n := by omega
      have k1 : ¬ (t : Int) < (n : Int) := by omega
      have HT : Hid ((P.take t).filter (fun q => q.2 == 1) = P.filter (fun q => q.2 == 1)) := by
        show _ = _
        rw [List.take_of_length_le (by rw [HN.out]; omega)]
      rw [HT.out] at HO
      have HE : Hid (∃ A cap, vv = .slice A (P.filter fun q => q.2 == 1).length cap ∧ PAt wr w.heap.size wr.heap.size A (P.filter fun q => q.2 == 1)) := own_pat HO.out rfl
      clear htn HO HT
      obtain ⟨A', cap, rfl, hp⟩ := HE.out
      have HP := Lib.hid hp
      clear hp HE
      go_wp2
      go_ret
      exact ⟨A', cap, rfl, HB.out, HP.out⟩

theorem implDigitPlan_any (a b : Int) (w : World) :
    Calls Try.prog 15 #[.agg #[.int .i64 a, .int .i64 b]] w (GivesPC (digF a b) (fieldC a b) w) := by
  have hp := implFullPlan_any a b (w.alloc (.cells #[.int .i64 a, .int .i64 b] 27))
  have hl := planF_length a b
  have hd : (planF a b).filter (fun q => q.2 == 1) = digF a b := by
    rcases fieldC_cases a b with ⟨_, _, e, e'⟩ | ⟨_, _, _, _, _, e, e'⟩
    · rw [e, e']; rfl
    · rw [e, e']; exact planTo_digits _ _
  obtain ⟨P, hP⟩ : ∃ P, planF a b = P := ⟨_, rfl⟩
  obtain ⟨v, hv⟩ : ∃ v, fieldC a b = v := ⟨_, rfl⟩
  rw [hP, hv] at hp
  rw [hP] at hl hd
  have hq := fun A c W (h : Passes W W.heap.size A P) => whereDigits_any A c P W.heap.size W h (Nat.le_refl _) hl
  simp only [hd] at hq
  obtain ⟨Q, hQ⟩ : ∃ Q, digF a b = Q := ⟨_, rfl⟩
  simp only [hQ] at hq
  rw [hQ, hv]
  have B0 := Lib.hid (below_box w (.cells #[.int .i64 a, .int .i64 b] 27))
  have HP := Lib.hid hp
  have HQ := Lib.hid hq
  clear hp hq hd hP hv hQ
  go_enter Try.func15, Try.ntmps15
  go_wp2_with fail
  refine HP.out.mono ?_
  rintro e w1 ⟨A1, c1, rfl, hb, ho⟩
  have B1 := Lib.hid (below_step B0.out hb)
  have HO := Lib.hid ho.passes
  clear hb ho
  go_wp2_with fail
  refine (HQ.out _ _ _ HO.out).mono ?_
  rintro e w2 ⟨A2, c2, rfl, hb, ho⟩
  have B2 := Lib.hid (below_step B1.out hb)
  have HO2 := Lib.hid (ho.wide B1.out.size (Nat.le_refl _) (Nat.le_refl _))
  clear hb ho
  go_wp2
  go_ret2
  exact ⟨A2, c2, rfl, B2.out, HO2.out⟩
end Go.Proofs.Ytfffdlmpiglojaa
