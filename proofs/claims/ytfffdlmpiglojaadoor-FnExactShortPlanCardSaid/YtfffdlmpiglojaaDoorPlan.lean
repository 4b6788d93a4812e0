/- The full plan of a field: spec.l08Full, FullPlan, DigitPlan and impl.planOf, passesWhere, FullPlan, DigitPlan answer the same passes: contracts. -/
import Derived.Test.YtfffdlmpiglojaaDoorPlanMem
import Derived.Test.YtfffdlmpiglojaaDoorFieldOf
import Derived.Test.YtfffdlmpiglojaaDoorPlanMath
namespace Go.Proofs.YtfffdlmpiglojaaDoor
open Go.ChangeShapes Go.WideShapes Go.ChangeAt Go.RowKit

/-- the code of a field without a deck -/
def fieldC (a b : Int) : Int := if fieldB a b 20 = false then 2 else 0
def planF (a b : Int) : List (Int × Int) := if fieldB a b 20 = false then [] else planTo b (b - a).toNat
def digF (a b : Int) : List (Int × Int) := if fieldB a b 20 = false then [] else digTo b (b - a).toNat
theorem fieldC_cases (a b : Int) : (fieldB a b 20 = false ∧ fieldC a b = 2 ∧ planF a b = [] ∧ digF a b = []) ∨ (fieldB a b 20 = true ∧ 0 ≤ a ∧ a < b ∧ b ≤ 20 ∧ fieldC a b = 0 ∧ planF a b = planTo b (b - a).toNat ∧ digF a b = digTo b (b - a).toNat) := by
  unfold fieldC planF digF
  rcases fieldB_cases a b 20 with ⟨e, h⟩ | ⟨e, h, h2⟩ | ⟨e, h, h2, h3⟩ | ⟨e, h, h2, h3⟩
  · left; simp [e]
  · left; simp [e]
  · left; simp [e]
  · right; simp [e, h, h2, h3]

theorem own_start (w : World) (o : Obj) : ((w.alloc o).alloc (.cells #[] 60)).ownsRow (w.heap.size + 1) 60 2 (.slice (some ⟨w.heap.size + 1, 0, none⟩) 0 0) 0 [] := by
  have h := heap_alloc_new (w.alloc o) (.cells #[] 60)
  rw [World.size_alloc] at h
  exact ⟨rfl, Or.inr ⟨_, 0, #[], rfl, Nat.le_refl _, h, Nat.le_refl _, Nat.zero_le _, rfl, rfl⟩⟩

set_option maxHeartbeats 1000000 in
theorem l08Full_any (a b : Int) (w : World) (h0 : 0 ≤ a) (h1 : a < b) (h2 : b ≤ 20) :
    Calls Tryd.prog 34 #[.agg #[.int .i64 a, .int .i64 b]] w (GivesP (planTo b (b - a).toNat) w) := by
  obtain ⟨i0, hi0, hz0, hz1, hz2⟩ := info_parts info_pass
  have p0 : (w.alloc (.cells #[.int .i64 a, .int .i64 b] 31)).cell? ⟨w.heap.size, 0, none⟩ = some (.int .i64 a) := by simp
  have BW := Lib.hid (below_box w (.cells #[.int .i64 a, .int .i64 b] 31))
  have hz : Hid ((w.alloc (.cells #[.int .i64 a, .int .i64 b] 31)).heap.size = w.heap.size + 1) := by show _ = _; simp
  go_enter Tryd.func34, Tryd.ntmps34
  go_wp2
  go_loopw [3, 4] (fun v i wr => ∃ t : Nat, ∃ x : Int, ∃ vv : Value, (t : Int) ≤ b - a ∧ i = .int .i64 x ∧ vv = v ∧ x = b - 1 - t ∧ Hid (wr.ownsRow (w.heap.size + 1) 60 2 v (planTo b t).length (paCells (planTo b t))) ∧ Hid (Below (w.alloc (.cells #[.int .i64 a, .int .i64 b] 31)).heap.size (w.alloc (.cells #[.int .i64 a, .int .i64 b] 31)) wr)) (fun _ i _ => (intOf i + 1).toNat)
  case atStart => exact ⟨0, b - 1, _, by omega, rfl, rfl, by omega, own_start w _, below_box _ _⟩
  case round =>
    obtain ⟨t, x, vv, ht, rfl, rfl, hx, HO, HB⟩ := hrel
    have q0 := cell_kept p0 HB.out
    have hwr : w.heap.size + 1 ≤ wr.heap.size := by have := HB.out.size; rw [hz.out] at this; exact this
    by_cases hlt : (t : Int) < b - a
    · have i1 : x ≥ a := by omega
      have i2 : (0 : Int) ≤ (t : Int) := Int.natCast_nonneg _
      have hpl : Hid ((planTo b t).length = 2 * t) := planTo_length b t
      have HS := Lib.hid (planTo_succ b t)
      rw [← hx] at HS
      obtain ⟨P, hP⟩ : ∃ P, planTo b t = P := ⟨_, rfl⟩
      rw [hP] at HO hpl HS
      clear hP
      have hnl : P.length ≤ 40 := by have := hpl.out; omega
      have i3 : x ≤ 20 := by omega
      have HX := Lib.hid hx
      have HN2 := Lib.hid (pa_news wr [(x, 1), (x, 2)] _ rfl)
      clear hx
      go_wp2_with (at_builtin; refine wpList_append_own _ rfl _ _ 26 rfl (w.heap.size + 1) 60 i0 (.agg #[.int .i64 0, .int .i64 0]) 2 16 Tryd.underlying26 hi0 hz0 hz1 hz2 rfl (by decide) _ _ _ rfl (HO.out.alloc _) ⟨wr.heap.size, 0, none⟩ 2 2 (paCells [(x, 1), (x, 2)]) rfl rfl HN2.out (pa_one _) ?c3 ?c4 ?c5 ?_; rotate_left 3; intro v' w9 hown hgrow _; obtain ⟨ho, hbb⟩ := own_pass (Q := [(x, 1), (x, 2)]) hown hgrow HO.out HB.out (by rw [hz.out]; exact Nat.le_refl _) HB.out.size; have HW1 := Lib.hid ho; have HB1 := Lib.hid hbb; clear hown hgrow ho hbb)
      case c3 => unfold maxLen; omega
      case c4 => omega
      case c5 => simp; omega
      go_roundw
      case rel => exact ⟨t + 1, x - 1, _, by omega, rfl, rfl, by have := HX.out; omega, by rw [HS.out]; exact HW1, HB1⟩
      case measure => simp [intOf]; omega
    · have i1 : ¬ x ≥ a := by omega
      have he : t = (b - a).toNat := by omega
      have HE : Hid (∃ A cap, vv = .slice A (planTo b t).length cap ∧ PAt wr (w.heap.size + 1) wr.heap.size A (planTo b t)) := own_pat HO.out rfl
      have HT := Lib.hid he
      clear he hx HO
      obtain ⟨A', cap, rfl, hp⟩ := HE.out
      have HP := Lib.hid hp
      clear hp HE
      go_wp2
      go_ret
      refine ⟨A', cap, by rw [← HT.out]; rfl, below_step BW.out HB.out, ?_⟩
      rw [← HT.out]
      exact ⟨fun h => by obtain ⟨g, ex, e, g1, g2, g3⟩ := HP.out.top h; exact ⟨g, ex, e, by omega, g2, g3⟩, Nat.le_refl _⟩

set_option maxHeartbeats 1000000 in
theorem planOf_any (a b : Int) (w : World) (h0 : 0 ≤ a) (h1 : a < b) (h2 : b ≤ 20) :
    Calls Tryd.prog 39 #[.agg #[.int .i64 a, .int .i64 b]] w (GivesP (planTo b (b - a).toNat) w) := by
  obtain ⟨i0, hi0, hz0, hz1, hz2⟩ := info_parts info_pass
  have p0 : (w.alloc (.cells #[.int .i64 a, .int .i64 b] 31)).cell? ⟨w.heap.size, 0, none⟩ = some (.int .i64 a) := by simp
  have BW := Lib.hid (below_box w (.cells #[.int .i64 a, .int .i64 b] 31))
  have hz : Hid ((w.alloc (.cells #[.int .i64 a, .int .i64 b] 31)).heap.size = w.heap.size + 1) := by show _ = _; simp
  go_enter Tryd.func39, Tryd.ntmps39
  go_wp2
  go_loopw [3, 4] (fun v i wr => ∃ t : Nat, ∃ x : Int, ∃ vv : Value, (t : Int) ≤ b - a ∧ i = .int .i64 x ∧ vv = v ∧ x = b - 1 - t ∧ Hid (wr.ownsRow (w.heap.size + 1) 60 2 v (planTo b t).length (paCells (planTo b t))) ∧ Hid (Below (w.alloc (.cells #[.int .i64 a, .int .i64 b] 31)).heap.size (w.alloc (.cells #[.int .i64 a, .int .i64 b] 31)) wr)) (fun _ i _ => (intOf i + 1).toNat)
  case atStart => exact ⟨0, b - 1, _, by omega, rfl, rfl, by omega, World.ownsRow_nil _ _ _ _, Below.refl _ _⟩
  case round =>
    obtain ⟨t, x, vv, ht, rfl, rfl, hx, HO, HB⟩ := hrel
    have q0 := cell_kept p0 HB.out
    have hwr : w.heap.size + 1 ≤ wr.heap.size := by have := HB.out.size; rw [hz.out] at this; exact this
    by_cases hlt : (t : Int) < b - a
    · have i1 : x ≥ a := by omega
      have i2 : (0 : Int) ≤ (t : Int) := Int.natCast_nonneg _
      have hpl : Hid ((planTo b t).length = 2 * t) := planTo_length b t
      have HS := Lib.hid (planTo_succ b t)
      rw [← hx] at HS
      obtain ⟨P, hP⟩ : ∃ P, planTo b t = P := ⟨_, rfl⟩
      rw [hP] at HO hpl HS
      clear hP
      have hnl : P.length ≤ 40 := by have := hpl.out; omega
      have i3 : x ≤ 20 := by omega
      have HX := Lib.hid hx
      have HN2 := Lib.hid (pa_news wr [(x, 1), (x, 2)] _ rfl)
      clear hx
      go_wp2_with (at_builtin; refine wpList_append_own _ rfl _ _ 26 rfl (w.heap.size + 1) 60 i0 (.agg #[.int .i64 0, .int .i64 0]) 2 16 Tryd.underlying26 hi0 hz0 hz1 hz2 rfl (by decide) _ _ _ rfl (HO.out.alloc _) ⟨wr.heap.size, 0, none⟩ 2 2 (paCells [(x, 1), (x, 2)]) rfl rfl HN2.out (pa_one _) ?c3 ?c4 ?c5 ?_; rotate_left 3; intro v' w9 hown hgrow _; obtain ⟨ho, hbb⟩ := own_pass (Q := [(x, 1), (x, 2)]) hown hgrow HO.out HB.out (by rw [hz.out]; exact Nat.le_refl _) HB.out.size; have HW1 := Lib.hid ho; have HB1 := Lib.hid hbb; clear hown hgrow ho hbb)
      case c3 => unfold maxLen; omega
      case c4 => omega
      case c5 => simp; omega
      go_roundw
      case rel => exact ⟨t + 1, x - 1, _, by omega, rfl, rfl, by have := HX.out; omega, by rw [HS.out]; exact HW1, HB1⟩
      case measure => simp [intOf]; omega
    · have i1 : ¬ x ≥ a := by omega
      have he : t = (b - a).toNat := by omega
      have HE : Hid (∃ A cap, vv = .slice A (planTo b t).length cap ∧ PAt wr (w.heap.size + 1) wr.heap.size A (planTo b t)) := own_pat HO.out rfl
      have HT := Lib.hid he
      clear he hx HO
      obtain ⟨A', cap, rfl, hp⟩ := HE.out
      have HP := Lib.hid hp
      clear hp HE
      go_wp2
      go_ret
      refine ⟨A', cap, by rw [← HT.out]; rfl, below_step BW.out HB.out, ?_⟩
      rw [← HT.out]
      exact ⟨fun h => by obtain ⟨g, ex, e, g1, g2, g3⟩ := HP.out.top h; exact ⟨g, ex, e, by omega, g2, g3⟩, Nat.le_refl _⟩

theorem PAt.wide {w : World} {lo lo' hi hi' : Nat} {A : Option Addr} {P : List (Int × Int)} (h : PAt w lo hi A P) (h1 : lo' ≤ lo) (h2 : hi ≤ hi') (h3 : hi' ≤ w.heap.size) : PAt w lo' hi' A P :=
  ⟨fun h0 => by obtain ⟨g, ex, e, g1, g2, g3⟩ := h.top h0; exact ⟨g, ex, e, by omega, by omega, g3⟩, h3⟩
theorem planF_length (a b : Int) : (planF a b).length ≤ 40 := by
  rcases fieldC_cases a b with ⟨_, _, e, _⟩ | ⟨_, h0, h1, h2, _, e, _⟩
  · rw [e]; decide
  · rw [e, planTo_length]; omega
theorem digF_length (a b : Int) : (digF a b).length ≤ 40 := by
  rcases fieldC_cases a b with ⟨_, _, _, e⟩ | ⟨_, h0, h1, h2, _, _, e⟩
  · rw [e]; decide
  · rw [e, digTo_length]; omega

end Go.Proofs.YtfffdlmpiglojaaDoor