/- The full plan without the passes that are idle for a deck: spec.ShortPlan, impl.passesWhere (at ShortPlan's closure) and ShortPlan: contracts. -/
import Derived.Test.YtfffdlmpiglojaaDoorSortFirst
import Derived.Test.YtfffdlmpiglojaaDoorIdle
import Derived.Test.YtfffdlmpiglojaaDoorPlan
import Derived.Test.YtfffdlmpiglojaaDoorOwnMem
namespace Go.Proofs.YtfffdlmpiglojaaDoor
open Go.ChangeShapes Go.WideShapes Go.ChangeAt Go.RowKit

theorem filter_more (g : Int × Int → Bool) {P : List (Int × Int)} {k : Nat} {q : Int × Int} (h : P[k]? = some q) : (P.take (k + 1)).filter g = (P.take k).filter g ++ (if g q = true then [q] else []) := by
  rw [List.take_add_one, h, List.filter_append]
  congr 1
  by_cases hg : g q = true
  · rw [if_pos hg]; simp [hg]
  · rw [if_neg hg]; simp [hg]
/-- the passes of the full plan that are not idle -/
def busy (H : List (List Int)) (q : Int × Int) : Bool := !idleV H q.1 q.2
def shortP (H : List (List Int)) (a b : Int) : List (Int × Int) := if keysC H a b = 0 then (planTo b (b - a).toNat).filter (busy H) else []
theorem shortP_length (H : List (List Int)) (a b : Int) : (shortP H a b).length ≤ 1048576 := by
  unfold shortP
  split
  · rename_i h
    obtain ⟨i, j, rfl, rfl, hij, hj, hv, _⟩ := keysC_zero h
    have h1 := List.length_filter_le (busy H) (planTo (j : Int) ((j : Int) - (i : Int)).toNat)
    rw [planTo_length] at h1
    have h2 : widthH H ≤ 20 := by
      unfold widthH
      split
      · exact Nat.le_refl _
      · rename_i h0
        obtain ⟨x, hx⟩ : ∃ x, H[0]? = some x := ⟨H[0]'(by omega), List.getElem?_eq_getElem _⟩
        have := (okB_parts (deck_width hv hx).1).2
        simpa [firstZ, hx] using this
    omega
  · simp
theorem width_20 {H : List (List Int)} (hv : deckB H = true) : widthH H ≤ 20 := by
  unfold widthH
  split
  · exact Nat.le_refl _
  · rename_i h0
    obtain ⟨x, hx⟩ : ∃ x, H[0]? = some x := ⟨H[0]'(by omega), List.getElem?_eq_getElem _⟩
    have := (okB_parts (deck_width hv hx).1).2
    simpa [firstZ, hx] using this
theorem plan_col {b i n : Nat} {q : Int × Int} (h : q ∈ planTo (b : Int) n) (hn : n ≤ b) (hb : b ≤ i) : ∃ k : Nat, q.1 = k ∧ k < i := by
  have : ∀ n, q ∈ planTo (b : Int) n → (b : Int) - n ≤ q.1 ∧ q.1 ≤ b - 1 := fun n => by
    induction n with
    | zero => intro h; cases h
    | succ n ih =>
      intro h
      rw [planTo_succ, List.mem_append] at h
      rcases h with h | h
      · have := ih h
        omega
      · simp only [List.mem_cons, List.not_mem_nil, or_false] at h
        rcases h with rfl | rfl <;> simp only <;> omega
  have := this n h
  exact ⟨q.1.toNat, by omega, by omega⟩

section
variable (A : Option Addr) (c : Nat) (D : List CardV) (B : Nat) (a b : Int) (w : World) (h : Deck w B A D) (hB : B ≤ w.heap.size) (hn : D.length ≤ 1048576) (hl : ∀ d ∈ D, d.xs.length ≤ 1048576)
include h hB hn hl

set_option maxRecDepth 100000 in
set_option maxHeartbeats 2000000 in
theorem specShort_any (hcap : CapsOk D) :
    Calls Tryd.prog 9 #[.slice A D.length c, .agg #[.int .i64 a, .int .i64 b]] w (GivesPC (shortP (holes D) a b) (keysC (holes D) a b) w) := by
  have b0 := below_box w (.cells #[.int .i64 a, .int .i64 b] 31)
  have p0 : (w.alloc (.cells #[.int .i64 a, .int .i64 b] 31)).cell? ⟨w.heap.size, 0, none⟩ = some (.int .i64 a) := by simp
  have p1 : (w.alloc (.cells #[.int .i64 a, .int .i64 b] 31)).cell? ⟨w.heap.size, 1, none⟩ = some (.int .i64 b) := by simp
  have hk := l07Keys_any A c D B a b (w.alloc (.cells #[.int .i64 a, .int .i64 b] 31)) (h.below (b0.mono hB)) (by simp; omega) hn hl hcap
  have BW := Lib.hid b0
  obtain ⟨n, hN⟩ : ∃ n, D.length = n := ⟨_, rfl⟩
  rw [shortP]
  by_cases e : keysC (holes D) a b = 0
  · obtain ⟨i0, hi0, hz0, hz1, hz2⟩ := info_parts info_pass
    obtain ⟨i, j, rfl, rfl, hij, hj, hv, hkb⟩ := keysC_zero e
    have hj20 : j ≤ 20 := Nat.le_trans hj (width_20 hv)
    have hf := fun W => l08Full_any (i : Int) (j : Int) W (Int.natCast_nonneg _) (by omega) (by omega)
    have hid := fun (q : Int × Int) (hq : q ∈ planTo (j : Int) ((j : Int) - (i : Int)).toNat) W (hW : Below w.heap.size w W) => (show Calls Tryd.prog 35 #[.slice A D.length c, .agg #[.int .i64 q.1, .int .i64 q.2]] W fun e w' => e = .returned (.bool (idleV (holes D) q.1 q.2)) ∧ Below W.heap.size W w' from by
      obtain ⟨k, e1, e2⟩ := plan_col hq (by omega) hj
      rw [e1]
      exact l08Idle_any A c D B k q.2 W (h.below (hW.mono hB)) (Nat.le_trans hB hW.size) hv e2)
    have hpl := planTo_length (j : Int) ((j : Int) - (i : Int)).toNat
    rw [e] at hk ⊢
    rw [if_pos rfl]
    obtain ⟨P, hP⟩ : ∃ P, planTo (j : Int) ((j : Int) - (i : Int)).toNat = P := ⟨_, rfl⟩
    simp only [hP] at hf hid
    rw [hP] at hpl ⊢
    have hpn : P.length ≤ 40 := by omega
    obtain ⟨m, hM⟩ : ∃ m, P.length = m := ⟨_, rfl⟩
    rw [hM] at hpn
    unfold GivesP at hf
    simp only [hM] at hf
    obtain ⟨H, hH⟩ : ∃ H, holes D = H := ⟨_, rfl⟩
    simp only [hH, hN] at hid
    rw [hH]
    rw [hN] at hk
    have HK := Lib.hid hk
    have HF := Lib.hid hf
    have HID := Lib.hid hid
    have HM := Lib.hid hM
    rw [hN]
    clear hk hf hid h hl hcap b0 e hv hkb hj hN hn hP hM hpl hH
    go_enter Tryd.func9, Tryd.ntmps9
    go_wp2_with fail
    refine HK.out.mono ?_
    rintro e w1 (⟨h0, _⟩ | ⟨_, A', cap, rfl, hb, _⟩)
    · exact absurd rfl h0
    have B1 := Lib.hid (below_step BW.out hb)
    have q0 := cell_kept p0 hb
    have q1 := cell_kept p1 hb
    clear hb HK p0 p1
    go_wp2_with fail
    refine (HF.out _).mono ?_
    rintro e w2 ⟨A2, c2, rfl, hb, hp⟩
    have B2 := Lib.hid (below_step B1.out hb)
    have HP2 := Lib.hid hp
    clear hb hp q0 q1
    go_wp2_with fail
    go_loopw [9, 10] (fun v i wr => ∃ t : Nat, ∃ vv : Value, t ≤ m ∧ i = .int .i64 t ∧ vv = v ∧ Hid (wr.ownsRow w2.heap.size 60 2 v ((P.take t).filter (busy H)).length (paCells ((P.take t).filter (busy H)))) ∧ Hid (Below w2.heap.size w2 wr)) (fun _ i _ => m - (intOf i).toNat)
    case atStart => exact ⟨0, _, Nat.zero_le _, rfl, rfl, ⟨rfl, Or.inr ⟨w2.heap.size, 0, #[], rfl, Nat.le_refl _, heap_alloc_new _ _, Nat.le_refl _, Nat.zero_le _, rfl, rfl⟩⟩, below_box _ _⟩
    case round =>
      obtain ⟨t, vv, ht, rfl, rfl, HO, HB⟩ := hrel
      by_cases hlt : t < m
      · obtain ⟨q, hq⟩ : ∃ q, P[t]? = some q := ⟨P[t]'(by rw [HM.out]; exact hlt), List.getElem?_eq_getElem _⟩
        obtain ⟨bb, off, rfl, hbb, hcell⟩ := (HP2.out.passes.below HB.out) (by rw [HM.out]; omega)
        obtain ⟨c1, c2'⟩ := hcell t q hq
        have hidq := HID.out q (List.mem_of_getElem? hq) wr (below_step B2.out HB.out)
        have HS := Lib.hid (filter_more (busy H) hq)
        have hle := List.length_filter_le (busy H) (P.take t)
        have hlt2 : (P.take t).length ≤ t := List.length_take_le _ _
        obtain ⟨Q, hQ⟩ : ∃ Q, (P.take t).filter (busy H) = Q := ⟨_, rfl⟩
        rw [hQ] at HO HS hle
        obtain ⟨x, y⟩ := q
        simp only at c1 c2' hidq
        obtain ⟨u, hu⟩ : ∃ u, idleV H x y = u := ⟨_, rfl⟩
        have hbu : busy H (x, y) = !u := by rw [busy, hu]
        rw [hbu] at HS
        rw [hu] at hidq
        have HIQ := Lib.hid hidq
        have k0 : (0 : Int) ≤ (t : Int) := Int.natCast_nonneg _
        have k1 : (t : Int) < (m : Int) := by omega
        have hnl : Q.length ≤ 40 := by omega
        have hwr : w2.heap.size ≤ wr.heap.size := HB.out.size
        clear hcell hq hQ hbb hle hlt2 hidq hu hbu
        cases u
        · have HS1 : Hid ((P.take (t + 1)).filter (busy H) = Q ++ [(x, y)]) := by show _ = _; rw [HS.out]; rfl
          go_wp2_with fail
          refine HIQ.out.mono ?_
          rintro e w3 ⟨rfl, hb⟩
          have d1 := cell_kept c1 hb
          have d2 := cell_kept c2' hb
          have HB2 := Lib.hid (below_step HB.out hb)
          have HO2 : Hid (w3.ownsRow w2.heap.size 60 2 vv Q.length (paCells Q)) := own_moved HO.out (fun i _ hi => hb.block i hi)
          have HN2 := Lib.hid (pa_news w3 [(x, y)] _ rfl)
          have hz3 : w2.heap.size ≤ w3.heap.size := HB2.out.size
          clear hb c1 c2'
          go_wp2_with (at_builtin; refine wpList_append_own _ rfl _ _ 26 rfl w2.heap.size 60 i0 (.agg #[.int .i64 0, .int .i64 0]) 2 16 Tryd.underlying26 hi0 hz0 hz1 hz2 rfl (by decide) _ _ _ rfl (HO2.out.alloc _) ⟨w3.heap.size, 0, none⟩ 1 1 (paCells [(x, y)]) rfl rfl HN2.out (pa_one _) ?c3 ?c4 ?c5 ?_; rotate_left 3; intro v' w9 hown hgrow _; obtain ⟨ho, hbb⟩ := own_pass (Q := [(x, y)]) hown hgrow HO2.out HB2.out (Nat.le_refl _) hz3; have HW1 := Lib.hid ho; have HB1 := Lib.hid hbb; clear hown hgrow ho hbb)
          case c3 => unfold maxLen; omega
          case c4 => omega
          case c5 => simp; omega
          go_roundw
          case rel => exact ⟨t + 1, _, by omega, by go_num, rfl, by rw [HS1.out]; exact HW1, HB1⟩
          case measure => simp [intOf]; omega
        · have HS1 : Hid ((P.take (t + 1)).filter (busy H) = Q) := by show _ = _; rw [HS.out]; simp
          go_wp2_with fail
          refine HIQ.out.mono ?_
          rintro e w3 ⟨rfl, hb⟩
          have HB2 := Lib.hid (below_step HB.out hb)
          have HO2 : Hid (w3.ownsRow w2.heap.size 60 2 vv Q.length (paCells Q)) := own_moved HO.out (fun i _ hi => hb.block i hi)
          clear hb
          go_wp2
          go_roundw
          case rel => exact ⟨t + 1, _, by omega, by go_num, rfl, by rw [HS1.out]; exact HO2, HB2⟩
          case measure => simp [intOf]; omega
      · have htn : t = m := by omega
        have k1 : ¬ (t : Int) < (m : Int) := by omega
        have HT : Hid ((P.take t).filter (busy H) = P.filter (busy H)) := by
          show _ = _
          rw [List.take_of_length_le (by rw [HM.out]; omega)]
        rw [HT.out] at HO
        have HE : Hid (∃ A cap, vv = .slice A (P.filter (busy H)).length cap ∧ PAt wr w2.heap.size wr.heap.size A (P.filter (busy H))) := own_pat HO.out rfl
        clear htn HO HT
        obtain ⟨A3, cap3, rfl, hp⟩ := HE.out
        have HP := Lib.hid (hp.wide B2.out.size (Nat.le_refl _) (Nat.le_refl _))
        clear hp HE
        go_wp2
        go_ret2
        exact ⟨A3, cap3, rfl, below_step B2.out HB.out, HP.out⟩
  · rw [if_neg e]
    obtain ⟨k, hk0⟩ : ∃ k, keysC (holes D) a b = k := ⟨_, rfl⟩
    rw [hk0] at hk e ⊢
    rw [hN] at hk ⊢
    have e1 : (k != 0) = true := by simpa using e
    have HK := Lib.hid hk
    clear hk h hl hcap b0 hk0 hN hn
    go_enter Tryd.func9, Tryd.ntmps9
    go_wp2_with fail
    refine HK.out.mono ?_
    rintro e' w1 (⟨_, rfl, hb⟩ | ⟨h0, _⟩)
    · have B1 := Lib.hid (below_step BW.out hb)
      clear hb HK
      go_wp2
      go_ret2
      exact ⟨none, 0, rfl, B1.out, PAt.nil (Nat.le_refl _)⟩
    · exact absurd h0 e
end

set_option maxHeartbeats 1000000 in
theorem whereBusy_any (A : Option Addr) (c : Nat) (P : List (Int × Int)) (B db : Nat) (g : Int × Int → Bool) (w : World) (h : Passes w B A P) (hB : B ≤ w.heap.size) (hn : P.length ≤ 40)
    (hg : ∀ q ∈ P, ∀ W, Below w.heap.size w W → Calls Tryd.prog 40 #[.agg #[.int .i64 q.1, .int .i64 q.2], .pointer (some ⟨db, 0, none⟩)] W fun e w' => e = .returned (.bool (g q)) ∧ Below W.heap.size W w') :
    Calls Tryd.prog 38 #[.slice A P.length c, .func (.func 40) #[] #[.pointer (some ⟨db, 0, none⟩)]] w (GivesP (P.filter g) w) := by
  obtain ⟨i0, hi0, hz0, hz1, hz2⟩ := info_parts info_pass
  obtain ⟨n, hN⟩ : ∃ n, P.length = n := ⟨_, rfl⟩
  rw [hN] at hn
  rw [hN]
  have H := Lib.hid h
  have HN := Lib.hid hN
  have HK := Lib.hid hg
  clear h hN hg
  go_enter Tryd.func38, Tryd.ntmps38
  go_wp2
  go_loopw [5, 10] (fun v i wr => ∃ t : Nat, ∃ vv : Value, t ≤ n ∧ i = .int .i64 t ∧ vv = v ∧ Hid (wr.ownsRow w.heap.size 60 2 v ((P.take t).filter g).length (paCells ((P.take t).filter g))) ∧ Hid (Below w.heap.size w wr)) (fun _ i _ => n - (intOf i).toNat)
  case atStart => exact ⟨0, _, Nat.zero_le _, rfl, rfl, World.ownsRow_nil _ _ _ _, Below.refl _ _⟩
  case round =>
    obtain ⟨t, vv, ht, rfl, rfl, HO, HB⟩ := hrel
    by_cases hlt : t < n
    · obtain ⟨q, hq⟩ : ∃ q, P[t]? = some q := ⟨P[t]'(by rw [HN.out]; exact hlt), List.getElem?_eq_getElem _⟩
      obtain ⟨b, off, rfl, hb, hcell⟩ := (H.out.below (HB.out.mono hB)) (by rw [HN.out]; omega)
      obtain ⟨c1, c2⟩ := hcell t q hq
      have hkq := HK.out q (List.mem_of_getElem? hq)
      have HS := Lib.hid (filter_more g hq)
      have hle := List.length_filter_le g (P.take t)
      have hlt2 : (P.take t).length ≤ t := List.length_take_le _ _
      obtain ⟨Q, hQ⟩ : ∃ Q, (P.take t).filter g = Q := ⟨_, rfl⟩
      rw [hQ] at HO HS hle
      obtain ⟨x, y⟩ := q
      simp only at c1 c2 hkq
      obtain ⟨u, hu⟩ : ∃ u, g (x, y) = u := ⟨_, rfl⟩
      rw [hu] at HS
      simp only [hu] at hkq
      have HKQ := Lib.hid hkq
      have k0 : (0 : Int) ≤ (t : Int) := Int.natCast_nonneg _
      have k1 : (t : Int) < (n : Int) := by omega
      have hnl : Q.length ≤ 40 := by omega
      have bx := below_box wr (.cells #[.int .i64 x, .int .i64 y] 60)
      have x0 : (wr.alloc (.cells #[.int .i64 x, .int .i64 y] 60)).cell? ⟨wr.heap.size, 0, none⟩ = some (.int .i64 x) := by simp
      have x1 : (wr.alloc (.cells #[.int .i64 x, .int .i64 y] 60)).cell? ⟨wr.heap.size, 1, none⟩ = some (.int .i64 y) := by simp
      have B1 := Lib.hid (below_step HB.out bx)
      have HO1 := Lib.hid (HO.out.alloc (.cells #[.int .i64 x, .int .i64 y] 60))
      clear hcell hq hQ hb bx hle hlt2 hkq hu
      cases u
      · have HS1 : Hid ((P.take (t + 1)).filter g = Q) := by show _ = _; rw [HS.out]; simp
        go_wp2_with fail
        refine (HKQ.out _ B1.out).mono ?_
        rintro e w2 ⟨rfl, hb⟩
        have HB2 := Lib.hid (below_step B1.out hb)
        have HO2 : Hid (w2.ownsRow w.heap.size 60 2 vv Q.length (paCells Q)) := own_moved HO1.out (fun i _ hi => hb.block i hi)
        clear hb
        go_wp2
        go_roundw
        case rel => exact ⟨t + 1, _, by omega, by go_num, rfl, by rw [HS1.out]; exact HO2, HB2⟩
        case measure => simp [intOf]; omega
      · have HS1 : Hid ((P.take (t + 1)).filter g = Q ++ [(x, y)]) := by show _ = _; rw [HS.out]; rfl
        go_wp2_with fail
        refine (HKQ.out _ B1.out).mono ?_
        rintro e w2 ⟨rfl, hb⟩
        have y0 := cell_kept x0 hb
        have y1 := cell_kept x1 hb
        have HB2 := Lib.hid (below_step B1.out hb)
        have HO2 : Hid (w2.ownsRow w.heap.size 60 2 vv Q.length (paCells Q)) := own_moved HO1.out (fun i _ hi => hb.block i hi)
        have HN2 := Lib.hid (pa_news w2 [(x, y)] _ rfl)
        have hz2' : w.heap.size ≤ w2.heap.size := HB2.out.size
        clear hb
        go_wp2_with (at_builtin; refine wpList_append_own _ rfl _ _ 26 rfl w.heap.size 60 i0 (.agg #[.int .i64 0, .int .i64 0]) 2 16 Tryd.underlying26 hi0 hz0 hz1 hz2 rfl (by decide) _ _ _ rfl (HO2.out.alloc _) ⟨w2.heap.size, 0, none⟩ 1 1 (paCells [(x, y)]) rfl rfl HN2.out (pa_one _) ?c3 ?c4 ?c5 ?_; rotate_left 3; intro v' w9 hown hgrow _; obtain ⟨ho, hbb⟩ := own_pass (Q := [(x, y)]) hown hgrow HO2.out HB2.out (Nat.le_refl _) hz2'; have HW1 := Lib.hid ho; have HB1 := Lib.hid hbb; clear hown hgrow ho hbb)
        case c3 => unfold maxLen; omega
        case c4 => omega
        case c5 => simp; omega
        go_roundw
        case rel => exact ⟨t + 1, _, by omega, by go_num, rfl, by rw [HS1.out]; exact HW1, HB1⟩
        case measure => simp [intOf]; omega
    · have htn : t = n := by omega
      have k1 : ¬ (t : Int) < (n : Int) := by omega
      have HT : Hid ((P.take t).filter g = P.filter g) := by
        show _ = _
        rw [List.take_of_length_le (by rw [HN.out]; omega)]
      rw [HT.out] at HO
      have HE : Hid (∃ A cap, vv = .slice A (P.filter g).length cap ∧ PAt wr w.heap.size wr.heap.size A (P.filter g)) := own_pat HO.out rfl
      clear htn HO HT
      obtain ⟨A', cap, rfl, hp⟩ := HE.out
      have HP := Lib.hid hp
      clear hp HE
      go_wp2
      go_ret
      exact ⟨A', cap, rfl, HB.out, HP.out⟩

theorem busy_any (A : Option Addr) (c : Nat) (D : List CardV) (B : Nat) (w : World) (h : Deck w B A D) (hB : B ≤ w.heap.size) (db k : Nat) (m : Int) (hv : deckB (holes D) = true) (hk : k < widthH (holes D)) (hd : w.cell? ⟨db, 0, none⟩ = some (.slice A D.length c)) :
    Calls Tryd.prog 40 #[.agg #[.int .i64 k, .int .i64 m], .pointer (some ⟨db, 0, none⟩)] w fun e w' => e = .returned (.bool (!idleV (holes D) k m)) ∧ Below w.heap.size w w' := by
  have b0 := below_box w (.cells #[.int .i64 k, .int .i64 m] 60)
  have hi := isIdle_any A c D B k m _ (h.below (b0.mono hB)) (Nat.le_trans hB b0.size) hv hk
  have d1 := cell_kept hd b0
  obtain ⟨r, hr⟩ : ∃ r, idleV (holes D) k m = r := ⟨_, rfl⟩
  obtain ⟨n, hN⟩ : ∃ n, D.length = n := ⟨_, rfl⟩
  rw [hN, hr] at hi
  rw [hN] at d1
  rw [hr]
  have HI := Lib.hid hi
  have B0 := Lib.hid b0
  clear hi hr hN h hv hk hd b0
  go_enter Tryd.func40, Tryd.ntmps40
  go_wp2_with fail
  refine HI.out.mono ?_
  rintro e w1 ⟨rfl, hb⟩
  have B1 := Lib.hid (below_step B0.out hb)
  clear hb
  go_wp2
  go_ret
  exact ⟨rfl, B1.out⟩

section
variable (A : Option Addr) (c : Nat) (D : List CardV) (B : Nat) (a b : Int) (w : World) (h : Deck w B A D) (hB : B ≤ w.heap.size) (hn : D.length ≤ 1048576) (hl : ∀ d ∈ D, d.xs.length ≤ 1048576)
include h hB hn hl

set_option maxHeartbeats 1000000 in
theorem implShort_any (hcap : CapsOk D) (hP : Places w) :
    Calls Tryd.prog 12 #[.slice A D.length c, .agg #[.int .i64 a, .int .i64 b]] w (GivesPC (shortP (holes D) a b) (keysC (holes D) a b) w) := by
  obtain ⟨W0, hW0⟩ : ∃ W0, (w.alloc (.cells #[.slice A D.length c] 29)).alloc (.cells #[.int .i64 a, .int .i64 b] 31) = W0 := ⟨_, rfl⟩
  have b0 : Below w.heap.size w W0 := by rw [← hW0]; exact (below_box w _).alloc (by simp) _
  have d0 : W0.cell? ⟨w.heap.size, 0, none⟩ = some (.slice A D.length c) := by rw [← hW0]; simp [go_sem]
  have p0 : W0.cell? ⟨w.heap.size + 1, 0, none⟩ = some (.int .i64 a) := by rw [← hW0]; simp [go_sem]
  have p1 : W0.cell? ⟨w.heap.size + 1, 1, none⟩ = some (.int .i64 b) := by rw [← hW0]; simp [go_sem]
  have hk := keysOf_any A c D B a b W0 (h.below (b0.mono hB)) (Nat.le_trans hB b0.size) hn hl hcap (hP.below b0)
  have B0 := Lib.hid b0
  have HW := Lib.hid hW0
  rw [shortP]
  by_cases e : keysC (holes D) a b = 0
  · obtain ⟨i, j, rfl, rfl, hij, hj, hv, hkb⟩ := keysC_zero e
    have hj20 : j ≤ 20 := Nat.le_trans hj (width_20 hv)
    have hf := fun W => planOf_any (i : Int) (j : Int) W (Int.natCast_nonneg _) (by omega) (by omega)
    have hpl := planTo_length (j : Int) ((j : Int) - (i : Int)).toNat
    have hb := fun (W : World) (hW : Below W0.heap.size W0 W) A' c' (h' : Passes W W.heap.size A' (planTo (j : Int) ((j : Int) - (i : Int)).toNat)) => whereBusy_any A' c' (planTo (j : Int) ((j : Int) - (i : Int)).toNat) W.heap.size w.heap.size (busy (holes D)) W h' (Nat.le_refl _) (by rw [hpl]; omega) (fun q hq W' hW' => by
      obtain ⟨k, e1, e2⟩ := plan_col hq (by omega) hj
      rw [busy, e1]
      have hWW := b0.trans ((hW.trans (hW'.mono hW.size)).mono b0.size)
      exact busy_any A c D B W' (h.below (hWW.mono hB)) (Nat.le_trans hB hWW.size) w.heap.size k q.2 hv e2 (cell_kept (cell_kept d0 hW) hW'))
    rw [e] at hk ⊢
    rw [if_pos rfl]
    obtain ⟨P, hPP⟩ : ∃ P, planTo (j : Int) ((j : Int) - (i : Int)).toNat = P := ⟨_, rfl⟩
    simp only [hPP] at hf hb
    rw [hPP]
    obtain ⟨n, hN⟩ : ∃ n, D.length = n := ⟨_, rfl⟩
    obtain ⟨Q, hQ⟩ : ∃ Q, P.filter (busy (holes D)) = Q := ⟨_, rfl⟩
    simp only [hQ] at hb
    rw [hQ]
    rw [hN] at hk HW ⊢
    have HK := Lib.hid hk
    have HF := Lib.hid hf
    have HB := Lib.hid hb
    clear hk hf hb h hl hcap b0 e hv hkb hj hN hn hPP hpl hQ hP hW0 d0
    go_enter Tryd.func12, Tryd.ntmps12
    go_wp2_with fail
    try rw [HW.out]
    refine HK.out.mono ?_
    rintro e w1 (⟨h0, _⟩ | ⟨_, g1, E1, rfl, hb, _, _⟩)
    · exact absurd rfl h0
    have B1 := Lib.hid (below_step B0.out hb)
    have C1 := Lib.hid hb
    have q0 := cell_kept p0 hb
    have q1 := cell_kept p1 hb
    clear hb HK p0 p1
    go_wp2_with fail
    refine (HF.out _).mono ?_
    rintro e w2 ⟨A2, c2, rfl, hb, hp⟩
    have B2 := Lib.hid (below_step B1.out hb)
    have C2 := Lib.hid (below_step C1.out hb)
    have HP2 := Lib.hid hp
    clear hb hp q0 q1
    go_wp2_with fail
    refine (HB.out _ C2.out _ _ HP2.out.passes).mono ?_
    rintro e w3 ⟨A3, c3, rfl, hb, hp⟩
    have B3 := Lib.hid (below_step B2.out hb)
    have HP3 := Lib.hid (hp.wide B2.out.size (Nat.le_refl _) (Nat.le_refl _))
    clear hb hp
    go_wp2
    go_ret2
    exact ⟨A3, c3, rfl, B3.out, HP3.out⟩
  · rw [if_neg e]
    obtain ⟨k, hk0⟩ : ∃ k, keysC (holes D) a b = k := ⟨_, rfl⟩
    obtain ⟨n, hN⟩ : ∃ n, D.length = n := ⟨_, rfl⟩
    rw [hk0] at hk e ⊢
    rw [hN] at hk HW ⊢
    have e1 : (k != 0) = true := by simpa using e
    have HK := Lib.hid hk
    clear hk h hl hcap b0 hk0 hN hn hP hW0 d0
    go_enter Tryd.func12, Tryd.ntmps12
    go_wp2_with fail
    try rw [HW.out]
    refine HK.out.mono ?_
    rintro e' w1 (⟨_, rfl, hb⟩ | ⟨h0, _⟩)
    · have B1 := Lib.hid (below_step B0.out hb)
      clear hb HK
      go_wp2
      go_ret2
      exact ⟨none, 0, rfl, B1.out, PAt.nil (Nat.le_refl _)⟩
    · exact absurd h0 e
end
end Go.Proofs.YtfffdlmpiglojaaDoor
