/- spec.SequenceErrors, spec.l09Groups and spec.GroupsOf tell the places of a deck where a card is less than, or differs from, the one before it: contracts. -/
import Derived.Test.YtmdamciheekeoaaDoorOrderS
import Derived.Test.YtmdamciheekeoaaDoorColMath
import Derived.Test.YtmdamciheekeoaaDoorIntsAt
import Derived.Test.YtmdamciheekeoaaDoorOrderP
import Derived.Test.YtmdamciheekeoaaDoorGrow
namespace Go.Proofs.YtmdamciheekeoaaDoor
open Go.ChangeShapes Go.WideShapes Go.ChangeAt Go.RowKit

theorem keyOf_at {D : List CardV} {i j n kg : Nat} {w : World} (hrow : KeyRow w kg D i j) (hv : deckB (holes D) = true) (hkb : keysB (holes D) i j = true) (hj : j ≤ widthH (holes D)) (hN : D.length = n) {p : Nat} (hp : p < n) :
    ∃ d, D[p]? = some d ∧ w.cell? ⟨kg, p, none⟩ = some (.string (textS (partOf d.xs i j))) ∧ (partOf d.xs i j).length = j - i ∧ textOk (partOf d.xs i j) = true ∧ j - i ≤ 20 ∧ (textS (partOf d.xs i j)).size = j - i := by
  obtain ⟨d, hd⟩ : ∃ d, D[p]? = some d := ⟨D[p]'(by omega), List.getElem?_eq_getElem _⟩
  obtain ⟨g1, g2⟩ := deck_width hv (holes_at hd)
  have l1 := partOf_length d.xs i j (by rw [g2]; exact hj)
  have h20 := (okB_parts g1).2
  exact ⟨d, hd, hrow p d hd, l1, keysB_at (holes_at hd) hkb, by omega, by rw [← l1]; exact textL_length _⟩
theorem texts_ne {x y : ByteArray} (h : x ≠ y) : (x.toList == y.toList) = false := by
  rw [beq_eq_false_iff_ne]
  intro hh
  apply h
  rw [ByteArray.toList_eq, ByteArray.toList_eq] at hh
  obtain ⟨⟨x⟩⟩ := x
  obtain ⟨⟨y⟩⟩ := y
  simpa using hh
theorem seqQ_zero (H : List (List Int)) (i j : Nat) : seqQ H i j 0 = false := by simp [seqQ]
theorem seqQ_succ (H : List (List Int)) (i j t : Nat) : seqQ H i j (t + 1) = decide (cmpK H i j (t + 1) t < 0) := by simp [seqQ]
theorem grpQ_zero (H : List (List Int)) (i j : Nat) : grpQ H i j 0 = true := by simp [grpQ]
theorem grpQ_succ (H : List (List Int)) (i j t : Nat) : grpQ H i j (t + 1) = !decide (cmpK H i j (t + 1) t = 0) := by simp [grpQ]
theorem empty_ints (w : World) : (w.alloc (.cells #[] 2)).ownsRow w.heap.size 2 1 (.slice (some ⟨w.heap.size, 0, none⟩) 0 0) 0 [] :=
  ⟨rfl, Or.inr ⟨w.heap.size, 0, #[], rfl, Nat.le_refl _, heap_alloc_new w _, Nat.le_refl _, Nat.zero_le _, rfl, rfl⟩⟩
theorem int_news (W : World) (x : Value) : ∀ j u, [x][j]? = some u → (W.alloc (.cells #[x] 2)).cell? ((⟨W.heap.size, 0, none⟩ : Addr).add j) = some u := by
  intro j u hj
  match j, hj with
  | 0, hj => simp at hj; subst hj; simp [Addr.add]

section
variable (A : Option Addr) (c : Nat) (D : List CardV) (B : Nat) (a b : Int) (w : World) (h : Deck w B A D) (hB : B ≤ w.heap.size) (hn : D.length ≤ 1048576) (hl : ∀ d ∈ D, d.xs.length ≤ 1048576)
include h hB hn hl

set_option maxRecDepth 100000 in
set_option maxHeartbeats 2000000 in
theorem specSeq_any (hcap : CapsOk D) :
    Calls Tryd.prog 25 #[.slice A D.length c, .agg #[.int .i64 a, .int .i64 b]] w (GivesIC (seqA (holes D) a b) (keysC (holes D) a b) w) := by
  obtain ⟨i0, hi0, hz0, hz1, hz2⟩ := info_parts info_int64
  have b0 := below_box w (.cells #[.int .i64 a, .int .i64 b] 30)
  have hk := l07Keys_any A c D B a b (w.alloc (.cells #[.int .i64 a, .int .i64 b] 30)) (h.below (b0.mono hB)) (by simp; omega) hn hl hcap
  have BW := Lib.hid b0
  obtain ⟨n, hN⟩ : ∃ n, D.length = n := ⟨_, rfl⟩
  by_cases e : keysC (holes D) a b = 0
  · obtain ⟨i, j, rfl, rfl, hij, hj, hv, hkb⟩ := keysC_zero e
    have hn40 : n ≤ 40 := by
      have := deck_len hv
      simp [holes, hN] at this
      exact this
    have ha : seqA (holes D) i j = wherePl (seqQ (holes D) i j) n := by
      unfold seqA
      rw [if_pos e, Int.toNat_natCast, Int.toNat_natCast, holes_len, hN]
    rw [ha, e]
    rw [e, Int.toNat_natCast, Int.toNat_natCast] at hk
    unfold GivesKeys at hk
    rw [hN] at hk ⊢
    have hcm := fun kg (w : World) (hr : KeyRow w kg D i j) p q (hp : p < n) (hq : q < n) => keyCmp_any hr hv hkb hj hN hp hq
    have HCM := Lib.hid hcm
    have HK := Lib.hid hk
    clear hk h hl hcap b0 e hv hkb hj hij hN ha hcm
    go_enter Tryd.func25, Tryd.ntmps25
    go_wp2_with fail
    refine HK.out.mono ?_
    rintro e w1 (⟨h0, _⟩ | ⟨_, A', cap, rfl, hb, hrow⟩)
    · exact absurd rfl h0
    have B1 := Lib.hid (below_step BW.out hb)
    have HRW := Lib.hid hrow
    have HE0 := Lib.hid (empty_ints w1)
    clear hb hrow HK
    go_wp2
    go_loopw [8, 9] (fun vo vi wr => ∃ t : Nat, ∃ vv : Value, (t + 1 ≤ n ∨ t = 0) ∧ vi = .int .i64 ((t : Int) + 1) ∧ vv = vo ∧ Hid (Below w1.heap.size w1 wr) ∧ Hid (wr.ownsRow w1.heap.size 2 1 vo (wherePl (seqQ (holes D) i j) (t + 1)).length ((wherePl (seqQ (holes D) i j) (t + 1)).map (Value.int .i64)))) (fun _ vi _ => n + 1 - (intOf vi).toNat)
    case atStart => exact ⟨0, _, Or.inr rfl, rfl, rfl, below_box w1 _, by rw [wherePl_no (seqQ_zero _ _ _)]; exact HE0⟩
    case round =>
      obtain ⟨t, vv, ht, rfl, rfl, HB, HO⟩ := hrel
      by_cases hlt : t + 1 < n
      · obtain ⟨kg, rfl, hg, hkr⟩ := HRW.out (by omega)
        obtain ⟨S1, S2, c1, c2, hcall⟩ := HCM.out kg w1 hkr (t + 1) t hlt (by omega)
        have d1 := cell_kept c1 HB.out
        have d2 := cell_kept c2 HB.out
        have hcf : cfK (holes D) i j ((t + 1 : Nat) : Int) (t : Int) = cmpK (holes D) i j (t + 1) t := by
          unfold cfK
          rw [Int.toNat_natCast, Int.toNat_natCast]
        rw [hcf] at hcall
        have hq := seqQ_succ (holes D) i j t
        obtain ⟨v, hv⟩ : ∃ v, cmpK (holes D) i j (t + 1) t = v := ⟨_, rfl⟩
        rw [hv] at hcall hq
        have HC := Lib.hid (fun m => hcall (wr.drewN m))
        have hlen := wherePl_len (seqQ (holes D) i j) (t + 1)
        have t0 : (0 : Int) ≤ (t : Int) := Int.natCast_nonneg _
        have t1 : (t : Int) + 1 < (n : Int) := by omega
        have t2 : (t : Int) < (n : Int) := by omega
        have t3 : (0 : Int) ≤ (t : Int) + 1 := by omega
        have hz : w1.heap.size ≤ wr.heap.size := HB.out.size
        clear hcall hv hcf c1 c2 hkr
        by_cases hv0 : v < 0
        · have hs := wherePl_yes (n := t + 1) (hq.trans (by simpa using hv0))
          obtain ⟨zs, hzs⟩ : ∃ zs, wherePl (seqQ (holes D) i j) (t + 1) = zs := ⟨_, rfl⟩
          rw [hzs] at HO hlen hs
          have HS := Lib.hid hs
          clear hq hs hzs
          go_wp2
          go_quiet ((go_at_call 57; exact Calls.quiet_of_same (HC.out _)))
          have HON : Hid ((wr.drewN nq).ownsRow w1.heap.size 2 1 vv zs.length (zs.map (Value.int .i64))) := HO.out
          have HBN := Lib.hid (below_drewN HB.out nq)
          have hzn : w1.heap.size ≤ (wr.drewN nq).heap.size := hz
          go_wp2_with (at_builtin; refine wpList_append_own _ rfl _ _ 40 rfl w1.heap.size 2 i0 (.int .i64 0) 1 8 Tryd.underlying40 hi0 hz0 hz1 hz2 rfl (by decide) _ _ _ rfl (HON.out.alloc _) ⟨wr.heap.size, 0, none⟩ 1 1 [.int .i64 ((t : Int) + 1)] rfl rfl ?c1 ?c2 ?c3 ?c4 ?c5 ?_; rotate_left 5; intro v' w9 hown hgrow _; obtain ⟨ho, hbb⟩ := own_more (v := vv) hown hgrow HON.out HBN.out (Nat.le_refl _) hzn; have HW1 := Lib.hid ho; have HB1 := Lib.hid hbb; clear hown hgrow ho hbb)
          case c1 => exact int_news _ _
          case c2 => intro u hu; simp at hu; subst hu; rfl
          case c3 => unfold maxLen; omega
          case c4 => omega
          case c5 => simp; omega
          go_roundw
          case rel => exact ⟨t + 1, _, Or.inl (by omega), by go_num, rfl, HB1, by rw [HS.out]; exact HW1⟩
          case measure => simp [intOf]; omega
        · have hs := wherePl_no (n := t + 1) (hq.trans (by simpa using hv0))
          have HS := Lib.hid hs
          clear hq hs
          go_wp2
          go_quiet ((go_at_call 57; exact Calls.quiet_of_same (HC.out _)))
          go_wp2
          go_roundw
          case rel => exact ⟨t + 1, _, Or.inl (by omega), by go_num, rfl, below_drewN HB.out _, by rw [HS.out]; exact HO.out⟩
          case measure => simp [intOf]; omega
      · have t1 : ¬ (t : Int) + 1 < (n : Int) := by omega
        have hfin : wherePl (seqQ (holes D) i j) (t + 1) = wherePl (seqQ (holes D) i j) n := by
          rcases ht with ht | rfl
          · rw [show t + 1 = n by omega]
          · rcases Nat.eq_zero_or_pos n with rfl | hp
            · exact wherePl_no (seqQ_zero _ _ _)
            · rw [show 0 + 1 = n by omega]
        have how := HO.out
        rw [hfin] at how
        obtain ⟨A9, c9, rfl, hA⟩ := owned_list how rfl
        have HA := Lib.hid hA
        have BB := Lib.hid (below_step B1.out HB.out)
        have hz := B1.out.size
        have hlen := wherePl_len (seqQ (holes D) i j) n
        clear how hA hfin HO
        go_wp2
        go_ret2
        refine ⟨A9, c9, rfl, BB.out, fun h0 => ?_, Nat.le_refl _⟩
        obtain ⟨g9, ex9, e9, hg9, hr9⟩ := HA.out h0
        exact ⟨g9, ex9, e9, by omega, hr9.lt, hr9⟩
  · obtain ⟨k, hk0⟩ : ∃ k, keysC (holes D) a b = k := ⟨_, rfl⟩
    have ha : seqA (holes D) a b = [] := by
      unfold seqA
      rw [if_neg e]
    rw [ha, hk0]
    rw [hk0] at hk e
    rw [hN] at hk ⊢
    have e1 : (k != 0) = true := by simpa using e
    have HK := Lib.hid hk
    clear hk h hl hcap b0 hk0 hN hn ha
    go_enter Tryd.func25, Tryd.ntmps25
    go_wp2_with fail
    refine HK.out.mono ?_
    rintro e' w1 (⟨_, rfl, hb⟩ | ⟨h0, _⟩)
    · have B1 := Lib.hid (below_step BW.out hb)
      clear hb HK
      go_wp2
      go_ret2
      exact ⟨none, 0, rfl, B1.out, fun h0 => absurd h0 (by simp), Nat.le_refl _⟩
    · exact absurd h0 e
end

set_option maxRecDepth 100000 in
set_option maxHeartbeats 2000000 in
theorem l09Groups_any (A : Option Addr) (c : Nat) (D : List CardV) (i j : Nat) (w : World) (hr : 0 < D.length → ∃ g, A = some ⟨g, 0, none⟩ ∧ g < w.heap.size ∧ KeyRow w g D i j) (hv : deckB (holes D) = true) (hkb : keysB (holes D) i j = true) (hj : j ≤ widthH (holes D)) :
    Calls Tryd.prog 68 #[.slice A D.length c] w (GivesI (wherePl (grpQ (holes D) i j) D.length) w) := by
  obtain ⟨i0, hi0, hz0, hz1, hz2⟩ := info_parts info_int64
  have hn40 : D.length ≤ 40 := by
    have := deck_len hv
    simpa [holes] using this
  obtain ⟨n, hN⟩ : ∃ n, D.length = n := ⟨_, rfl⟩
  rw [hN] at hn40 hr ⊢
  have hat := fun kg (w : World) (hr : KeyRow w kg D i j) p (hp : p < n) => keyOf_at hr hv hkb hj hN hp
  have HAT := Lib.hid hat
  have HRW := Lib.hid hr
  have HE0 := Lib.hid (empty_ints w)
  clear hat hr hN hv hkb hj
  go_enter Tryd.func68, Tryd.ntmps68
  go_wp2
  go_loopw [3, 4] (fun vo vi wr => ∃ t : Nat, ∃ vv : Value, t ≤ n ∧ vi = .int .i64 t ∧ vv = vo ∧ Hid (Below w.heap.size w wr) ∧ Hid (wr.ownsRow w.heap.size 2 1 vo (wherePl (grpQ (holes D) i j) t).length ((wherePl (grpQ (holes D) i j) t).map (Value.int .i64)))) (fun _ vi _ => n - (intOf vi).toNat)
  case atStart => exact ⟨0, _, Nat.zero_le _, rfl, rfl, below_box w _, HE0⟩
  case round =>
    obtain ⟨t, vv, ht, rfl, rfl, HB, HO⟩ := hrel
    by_cases hlt : t < n
    · obtain ⟨kg, rfl, hg, hkr⟩ := HRW.out (by omega)
      have hlen := wherePl_len (grpQ (holes D) i j) t
      have t0 : (0 : Int) ≤ (t : Int) := Int.natCast_nonneg _
      have t1 : (t : Int) < (n : Int) := by omega
      have hz : w.heap.size ≤ wr.heap.size := HB.out.size
      rcases Nat.eq_zero_or_pos t with rfl | hpos
      · have hs := wherePl_yes (grpQ_zero (holes D) i j)
        obtain ⟨zs, hzs⟩ : ∃ zs, wherePl (grpQ (holes D) i j) 0 = zs := ⟨_, rfl⟩
        rw [hzs] at HO hlen hs
        have HS := Lib.hid hs
        clear hs hzs hkr
        go_wp2
        go_quiet (fail)
        have HON : Hid ((wr.drewN nq).ownsRow w.heap.size 2 1 vv zs.length (zs.map (Value.int .i64))) := HO.out
        have HBN := Lib.hid (below_drewN HB.out nq)
        have hzn : w.heap.size ≤ (wr.drewN nq).heap.size := hz
        go_wp2_with (at_builtin; refine wpList_append_own _ rfl _ _ 40 rfl w.heap.size 2 i0 (.int .i64 0) 1 8 Tryd.underlying40 hi0 hz0 hz1 hz2 rfl (by decide) _ _ _ rfl (HON.out.alloc _) ⟨wr.heap.size, 0, none⟩ 1 1 [.int .i64 ((0 : Nat) : Int)] rfl rfl ?c1 ?c2 ?c3 ?c4 ?c5 ?_; rotate_left 5; intro v' w9 hown hgrow _; obtain ⟨ho, hbb⟩ := own_more (v := vv) hown hgrow HON.out HBN.out (Nat.le_refl _) hzn; have HW1 := Lib.hid ho; have HB1 := Lib.hid hbb; clear hown hgrow ho hbb)
        case c1 => exact int_news _ _
        case c2 => intro u hu; simp at hu; subst hu; rfl
        case c3 => unfold maxLen; omega
        case c4 => omega
        case c5 => simp; omega
        go_roundw
        case rel => exact ⟨1, _, by omega, by go_num, rfl, HB1, by rw [HS.out]; exact HW1⟩
        case measure => simp [intOf]; omega
      · obtain ⟨s, rfl⟩ : ∃ s, t = s + 1 := ⟨t - 1, by omega⟩
        obtain ⟨d, hd, c1, l1, o1, h20, z1⟩ := HAT.out kg w hkr (s + 1) hlt
        obtain ⟨d', hd', c2, l2, o2, _, z2⟩ := HAT.out kg w hkr s (by omega)
        have d1 := cell_kept c1 HB.out
        have d2 := cell_kept c2 HB.out
        have hq := grpQ_succ (holes D) i j s
        rw [cmpK_at hd hd'] at hq
        have hcz := cmpTo_zero l1 l2 o1 o2
        have hts := textS_one o1 o2
        have hq2 : ∀ S1 S2, textS (partOf d.xs i j) = S1 → textS (partOf d'.xs i j) = S2 → (S1 = S2 → grpQ (holes D) i j (s + 1) = false) ∧ (¬ S1 = S2 → grpQ (holes D) i j (s + 1) = true) := by
          rintro _ _ rfl rfl
          rw [hq]
          refine ⟨fun h => ?_, fun h => ?_⟩
          · have := hcz.2 (hts.1 h)
            simp [this]
          · have : ¬ cmpTo (partOf d.xs i j) (partOf d'.xs i j) (j - i) = 0 := fun e => h (hts.2 (hcz.1 e))
            simp [this]
        obtain ⟨S1, hS1⟩ : ∃ S, textS (partOf d.xs i j) = S := ⟨_, rfl⟩
        obtain ⟨S2, hS2⟩ : ∃ S, textS (partOf d'.xs i j) = S := ⟨_, rfl⟩
        obtain ⟨hqn, hqy⟩ := hq2 S1 S2 hS1 hS2
        rw [hS1] at d1
        rw [hS2] at d2
        have s0 : (0 : Int) ≤ (s : Int) := Int.natCast_nonneg _
        have s1 : (s : Int) < (n : Int) := by omega
        have s2 : ((s + 1 : Nat) : Int) = (s : Int) + 1 := by omega
        have s3 : ((s : Int) + 1 == 0) = false := by simp; omega
        rw [s2] at t0 t1
        rw [s2]
        clear hq hq2 hcz hts hS1 hS2 hd hd' c1 c2 l1 l2 o1 o2 z1 z2 hkr hpos
        by_cases hst : S1 = S2
        · have hs := wherePl_no (n := s + 1) (hqn hst)
          have HS := Lib.hid hs
          clear hqn hqy hs
          subst hst
          go_wp2
          go_quiet (fail)
          go_wp2
          go_roundw
          case rel => exact ⟨s + 1 + 1, _, by omega, by go_num, rfl, below_drewN HB.out _, by rw [HS.out]; exact HO.out⟩
          case measure => simp [intOf]; omega
        · have hs := wherePl_yes (n := s + 1) (hqy hst)
          obtain ⟨zs, hzs⟩ : ∃ zs, wherePl (grpQ (holes D) i j) (s + 1) = zs := ⟨_, rfl⟩
          rw [hzs] at HO hlen hs
          have HS := Lib.hid hs
          have e1 := texts_ne hst
          clear hqn hqy hs hzs
          go_wp2
          go_quiet (fail)
          have HON : Hid ((wr.drewN nq).ownsRow w.heap.size 2 1 vv zs.length (zs.map (Value.int .i64))) := HO.out
          have HBN := Lib.hid (below_drewN HB.out nq)
          have hzn : w.heap.size ≤ (wr.drewN nq).heap.size := hz
          go_wp2_with (at_builtin; refine wpList_append_own _ rfl _ _ 40 rfl w.heap.size 2 i0 (.int .i64 0) 1 8 Tryd.underlying40 hi0 hz0 hz1 hz2 rfl (by decide) _ _ _ rfl (HON.out.alloc _) ⟨wr.heap.size, 0, none⟩ 1 1 [.int .i64 ((s : Int) + 1)] rfl rfl ?c1 ?c2 ?c3 ?c4 ?c5 ?_; rotate_left 5; intro v' w9 hown hgrow _; obtain ⟨ho, hbb⟩ := own_more (v := vv) hown hgrow HON.out HBN.out (Nat.le_refl _) hzn; have HW1 := Lib.hid ho; have HB1 := Lib.hid hbb; clear hown hgrow ho hbb)
          case c1 => exact int_news _ _
          case c2 => intro u hu; simp at hu; subst hu; rfl
          case c3 => unfold maxLen; omega
          case c4 => omega
          case c5 => simp; omega
          go_roundw
          case rel => exact ⟨s + 1 + 1, _, by omega, by go_num, rfl, HB1, by rw [HS.out]; exact HW1⟩
          case measure => simp [intOf]; omega
    · obtain rfl : t = n := by omega
      have t1 : ¬ (t : Int) < (t : Int) := by omega
      have hlen := wherePl_len (grpQ (holes D) i j) t
      obtain ⟨A9, c9, rfl, hA⟩ := owned_list HO.out rfl
      have HA := Lib.hid hA
      clear hA HO
      go_wp2
      go_ret
      refine ⟨A9, c9, rfl, HB.out, fun h0 => ?_, Nat.le_refl _⟩
      obtain ⟨g9, ex9, e9, hg9, hr9⟩ := HA.out h0
      exact ⟨g9, ex9, e9, hg9, hr9.lt, hr9⟩

section
variable (A : Option Addr) (c : Nat) (D : List CardV) (B : Nat) (a b : Int) (w : World) (h : Deck w B A D) (hB : B ≤ w.heap.size) (hn : D.length ≤ 1048576) (hl : ∀ d ∈ D, d.xs.length ≤ 1048576)
include h hB hn hl
set_option maxRecDepth 100000 in
set_option maxHeartbeats 2000000 in
theorem specGroups_any (hcap : CapsOk D) :
    Calls Tryd.prog 34 #[.slice A D.length c, .agg #[.int .i64 a, .int .i64 b]] w (GivesIC (grpA (holes D) a b) (keysC (holes D) a b) w) := by
  have b0 := below_box w (.cells #[.int .i64 a, .int .i64 b] 30)
  have hk := l07Keys_any A c D B a b (w.alloc (.cells #[.int .i64 a, .int .i64 b] 30)) (h.below (b0.mono hB)) (by simp; omega) hn hl hcap
  have BW := Lib.hid b0
  obtain ⟨n, hN⟩ : ∃ n, D.length = n := ⟨_, rfl⟩
  by_cases e : keysC (holes D) a b = 0
  · obtain ⟨i, j, rfl, rfl, hij, hj, hv, hkb⟩ := keysC_zero e
    have hs := fun A c W hr => l09Groups_any A c D i j W hr hv hkb hj
    have ha : grpA (holes D) i j = wherePl (grpQ (holes D) i j) n := by
      unfold grpA
      rw [if_pos e, Int.toNat_natCast, Int.toNat_natCast, holes_len, hN]
    rw [ha, e]
    rw [e, Int.toNat_natCast, Int.toNat_natCast] at hk
    unfold GivesKeys at hk
    rw [hN] at hk ⊢
    simp only [hN] at hs
    obtain ⟨L, hL⟩ : ∃ L, wherePl (grpQ (holes D) i j) n = L := ⟨_, rfl⟩
    simp only [hL] at hs
    rw [hL]
    have HK := Lib.hid hk
    have HS := Lib.hid hs
    clear hk h hl hcap b0 e hv hkb hj hij hN ha hs hL
    go_enter Tryd.func34, Tryd.ntmps34
    go_wp2_with fail
    refine HK.out.mono ?_
    rintro e w1 (⟨h0, _⟩ | ⟨_, A', cap, rfl, hb, hrow⟩)
    · exact absurd rfl h0
    have B1 := Lib.hid (below_step BW.out hb)
    have HRW := Lib.hid hrow
    clear hb hrow HK
    go_wp2_with fail
    refine (HS.out _ _ _ HRW.out).mono ?_
    rintro e w2 ⟨A2, c2, rfl, hb, hi⟩
    have B2 := Lib.hid (below_step B1.out hb)
    have HI := Lib.hid (hi.wide (lo' := w.heap.size) (hi' := w2.heap.size) B1.out.size (Nat.le_refl _) (Nat.le_refl _))
    clear hb hi
    go_wp2
    go_ret2
    exact ⟨A2, c2, rfl, B2.out, HI.out⟩
  · obtain ⟨k, hk0⟩ : ∃ k, keysC (holes D) a b = k := ⟨_, rfl⟩
    have ha : grpA (holes D) a b = [] := by
      unfold grpA
      rw [if_neg e]
    rw [ha, hk0]
    rw [hk0] at hk e
    rw [hN] at hk ⊢
    have e1 : (k != 0) = true := by simpa using e
    have HK := Lib.hid hk
    clear hk h hl hcap b0 hk0 hN hn ha
    go_enter Tryd.func34, Tryd.ntmps34
    go_wp2_with fail
    refine HK.out.mono ?_
    rintro e' w1 (⟨_, rfl, hb⟩ | ⟨h0, _⟩)
    · have B1 := Lib.hid (below_step BW.out hb)
      clear hb HK
      go_wp2
      go_ret2
      exact ⟨none, 0, rfl, B1.out, fun h0 => absurd h0 (by simp), Nat.le_refl _⟩
    · exact absurd h0 e
end
end Go.Proofs.YtmdamciheekeoaaDoor
