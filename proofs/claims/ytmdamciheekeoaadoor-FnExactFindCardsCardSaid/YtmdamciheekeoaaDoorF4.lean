/- spec.l07Places sorts the places of the cards by their texts: what its comparison and its copies answer: contracts. -/
import Derived.Test.YtmdamciheekeoaaDoorOrderMath
import Derived.Test.YtmdamciheekeoaaDoorSortStep
import Derived.Test.YtmdamciheekeoaaDoorOwn
import Derived.Test.YtmdamciheekeoaaDoorF2
import Derived.Deep.QuietTactic
import Derived.BigQuiet
import Derived.Test.YtmdamciheekeoaaDoorColMath
import Derived.Test.YtmdamciheekeoaaDoorGrow
import Derived.Test.YtmdamciheekeoaaDoorF3
import Derived.OwnWalk
namespace Go.Proofs.YtmdamciheekeoaaDoor
open Go.ChangeShapes Go.WideShapes Go.ChangeAt Go.RowKit

theorem keyCmp_any {D : List CardV} {i j n kg : Nat} {w : World} (hrow : KeyRow w kg D i j) (hv : deckB (holes D) = true) (hkb : keysB (holes D) i j = true) (hj : j ≤ widthH (holes D)) (hN : D.length = n) {p q : Nat} (hp : p < n) (hq : q < n) :
    ∃ S1 S2, w.cell? ⟨kg, p, none⟩ = some (.string S1) ∧ w.cell? ⟨kg, q, none⟩ = some (.string S2) ∧ ∀ W, Calls Tryd.prog 57 #[.string S1, .string S2] W fun e w' => e = .returned (.int .i64 (cfK (holes D) i j p q)) ∧ w' = W := by
  obtain ⟨d, hd⟩ : ∃ d, D[p]? = some d := ⟨D[p]'(by omega), List.getElem?_eq_getElem _⟩
  obtain ⟨e, he⟩ : ∃ e, D[q]? = some e := ⟨D[q]'(by omega), List.getElem?_eq_getElem _⟩
  obtain ⟨g1, g2⟩ := deck_width hv (holes_at hd)
  obtain ⟨g3, g4⟩ := deck_width hv (holes_at he)
  have o1 := keysB_at (holes_at hd) hkb
  have o2 := keysB_at (holes_at he) hkb
  have l1 := partOf_length d.xs i j (by rw [g2]; exact hj)
  have l2 := partOf_length e.xs i j (by rw [g4]; exact hj)
  have z1 : (textS (partOf d.xs i j)).size = j - i := by rw [← l1]; exact textL_length _
  have z2 : (textS (partOf e.xs i j)).size = j - i := by rw [← l2]; exact textL_length _
  have h20 := (okB_parts g1).2
  have hck : cfK (holes D) i j p q = cmpTo (partOf d.xs i j) (partOf e.xs i j) (j - i) := by
    unfold cfK
    rw [Int.toNat_natCast, Int.toNat_natCast]
    exact cmpK_at hd he
  refine ⟨_, _, hrow p d hd, hrow q e he, fun W => ?_⟩
  rw [hck]
  exact (l03Compare_any (textS (partOf d.xs i j)) (textS (partOf e.xs i j)) (partOf d.xs i j) (partOf e.xs i j) (j - i) z1 z2 l1 l2 (fun k h => textS_get _ k h) (fun k h => textS_get _ k h) o1 o2 (by omega) W).mono fun _ _ hh => ⟨hh.1, hh.2.symm⟩

theorem own_rowS {w : World} {base n g cap : Nat} {xs : List Int} (h : w.ownsRow base 2 1 (.slice (some ⟨g, 0, none⟩) n cap) n (xs.map (Value.int .i64))) : base ≤ g ∧ n ≤ cap ∧ cap ≤ maxLen ∧ ∃ ex, Row w g xs ex := by
  rcases h.2 with ⟨h0, _⟩ | ⟨g', cap', cur, hv, hb, hh, hc, hm, _, ht⟩
  · cases h0
  · injection hv with e1 e2 e3
    injection e1 with e1
    injection e1 with e1
    subst e1
    subst e3
    refine ⟨hb, hc, hm, cur.toList.drop n, ?_⟩
    unfold Row
    rw [hh]
    congr 2
    apply Array.ext'
    rw [← List.take_append_drop n cur.toList, ← ht, Nat.mul_one]
    simp
theorem own_shape {w : World} {base n size : Nat} {et : TypeId} {v : Value} {xs : List Value} (h : w.ownsRow base et size v n xs) (hne : v ≠ .slice none 0 0) : ∃ g cap, v = .slice (some ⟨g, 0, none⟩) n cap := by
  rcases h.2 with ⟨hz, _⟩ | ⟨g, cap, cur, rfl, _⟩
  · exact absurd hz hne
  · exact ⟨g, cap, rfl⟩
theorem own_lower {w : World} {base base' n size : Nat} {et : TypeId} {v : Value} {xs : List Value} (h : w.ownsRow base et size v n xs) (hb : base' ≤ base) : w.ownsRow base' et size v n xs := by
  refine ⟨h.1, ?_⟩
  rcases h.2 with h0 | ⟨g, cap, cur, h1, h2, h3⟩
  · exact Or.inl h0
  · exact Or.inr ⟨g, cap, cur, h1, Nat.le_trans hb h2, h3⟩

/-- the copy of any part of a list, an empty one too -/
theorem ownInts_any (b off c : Nat) (xs : List Int) (w : World) (hb : b < w.heap.size) (hcell : ∀ i, i < xs.length → w.cell? ⟨b, off + i, none⟩ = some (.int .i64 (xs[i]?.getD 0))) (hn : xs.length ≤ 1048576) :
    Calls Tryd.prog 86 #[.slice (some ⟨b, off, none⟩) xs.length c] w fun e w' => ∃ v, e = .returned v ∧ v ≠ .slice none 0 0 ∧ w'.ownsRow w.heap.size 2 1 v xs.length (xs.map (Value.int .i64)) ∧ Below w.heap.size w w' := by
  obtain ⟨i0, hi0, hz0, hz1, hz2⟩ := info_parts info_int64
  have HN := Lib.hid (news_of (fun i hi => (World.cell?_alloc_lt w (.cells #[] 2) ⟨b, off + i, none⟩ hb).trans (hcell i hi)))
  have HM := Lib.hid (maps_length xs)
  have H1 := Lib.hid (maps_one xs)
  have HO := Lib.hid (empty_owned w)
  clear hcell
  go_enter Tryd.func86, Tryd.ntmps86
  go_wp2_with (at_builtin; refine wpList_append_own _ rfl (.tmp 3) (.tmp 4) 40 rfl w.heap.size 2 i0 (.int .i64 0) 1 8 Tryd.underlying40 hi0 hz0 hz1 hz2 rfl (by decide) (.slice (some ⟨w.heap.size, 0, none⟩) 0 0) 0 [] rfl HO.out ⟨b, off, none⟩ xs.length c (xs.map (Value.int .i64)) rfl HM.out HN.out H1.out ?c3 ?c4 ?c5 ?_; rotate_left 3; intro v1 w1 hown hgrow hiff; simp only [Nat.zero_add, List.nil_append] at hown; have B1 := Lib.hid (Below.grown (below_box w _) hgrow (by simp) (fun k hk => by simp [Value.ownBlock] at hk; omega)); have HW := Lib.hid hown; have HI : Hid (v1 ≠ .slice none 0 0) := (fun e => by have := (hiff.1 e).1; cases this); clear hown hgrow hiff)
  case c3 => unfold maxLen; omega
  case c4 => omega
  case c5 => simp
  go_ret
  exact ⟨v1, rfl, HI.out, HW.out, B1.out⟩
end Go.Proofs.YtmdamciheekeoaaDoor

/- spec.l07Places sorts the places of the cards by their texts, and spec.OrderBy answers them: contracts. -/
namespace Go.Proofs.YtmdamciheekeoaaDoor
open Go.ChangeShapes Go.WideShapes Go.ChangeAt Go.RowKit

/-- A slice of numbers of new memory. -/
def GivesI (L : List Int) (w : World) (e : Ending) (w' : World) : Prop :=
  ∃ A cap, e = .returned (.slice A L.length cap) ∧ Below w.heap.size w w' ∧ IAt w' w.heap.size w'.heap.size A L
/-- what is left when the place is found -/
theorem place_found {cf : Int → Int → Int} {n t k : Nat} {M : List Int} (hO : Ord cf (okK n)) (ht : t < n) (hp : M.Perm (identL t)) (hs : Srt cf M) (_ : k ≤ t) (hr : ∀ s ∈ M.drop k, Bef cf t s) (hl : ∀ s, (M.take k).getLast? = some s → ¬ cf t s < 0) :
    (M.take k ++ (t : Int) :: M.drop k).Perm (identL (t + 1)) ∧ Srt cf (M.take k ++ (t : Int) :: M.drop k) := by
  have ho : ∀ x ∈ M, okK n x := fun x hx => by
    have := identL_mem.1 (hp.subset hx)
    exact ⟨this.1, by have := this.2; omega⟩
  refine ⟨?_, ins_done hO (fun x hx => ho x (List.mem_of_mem_take hx)) ⟨Int.natCast_nonneg _, by omega⟩ (by rw [List.take_append_drop]; exact hs) (fun s h => ?_) hr⟩
  · rw [identL_succ]
    refine List.perm_middle.trans ?_
    rw [List.take_append_drop]
    exact (List.Perm.cons _ hp).trans (List.perm_append_comm (l₁ := [(t : Int)]) (l₂ := identL t))
  · have hm : s ∈ M := List.mem_of_mem_take (List.mem_of_getLast? h)
    have := identL_mem.1 (hp.subset hm)
    exact (bef_iff' hO ⟨Int.natCast_nonneg _, by omega⟩ (ho s hm) this.2).1 (hl s h)

section
variable (A : Option Addr) (c : Nat) (D : List CardV) (B : Nat) (a b : Int) (w : World) (h : Deck w B A D) (hB : B ≤ w.heap.size) (hn : D.length ≤ 1048576) (hl : ∀ d ∈ D, d.xs.length ≤ 1048576)
end
end Go.Proofs.YtmdamciheekeoaaDoor
/- spec.SequenceErrors, spec.l09Groups and spec.GroupsOf tell the places of a deck where a card is less than, or differs from, the one before it: contracts. -/
namespace Go.Proofs.YtmdamciheekeoaaDoor
open Go.ChangeShapes Go.WideShapes Go.ChangeAt Go.RowKit

theorem keyOf_at {D : List CardV} {i j n kg : Nat} {w : World} (hrow : KeyRow w kg D i j) (hv : deckB (holes D) = true) (hkb : keysB (holes D) i j = true) (hj : j ≤ widthH (holes D)) (hN : D.length = n) {p : Nat} (hp : p < n) :
    ∃ d, D[p]? = some d ∧ w.cell? ⟨kg, p, none⟩ = some (.string (textS (partOf d.xs i j))) ∧ (partOf d.xs i j).length = j - i ∧ textOk (partOf d.xs i j) = true ∧ j - i ≤ 20 ∧ (textS (partOf d.xs i j)).size = j - i := by
  obtain ⟨d, hd⟩ : ∃ d, D[p]? = some d := ⟨D[p]'(by omega), List.getElem?_eq_getElem _⟩
  obtain ⟨g1, g2⟩ := deck_width hv (holes_at hd)
  have l1 := partOf_length d.xs i j (by rw [g2]; exact hj)
  have h20 := (okB_parts g1).2
  exact ⟨d, hd, hrow p d hd, l1, keysB_at (holes_at hd) hkb, by omega, by rw [← l1]; exact textL_length _⟩
theorem texts_ne {x y : ByteArray} (h : x ≠ y) : (x.toList == y.toList) = false := by
  rw [beq_eq_false_iff_ne]
  intro hh
  apply h
  rw [ByteArray.toList_eq, ByteArray.toList_eq] at hh
  obtain ⟨⟨x⟩⟩ := x
  obtain ⟨⟨y⟩⟩ := y
  simpa using hh
theorem seqQ_zero (H : List (List Int)) (i j : Nat) : seqQ H i j 0 = false := by simp [seqQ]
theorem seqQ_succ (H : List (List Int)) (i j t : Nat) : seqQ H i j (t + 1) = decide (cmpK H i j (t + 1) t < 0) := by simp [seqQ]
theorem grpQ_zero (H : List (List Int)) (i j : Nat) : grpQ H i j 0 = true := by simp [grpQ]
theorem grpQ_succ (H : List (List Int)) (i j t : Nat) : grpQ H i j (t + 1) = !decide (cmpK H i j (t + 1) t = 0) := by simp [grpQ]
theorem empty_ints (w : World) : (w.alloc (.cells #[] 2)).ownsRow w.heap.size 2 1 (.slice (some ⟨w.heap.size, 0, none⟩) 0 0) 0 [] :=
  ⟨rfl, Or.inr ⟨w.heap.size, 0, #[], rfl, Nat.le_refl _, heap_alloc_new w _, Nat.le_refl _, Nat.zero_le _, rfl, rfl⟩⟩
theorem int_news (W : World) (x : Value) : ∀ j u, [x][j]? = some u → (W.alloc (.cells #[x] 2)).cell? ((⟨W.heap.size, 0, none⟩ : Addr).add j) = some u := by
  intro j u hj
  match j, hj with
  | 0, hj => simp at hj; subst hj; simp [Addr.add]

section
variable (A : Option Addr) (c : Nat) (D : List CardV) (B : Nat) (a b : Int) (w : World) (h : Deck w B A D) (hB : B ≤ w.heap.size) (hn : D.length ≤ 1048576) (hl : ∀ d ∈ D, d.xs.length ≤ 1048576)
include h hB hn hl

set_option maxRecDepth 100000 in
set_option maxHeartbeats 2000000 in
theorem specSeq_any (hcap : CapsOk D) :
    Calls Tryd.prog 25 #[.slice A D.length c, .agg #[.int .i64 a, .int .i64 b]] w (GivesIC (seqA (holes D) a b) (keysC (holes D) a b) w) := by
  obtain ⟨i0, hi0, hz0, hz1, hz2⟩ := info_parts info_int64
  have b0 := below_box w (.cells #[.int .i64 a, .int .i64 b] 30)
  have hk := l07Keys_any A c D B a b (w.alloc (.cells #[.int .i64 a, .int .i64 b] 30)) (h.below (b0.mono hB)) (by simp; omega) hn hl hcap
  have BW := Lib.hid b0
  obtain ⟨n, hN⟩ : ∃ n, D.length = n := ⟨_, rfl⟩
  by_cases e : keysC (holes D) a b = 0
  · obtain ⟨i, j, rfl, rfl, hij, hj, hv, hkb⟩ := keysC_zero e
    have hn40 : n ≤ 40 := by
      have := deck_len hv
      simp [holes, hN] at this
      exact this
    have ha : seqA (holes D) i j = wherePl (seqQ (holes D) i j) n := by
      unfold seqA
      rw [if_pos e, Int.toNat_natCast, Int.toNat_natCast, holes_len, hN]
    rw [ha, e]
    rw [e, Int.toNat_natCast, Int.toNat_natCast] at hk
    unfold GivesKeys at hk
    rw [hN] at hk ⊢
    have hcm := fun kg (w : World) (hr : KeyRow w kg D i j) p q (hp : p < n) (hq : q < n) => keyCmp_any hr hv hkb hj hN hp hq
    have HCM := Lib.hid hcm
    have HK := Lib.hid hk
    clear hk h hl hcap b0 e hv hkb hj hij hN ha hcm
    go_enter Tryd.func25, Tryd.ntmps25
    go_wp2_with fail
    refine HK.out.mono ?_
    rintro e w1 (⟨h0, _⟩ | ⟨_, A', cap, rfl, hb, hrow⟩)
    · exact absurd rfl h0
    have B1 := Lib.hid (below_step BW.out hb)
    have HRW := Lib.hid hrow
    have HE0 := Lib.hid (empty_ints w1)
    clear hb hrow HK
    go_wp2
    go_loopw [8, 9] (fun vo vi wr => ∃ t : Nat, ∃ vv : Value, (t + 1 ≤ n ∨ t = 0) ∧ vi = .int .i64 ((t : Int) + 1) ∧ vv = vo ∧ Hid (Below w1.heap.size w1 wr) ∧ Hid (wr.ownsRow w1.heap.size 2 1 vo (wherePl (seqQ (holes D) i j) (t + 1)).length ((wherePl (seqQ (holes D) i j) (t + 1)).map (Value.int .i64)))) (fun _ vi _ => n + 1 - (intOf vi).toNat)
    case atStart => exact ⟨0, _, Or.inr rfl, rfl, rfl, below_box w1 _, by rw [wherePl_no (seqQ_zero _ _ _)]; exact HE0⟩
    case round =>
      obtain ⟨t, vv, ht, rfl, rfl, HB, HO⟩ := hrel
      by_cases hlt : t + 1 < n
      · obtain ⟨kg, rfl, hg, hkr⟩ := HRW.out (by omega)
        obtain ⟨S1, S2, c1, c2, hcall⟩ := HCM.out kg w1 hkr (t + 1) t hlt (by omega)
        have d1 := cell_kept c1 HB.out
        have d2 := cell_kept c2 HB.out
        have hcf : cfK (holes D) i j ((t + 1 : Nat) : Int) (t : Int) = cmpK (holes D) i j (t + 1) t := by
          unfold cfK
          rw [Int.toNat_natCast, Int.toNat_natCast]
        rw [hcf] at hcall
        have hq := seqQ_succ (holes D) i j t
        obtain ⟨v, hv⟩ : ∃ v, cmpK (holes D) i j (t + 1) t = v := ⟨_, rfl⟩
        rw [hv] at hcall hq
        have HC := Lib.hid (fun m => hcall (wr.drewN m))
        have hlen := wherePl_len (seqQ (holes D) i j) (t + 1)
        have t0 : (0 : Int) ≤ (t : Int) := Int.natCast_nonneg _
        have t1 : (t : Int) + 1 < (n : Int) := by omega
        have t2 : (t : Int) < (n : Int) := by omega
        have t3 : (0 : Int) ≤ (t : Int) + 1 := by omega
        have hz : w1.heap.size ≤ wr.heap.size := HB.out.size
        clear hcall hv hcf c1 c2 hkr
        by_cases hv0 : v < 0
        · have hs := wherePl_yes (n := t + 1) (hq.trans (by simpa using hv0))
          obtain ⟨zs, hzs⟩ : ∃ zs, wherePl (seqQ (holes D) i j) (t + 1) = zs := ⟨_, rfl⟩
          rw [hzs] at HO hlen hs
          have HS := Lib.hid hs
          clear hq hs hzs
          go_wp2
          go_quiet ((go_at_call 57; exact Calls.quiet_of_same (HC.out _)))
          have HON : Hid ((wr.drewN nq).ownsRow w1.heap.size 2 1 vv zs.length (zs.map (Value.int .i64))) := HO.out
          have HBN := Lib.hid (below_drewN HB.out nq)
          have hzn : w1.heap.size ≤ (wr.drewN nq).heap.size := hz
          go_wp2_with (at_builtin; refine wpList_append_own _ rfl _ _ 40 rfl w1.heap.size 2 i0 (.int .i64 0) 1 8 Tryd.underlying40 hi0 hz0 hz1 hz2 rfl (by decide) _ _ _ rfl (HON.out.alloc _) ⟨wr.heap.size, 0, none⟩ 1 1 [.int .i64 ((t : Int) + 1)] rfl rfl ?c1 ?c2 ?c3 ?c4 ?c5 ?_; rotate_left 5; intro v' w9 hown hgrow _; obtain ⟨ho, hbb⟩ := own_more (v := vv) hown hgrow HON.out HBN.out (Nat.le_refl _) hzn; have HW1 := Lib.hid ho; have HB1 := Lib.hid hbb; clear hown hgrow ho hbb)
          case c1 => exact int_news _ _
          case c2 => intro u hu; simp at hu; subst hu; rfl
          case c3 => unfold maxLen; omega
          case c4 => omega
          case c5 => simp; omega
          go_roundw
          case rel => exact ⟨t + 1, _, Or.inl (by omega), by go_num, rfl, HB1, by rw [HS.out]; exact HW1⟩
          case measure => simp [intOf]; omega
        · have hs := wherePl_no (n := t + 1) (hq.trans (by simpa using hv0))
          have HS := Lib.hid hs
          clear hq hs
          go_wp2
          go_quiet ((go_at_call 57; exact Calls.quiet_of_same (HC.out _)))
          go_wp2
          go_roundw
          case rel => exact ⟨t + 1, _, Or.inl (by omega), by go_num, rfl, below_drewN HB.out _, by rw [HS.out]; exact HO.out⟩
          case measure => simp [intOf]; omega
      · have t1 : ¬ (t : Int) + 1 < (n : Int) := by omega
        have hfin : wherePl (seqQ (holes D) i j) (t + 1) = wherePl (seqQ (holes D) i j) n := by
          rcases ht with ht | rfl
          · rw [show t + 1 = n by omega]
          · rcases Nat.eq_zero_or_pos n with rfl | hp
            · exact wherePl_no (seqQ_zero _ _ _)
            · rw [show 0 + 1 = n by omega]
        have how := HO.out
        rw [hfin] at how
        obtain ⟨A9, c9, rfl, hA⟩ := owned_list how rfl
        have HA := Lib.hid hA
        have BB := Lib.hid (below_step B1.out HB.out)
        have hz := B1.out.size
        have hlen := wherePl_len (seqQ (holes D) i j) n
        clear how hA hfin HO
        go_wp2
        go_ret2
        refine ⟨A9, c9, rfl, BB.out, fun h0 => ?_, Nat.le_refl _⟩
        obtain ⟨g9, ex9, e9, hg9, hr9⟩ := HA.out h0
        exact ⟨g9, ex9, e9, by omega, hr9.lt, hr9⟩
  · obtain ⟨k, hk0⟩ : ∃ k, keysC (holes D) a b = k := ⟨_, rfl⟩
    have ha : seqA (holes D) a b = [] := by
      unfold seqA
      rw [if_neg e]
    rw [ha, hk0]
    rw [hk0] at hk e
    rw [hN] at hk ⊢
    have e1 : (k != 0) = true := by simpa using e
    have HK := Lib.hid hk
    clear hk h hl hcap b0 hk0 hN hn ha
    go_enter Tryd.func25, Tryd.ntmps25
    go_wp2_with fail
    refine HK.out.mono ?_
    rintro e' w1 (⟨_, rfl, hb⟩ | ⟨h0, _⟩)
    · have B1 := Lib.hid (below_step BW.out hb)
      clear hb HK
      go_wp2
      go_ret2
      exact ⟨none, 0, rfl, B1.out, fun h0 => absurd h0 (by simp), Nat.le_refl _⟩
    · exact absurd h0 e
end

set_option maxRecDepth 100000 in
set_option maxHeartbeats 2000000 in
theorem l09Groups_any (A : Option Addr) (c : Nat) (D : List CardV) (i j : Nat) (w : World) (hr : 0 < D.length → ∃ g, A = some ⟨g, 0, none⟩ ∧ g < w.heap.size ∧ KeyRow w g D i j) (hv : deckB (holes D) = true) (hkb : keysB (holes D) i j = true) (hj : j ≤ widthH (holes D)) :
    Calls Tryd.prog 68 #[.slice A D.length c] w (GivesI (wherePl (grpQ (holes D) i j) D.length) w) := by
  obtain ⟨i0, hi0, hz0, hz1, hz2⟩ := info_parts info_int64
  have hn40 : D.length ≤ 40 := by
    have := deck_len hv
    simpa [holes] using this
  obtain ⟨n, hN⟩ : ∃ n, D.length = n := ⟨_, rfl⟩
  rw [hN] at hn40 hr ⊢
  have hat := fun kg (w : World) (hr : KeyRow w kg D i j) p (hp : p < n) => keyOf_at hr hv hkb hj hN hp
  have HAT := Lib.hid hat
  have HRW := Lib.hid hr
  have HE0 := Lib.hid (empty_ints w)
  clear hat hr hN hv hkb hj
  go_enter Tryd.func68, Tryd.ntmps68
  go_wp2
  go_loopw [3, 4] (fun vo vi wr => ∃ t : Nat, ∃ vv : Value, t ≤ n ∧ vi = .int .i64 t ∧ vv = vo ∧ Hid (Below w.heap.size w wr) ∧ Hid (wr.ownsRow w.heap.size 2 1 vo (wherePl (grpQ (holes D) i j) t).length ((wherePl (grpQ (holes D) i j) t).map (Value.int .i64)))) (fun _ vi _ => n - (intOf vi).toNat)
  case atStart => exact ⟨0, _, Nat.zero_le _, rfl, rfl, below_box w _, HE0⟩
  case round =>
    obtain ⟨t, vv, ht, rfl, rfl, HB, HO⟩ := hrel
    by_cases hlt : t < n
    · obtain ⟨kg, rfl, hg, hkr⟩ := HRW.out (by omega)
      have hlen := wherePl_len (grpQ (holes D) i j) t
      have t0 : (0 : Int) ≤ (t : Int) := Int.natCast_nonneg _
      have t1 : (t : Int) < (n : Int) := by omega
      have hz : w.heap.size ≤ wr.heap.size := HB.out.size
      rcases Nat.eq_zero_or_pos t with rfl | hpos
      · have hs := wherePl_yes (grpQ_zero (holes D) i j)
        obtain ⟨zs, hzs⟩ : ∃ zs, wherePl (grpQ (holes D) i j) 0 = zs := ⟨_, rfl⟩
        rw [hzs] at HO hlen hs
        have HS := Lib.hid hs
        clear hs hzs hkr
        go_wp2
        go_quiet (fail)
        have HON : Hid ((wr.drewN nq).ownsRow w.heap.size 2 1 vv zs.length (zs.map (Value.int .i64))) := HO.out
        have HBN := Lib.hid (below_drewN HB.out nq)
        have hzn : w.heap.size ≤ (wr.drewN nq).heap.size := hz
        go_wp2_with (at_builtin; refine wpList_append_own _ rfl _ _ 40 rfl w.heap.size 2 i0 (.int .i64 0) 1 8 Tryd.underlying40 hi0 hz0 hz1 hz2 rfl (by decide) _ _ _ rfl (HON.out.alloc _) ⟨wr.heap.size, 0, none⟩ 1 1 [.int .i64 ((0 : Nat) : Int)] rfl rfl ?c1 ?c2 ?c3 ?c4 ?c5 ?_; rotate_left 5; intro v' w9 hown hgrow _; obtain ⟨ho, hbb⟩ := own_more (v := vv) hown hgrow HON.out HBN.out (Nat.le_refl _) hzn; have HW1 := Lib.hid ho; have HB1 := Lib.hid hbb; clear hown hgrow ho hbb)
        case c1 => exact int_news _ _
        case c2 => intro u hu; simp at hu; subst hu; rfl
        case c3 => unfold maxLen; omega
        case c4 => omega
        case c5 => simp; omega
        go_roundw
        case rel => exact ⟨1, _, by omega, by go_num, rfl, HB1, by rw [HS.out]; exact HW1⟩
        case measure => simp [intOf]; omega
      · obtain ⟨s, rfl⟩ : ∃ s, t = s + 1 := ⟨t - 1, by omega⟩
        obtain ⟨d, hd, c1, l1, o1, h20, z1⟩ := HAT.out kg w hkr (s + 1) hlt
        obtain ⟨d', hd', c2, l2, o2, _, z2⟩ := HAT.out kg w hkr s (by omega)
        have d1 := cell_kept c1 HB.out
        have d2 := cell_kept c2 HB.out
        have hq := grpQ_succ (holes D) i j s
        rw [cmpK_at hd hd'] at hq
        have hcz := cmpTo_zero l1 l2 o1 o2
        have hts := textS_one o1 o2
        have hq2 : ∀ S1 S2, textS (partOf d.xs i j) = S1 → textS (partOf d'.xs i j) = S2 → (S1 = S2 → grpQ (holes D) i j (s + 1) = false) ∧ (¬ S1 = S2 → grpQ (holes D) i j (s + 1) = true) := by
          rintro _ _ rfl rfl
          rw [hq]
          refine ⟨fun h => ?_, fun h => ?_⟩
          · have := hcz.2 (hts.1 h)
            simp [this]
          · have : ¬ cmpTo (partOf d.xs i j) (partOf d'.xs i j) (j - i) = 0 := fun e => h (hts.2 (hcz.1 e))
            simp [this]
        obtain ⟨S1, hS1⟩ : ∃ S, textS (partOf d.xs i j) = S := ⟨_, rfl⟩
        obtain ⟨S2, hS2⟩ : ∃ S, textS (partOf d'.xs i j) = S := ⟨_, rfl⟩
        obtain ⟨hqn, hqy⟩ := hq2 S1 S2 hS1 hS2
        rw [hS1] at d1
        rw [hS2] at d2
        have s0 : (0 : Int) ≤ (s : Int) := Int.natCast_nonneg _
        have s1 : (s : Int) < (n : Int) := by omega
        have s2 : ((s + 1 : Nat) : Int) = (s : Int) + 1 := by omega
        have s3 : ((s : Int) + 1 == 0) = false := by simp; omega
        rw [s2] at t0 t1
        rw [s2]
        clear hq hq2 hcz hts hS1 hS2 hd hd' c1 c2 l1 l2 o1 o2 z1 z2 hkr hpos
        by_cases hst : S1 = S2
        · have hs := wherePl_no (n := s + 1) (hqn hst)
          have HS := Lib.hid hs
          clear hqn hqy hs
          subst hst
          go_wp2
          go_quiet (fail)
          go_wp2
          go_roundw
          case rel => exact ⟨s + 1 + 1, _, by omega, by go_num, rfl, below_drewN HB.out _, by rw [HS.out]; exact HO.out⟩
          case measure => simp [intOf]; omega
        · have hs := wherePl_yes (n := s + 1) (hqy hst)
          obtain ⟨zs, hzs⟩ : ∃ zs, wherePl (grpQ (holes D) i j) (s + 1) = zs := ⟨_, rfl⟩
          rw [hzs] at HO hlen hs
          have HS := Lib.hid hs
          have e1 := texts_ne hst
          clear hqn hqy hs hzs
          go_wp2
          go_quiet (fail)
          have HON : Hid ((wr.drewN nq).ownsRow w.heap.size 2 1 vv zs.length (zs.map (Value.int .i64))) := HO.out
          have HBN := Lib.hid (below_drewN HB.out nq)
          have hzn : w.heap.size ≤ (wr.drewN nq).heap.size := hz
          go_wp2_with (at_builtin; refine wpList_append_own _ rfl _ _ 40 rfl w.heap.size 2 i0 (.int .i64 0) 1 8 Tryd.underlying40 hi0 hz0 hz1 hz2 rfl (by decide) _ _ _ rfl (HON.out.alloc _) ⟨wr.heap.size, 0, none⟩ 1 1 [.int .i64 ((s : Int) + 1)] rfl rfl ?c1 ?c2 ?c3 ?c4 ?c5 ?_; rotate_left 5; intro v' w9 hown hgrow _; obtain ⟨ho, hbb⟩ := own_more (v := vv) hown hgrow HON.out HBN.out (Nat.le_refl _) hzn; have HW1 := Lib.hid ho; have HB1 := Lib.hid hbb; clear hown hgrow ho hbb)
          case c1 => exact int_news _ _
          case c2 => intro u hu; simp at hu; subst hu; rfl
          case c3 => unfold maxLen; omega
          case c4 => omega
          case c5 => simp; omega
          go_roundw
          case rel => exact ⟨s + 1 + 1, _, by omega, by go_num, rfl, HB1, by rw [HS.out]; exact HW1⟩
          case measure => simp [intOf]; omega
    · obtain rfl : t = n := by omega
      have t1 : ¬ (t : Int) < (t : Int) := by omega
      have hlen := wherePl_len (grpQ (holes D) i j) t
      obtain ⟨A9, c9, rfl, hA⟩ := owned_list HO.out rfl
      have HA := Lib.hid hA
      clear hA HO
      go_wp2
      go_ret
      refine ⟨A9, c9, rfl, HB.out, fun h0 => ?_, Nat.le_refl _⟩
      obtain ⟨g9, ex9, e9, hg9, hr9⟩ := HA.out h0
      exact ⟨g9, ex9, e9, hg9, hr9.lt, hr9⟩

section
variable (A : Option Addr) (c : Nat) (D : List CardV) (B : Nat) (a b : Int) (w : World) (h : Deck w B A D) (hB : B ≤ w.heap.size) (hn : D.length ≤ 1048576) (hl : ∀ d ∈ D, d.xs.length ≤ 1048576)
include h hB hn hl
set_option maxRecDepth 100000 in
set_option maxHeartbeats 2000000 in
theorem specGroups_any (hcap : CapsOk D) :
    Calls Tryd.prog 34 #[.slice A D.length c, .agg #[.int .i64 a, .int .i64 b]] w (GivesIC (grpA (holes D) a b) (keysC (holes D) a b) w) := by
  have b0 := below_box w (.cells #[.int .i64 a, .int .i64 b] 30)
  have hk := l07Keys_any A c D B a b (w.alloc (.cells #[.int .i64 a, .int .i64 b] 30)) (h.below (b0.mono hB)) (by simp; omega) hn hl hcap
  have BW := Lib.hid b0
  obtain ⟨n, hN⟩ : ∃ n, D.length = n := ⟨_, rfl⟩
  by_cases e : keysC (holes D) a b = 0
  · obtain ⟨i, j, rfl, rfl, hij, hj, hv, hkb⟩ := keysC_zero e
    have hs := fun A c W hr => l09Groups_any A c D i j W hr hv hkb hj
    have ha : grpA (holes D) i j = wherePl (grpQ (holes D) i j) n := by
      unfold grpA
      rw [if_pos e, Int.toNat_natCast, Int.toNat_natCast, holes_len, hN]
    rw [ha, e]
    rw [e, Int.toNat_natCast, Int.toNat_natCast] at hk
    unfold GivesKeys at hk
    rw [hN] at hk ⊢
    simp only [hN] at hs
    obtain ⟨L, hL⟩ : ∃ L, wherePl (grpQ (holes D) i j) n = L := ⟨_, rfl⟩
    simp only [hL] at hs
    rw [hL]
    have HK := Lib.hid hk
    have HS := Lib.hid hs
    clear hk h hl hcap b0 e hv hkb hj hij hN ha hs hL
    go_enter Tryd.func34, Tryd.ntmps34
    go_wp2_with fail
    refine HK.out.mono ?_
    rintro e w1 (⟨h0, _⟩ | ⟨_, A', cap, rfl, hb, hrow⟩)
    · exact absurd rfl h0
    have B1 := Lib.hid (below_step BW.out hb)
    have HRW := Lib.hid hrow
    clear hb hrow HK
    go_wp2_with fail
    refine (HS.out _ _ _ HRW.out).mono ?_
    rintro e w2 ⟨A2, c2, rfl, hb, hi⟩
    have B2 := Lib.hid (below_step B1.out hb)
    have HI := Lib.hid (hi.wide (lo' := w.heap.size) (hi' := w2.heap.size) B1.out.size (Nat.le_refl _) (Nat.le_refl _))
    clear hb hi
    go_wp2
    go_ret2
    exact ⟨A2, c2, rfl, B2.out, HI.out⟩
  · obtain ⟨k, hk0⟩ : ∃ k, keysC (holes D) a b = k := ⟨_, rfl⟩
    have ha : grpA (holes D) a b = [] := by
      unfold grpA
      rw [if_neg e]
    rw [ha, hk0]
    rw [hk0] at hk e
    rw [hN] at hk ⊢
    have e1 : (k != 0) = true := by simpa using e
    have HK := Lib.hid hk
    clear hk h hl hcap b0 hk0 hN hn ha
    go_enter Tryd.func34, Tryd.ntmps34
    go_wp2_with fail
    refine HK.out.mono ?_
    rintro e' w1 (⟨_, rfl, hb⟩ | ⟨h0, _⟩)
    · have B1 := Lib.hid (below_step BW.out hb)
      clear hb HK
      go_wp2
      go_ret2
      exact ⟨none, 0, rfl, B1.out, fun h0 => absurd h0 (by simp), Nat.le_refl _⟩
    · exact absurd h0 e
end
end Go.Proofs.YtmdamciheekeoaaDoor

/- impl.cardsWhere at the closure of impl.SelectBetween, impl.SelectBetween and impl.SelectEqual: contracts. -/
namespace Go.Proofs.YtmdamciheekeoaaDoor
open Go.ChangeShapes Go.WideShapes Go.ChangeAt Go.RowKit

/-- the cards ahead of place n for which q holds -/
def cardsE (q : Nat → Bool) (E : List CardV) : Nat → List CardV
  | 0 => []
  | n + 1 => if q n = true then cardsE q E n ++ (E[n]?).toList else cardsE q E n
theorem cardsE_yes {q : Nat → Bool} {E : List CardV} {n : Nat} {e : CardV} (h : q n = true) (hn : E[n]? = some e) : cardsE q E (n + 1) = cardsE q E n ++ [e] := by
  rw [cardsE, if_pos h, hn]
  rfl
theorem cardsE_no {q : Nat → Bool} {E : List CardV} {n : Nat} (h : q n = false) : cardsE q E (n + 1) = cardsE q E n := if_neg (by simp [h])
theorem cardsE_holes (q : Nat → Bool) (E : List CardV) : ∀ n, n ≤ E.length → holes (cardsE q E n) = cardsPl q (holes E) n
  | 0, _ => rfl
  | n + 1, h => by
    have ih := cardsE_holes q E n (by omega)
    have he : E[n]? = some (E[n]'(by omega)) := List.getElem?_eq_getElem _
    unfold cardsE cardsPl
    rw [holes_at he, he]
    split
    · simp only [holes, List.map_append] at ih ⊢
      rw [ih]
      rfl
    · exact ih
theorem cardsE_sub (q : Nat → Bool) (E : List CardV) : ∀ n, (cardsE q E n).Sublist (E.take n)
  | 0 => by simp [cardsE]
  | n + 1 => by
    have ih := cardsE_sub q E n
    unfold cardsE
    rw [List.take_add_one]
    split
    · exact ih.append (List.Sublist.refl _)
    · exact ih.trans (List.sublist_append_left _ _)
theorem NewRows.sub {w : World} {lo : Nat} {E F : List CardV} (h : NewRows w lo E) (hs : F.Sublist E) : NewRows w lo F :=
  ⟨fun e he => h.each e (hs.subset he), h.apart.sublist hs⟩
theorem cardsE_rows {w : World} {lo n : Nat} {q : Nat → Bool} {E : List CardV} (h : NewRows w lo E) : NewRows w lo (cardsE q E n) := h.sub ((cardsE_sub q E n).trans (List.take_sublist _ _))
theorem cardsE_len (q : Nat → Bool) (E : List CardV) (n : Nat) : (cardsE q E n).length ≤ n := by
  have h1 := (cardsE_sub q E n).length_le
  have h2 := List.length_take_le n E
  omega
/-- a list of the cards for which q holds, in the memory of these -/
def GivesSel (q : Nat → Bool) (E : List CardV) (n lo : Nat) (w : World) (e : Ending) (w' : World) : Prop :=
  ∃ A cap, e = .returned (.slice A (cardsE q E n).length cap) ∧ Below w.heap.size w w' ∧ DeckAt w' lo w'.heap.size A (cardsE q E n)

set_option maxRecDepth 100000 in
set_option maxHeartbeats 2000000 in
theorem cardsBet_any {D E K : List CardV} {i j n g lo : Nat} {w : World} (p1 p2 : Nat) (q : Nat → Bool) (hO : EntsOf D i j n E K) (he : Ents w lo g E K n) (hlo : lo ≤ w.heap.size)
    (hkeep : ∀ (k : Nat) (e p : CardV) (W : World), k < n → E[k]? = some e → K[k]? = some p → Below w.heap.size w W → Calls Tryd.prog 66 #[.agg #[e.value, p.value], .pointer (some ⟨p1, 0, none⟩), .pointer (some ⟨p2, 0, none⟩)] W fun en W' => en = .returned (.bool (q k)) ∧ Below W.heap.size W W') :
    Calls Tryd.prog 65 #[.slice (some ⟨g, 0, none⟩) n n, .func (.func 66) #[] #[.pointer (some ⟨p1, 0, none⟩), .pointer (some ⟨p2, 0, none⟩)]] w (GivesSel q E n lo w) := by
  obtain ⟨i0, hi0, hz0, hz1, hz2⟩ := info_parts info_card
  have hn40 := hO.n40
  have HE := Lib.hid he
  have HO := Lib.hid hO
  have HK := Lib.hid hkeep
  clear he hO hkeep
  go_enter Tryd.func65, Tryd.ntmps65
  go_wp2
  go_loopw [5, 10] (fun vo vi wr => ∃ t : Nat, ∃ vv : Value, t ≤ n ∧ vi = .int .i64 t ∧ vv = vo ∧ Hid (Below w.heap.size w wr) ∧ Hid (wr.ownsRow w.heap.size 55 1 vo (cardsE q E t).length ((cardsE q E t).map CardV.value))) (fun _ vi _ => n - (intOf vi).toNat)
  case atStart => exact ⟨0, _, Nat.zero_le _, rfl, rfl, Below.refl _ _, World.ownsRow_nil _ _ _ _⟩
  case round =>
    obtain ⟨t, vv, ht, rfl, rfl, HB, HR⟩ := hrel
    by_cases hlt : t < n
    · obtain ⟨d, e, p, hd, he, hp, _⟩ := HO.out.at_ hlt
      have hE := HE.out.later HB.out
      have c1 := hE.card (by rw [HO.out.lenE, HO.out.lenK]; omega) he
      have c2 := hE.key (by rw [HO.out.lenE]; exact hlt) hp
      unfold CardV.value at c1 c2
      have bx := below_box wr (.cells #[.slice e.at_ e.xs.length e.cap, .slice p.at_ p.xs.length p.cap] 74)
      have hk := HK.out t e p _ hlt he hp (below_step HB.out bx)
      unfold CardV.value at hk
      have p0 : (wr.alloc (.cells #[.slice e.at_ e.xs.length e.cap, .slice p.at_ p.xs.length p.cap] 74)).cell? ⟨wr.heap.size, 0, none⟩ = some (.slice e.at_ e.xs.length e.cap) := by simp
      have p1 : (wr.alloc (.cells #[.slice e.at_ e.xs.length e.cap, .slice p.at_ p.xs.length p.cap] 74)).cell? ⟨wr.heap.size, 1, none⟩ = some (.slice p.at_ p.xs.length p.cap) := by simp
      obtain ⟨r, hr⟩ : ∃ r, q t = r := ⟨_, rfl⟩
      rw [hr] at hk
      have HKP := Lib.hid hk
      have HQ := Lib.hid hr
      have HX := Lib.hid he
      have HBX := Lib.hid (below_step HB.out bx)
      have HRX : Hid ((wr.alloc (.cells #[.slice e.at_ e.xs.length e.cap, .slice p.at_ p.xs.length p.cap] 74)).ownsRow w.heap.size 55 1 vv (cardsE q E t).length ((cardsE q E t).map CardV.value)) := HR.out.alloc _
      have hlen := cardsE_len q E t
      obtain ⟨W1, hW1⟩ : ∃ W1, wr.alloc (.cells #[.slice e.at_ e.xs.length e.cap, .slice p.at_ p.xs.length p.cap] 74) = W1 := ⟨_, rfl⟩
      rw [hW1] at HKP p0 p1 HBX HRX
      have hsz : w.heap.size ≤ W1.heap.size := HBX.out.size
      have t0 : (0 : Int) ≤ (t : Int) := Int.natCast_nonneg _
      have t1 : (t : Int) < (n : Int) := by omega
      obtain ⟨le, hle⟩ : ∃ l, e.xs.length = l := ⟨_, rfl⟩
      obtain ⟨lp, hlp⟩ : ∃ l, p.xs.length = l := ⟨_, rfl⟩
      have HLE := Lib.hid hle
      rw [hle] at p0 c1 HKP hW1
      rw [hlp] at p1 c2 HKP hW1
      clear hE hk hr he hp hd bx hle hlp HR
      cases r
      · have hs := cardsE_no (E := E) HQ.out
        have HS := Lib.hid hs
        clear hs
        go_wp2_with (go_at_call 66; refine HKP.out.mono ?_; rintro en w3 ⟨rfl, hb3⟩; have HB3 := Lib.hid (below_step HBX.out hb3); have HR3 : Hid (w3.ownsRow w.heap.size 55 1 vv (cardsE q E t).length ((cardsE q E t).map CardV.value)) := own_moved HRX.out (fun i _ hi => hb3.block i hi); clear hb3)
        go_roundw
        case rel => exact ⟨t + 1, _, by omega, by go_num, rfl, HB3, by rw [HS.out]; exact HR3⟩
        case measure => simp [intOf]; omega
      · have hs := cardsE_yes HQ.out HX.out
        obtain ⟨X, hX⟩ : ∃ X, cardsE q E t = X := ⟨_, rfl⟩
        rw [hX] at HRX hlen hs
        have hrows := cardsE_rows (q := q) (n := t + 1) HE.out.cards
        rw [hs] at hrows
        have HS := Lib.hid hs
        have HRW := Lib.hid hrows
        clear hs hX hrows
        go_wp2_with (first
          | (go_at_call 66; refine HKP.out.mono ?_; rintro en w3 ⟨rfl, hb3⟩; have HB3 := Lib.hid (below_step HBX.out hb3); have HR3 : Hid (w3.ownsRow w.heap.size 55 1 vv X.length (X.map CardV.value)) := own_moved HRX.out (fun i _ hi => hb3.block i hi); have q0 := cell_kept p0 hb3; have hw3 : w.heap.size ≤ w3.heap.size := HB3.out.size; have HN3 := Lib.hid (HRW.out.later HB3.out); clear hb3)
          | (at_builtin; refine wpList_append_own _ rfl _ _ 26 rfl w.heap.size 55 i0 (.agg #[.slice none 0 0]) 1 24 Tryd.underlying26 hi0 hz0 hz1 hz2 rfl (by decide) _ _ _ rfl (HR3.out.alloc _) ⟨w3.heap.size, 0, none⟩ 1 1 [.slice e.at_ le e.cap] rfl rfl (card_news w3 _) ?c2 ?c3 ?c4 ?c5 ?_; rotate_left 4; intro v9 w9 hown hgrow hiff; have hv9 : v9 ≠ .slice none 0 0 := (fun ee => absurd (hiff.1 ee).2 (by decide)); obtain ⟨ho, hbb, hrr⟩ := own_card (x := e) (by unfold CardV.value; rw [HLE.out]; exact hown) (by unfold CardV.value; rw [HLE.out]; exact hgrow) HR3.out HB3.out (Nat.le_refl _) hw3 HN3.out; obtain ⟨g9, cap9, rfl⟩ := own_shape ho hv9; have HO9 := Lib.hid ho; have HB9 := Lib.hid hbb; clear hown hgrow hiff hv9 ho hbb hrr))
        case c2 => intro u hu; simp at hu; subst hu; rfl
        case c3 => unfold maxLen; omega
        case c4 => omega
        case c5 => simp; omega
        go_roundw
        case rel => exact ⟨t + 1, _, by omega, by go_num, rfl, HB9, by rw [HS.out, List.length_append]; exact HO9.out⟩
        case measure => simp [intOf]; omega
    · obtain rfl : t = n := by omega
      have t1 : ¬ (t : Int) < (t : Int) := by omega
      obtain ⟨A9, c9, e9, hda⟩ := own_deckAt HR.out rfl ((cardsE_rows HE.out.cards).later HB.out) hlo
      subst e9
      have HDA := Lib.hid hda
      clear hda HR
      go_wp2
      go_ret
      exact ⟨A9, c9, rfl, HB.out, HDA.out⟩

set_option maxHeartbeats 1000000 in
theorem selKeep_any (a1 A : Option Addr) (l1 c1 c : Nat) (p1 p2 : Nat) (A1 A2 : Option Addr) (z1 z2 : Nat) (xs ys zs : List Int) (n B B1 B2 : Nat) (w : World) (h : Ints w B A (xs.map rkI)) (h1 : Ints w B1 A1 (ys.map rkI)) (h2 : Ints w B2 A2 (zs.map rkI)) (hB : B ≤ w.heap.size) (hB1 : B1 ≤ w.heap.size) (hB2 : B2 ≤ w.heap.size)
    (hx : xs.length = n) (hy : ys.length = n) (hz : zs.length = n) (hn : n ≤ 1048576) (q1 : w.cell? ⟨p1, 0, none⟩ = some (.slice A1 n z1)) (q2 : w.cell? ⟨p2, 0, none⟩ = some (.slice A2 n z2)) :
    Calls Tryd.prog 66 #[.agg #[.slice a1 l1 c1, .slice A n c], .pointer (some ⟨p1, 0, none⟩), .pointer (some ⟨p2, 0, none⟩)] w fun e w' => e = .returned (.bool (decide (0 ≤ cmpTo xs ys n) && decide (cmpTo xs zs n ≤ 0))) ∧ Below w.heap.size w w' := by
  have b0 := below_box w (.cells #[.slice a1 l1 c1, .slice A n c] 74)
  have k1 := slicesCompare_any A1 A z1 c ys xs n B1 B _ (h1.below (b0.mono hB1)) (h.below (b0.mono hB)) hy hx hn
  have k2 := slicesCompare_any A A2 c z2 xs zs n B B2 _ (h.below (b0.mono hB)) (h2.below (b0.mono hB2)) hx hz hn
  have r1 := cell_kept q1 b0
  have r2 := cell_kept q2 b0
  have hneg : decide (0 ≤ cmpTo xs ys n) = decide (cmpTo ys xs n ≤ 0) := by
    rw [cmpTo_neg xs ys n, decide_eq_decide]
    omega
  rw [hneg]
  obtain ⟨u, hu⟩ : ∃ u, cmpTo ys xs n = u := ⟨_, rfl⟩
  obtain ⟨v, hv⟩ : ∃ v, cmpTo xs zs n = v := ⟨_, rfl⟩
  rw [hu] at k1
  rw [hv] at k2
  rw [hu, hv]
  have K1 := Lib.hid k1
  have K2 := Lib.hid k2
  have B0 := Lib.hid b0
  clear k1 k2 b0 h h1 h2 hx hy hz hu hv hneg q1 q2
  by_cases hu0 : u ≤ 0
  · go_enter Tryd.func66, Tryd.ntmps66
    go_wp2_with fail
    refine K1.out.mono ?_
    rintro e w' ⟨rfl, rfl⟩
    go_wp2_with fail
    refine K2.out.mono ?_
    rintro e w' ⟨rfl, rfl⟩
    go_wp2
    go_ret
    exact ⟨by simp [hu0], B0.out⟩
  · go_enter Tryd.func66, Tryd.ntmps66
    go_wp2_with fail
    refine K1.out.mono ?_
    rintro e w' ⟨rfl, rfl⟩
    go_wp2
    go_ret
    exact ⟨by rw [decide_eq_false (show ¬ u ≤ 0 by omega)]; rfl, B0.out⟩

theorem entriesU_any (A : Option Addr) (c : Nat) (D : List CardV) (B : Nat) (a b : Int) (w : World) (h : Deck w B A D) (hB : B ≤ w.heap.size) (hn : D.length ≤ 1048576) (hl : ∀ d ∈ D, d.xs.length ≤ 1048576) (hcap : CapsOk D) (hP : Places w) :
    Calls Tryd.prog 62 #[.slice A D.length c, .agg #[.int .i64 a, .int .i64 b]] w fun e w' => ∃ A' nn cap, e = .returned (.tuple #[.slice A' nn cap, .int .i64 (keysC (holes D) a b)]) ∧ Below w.heap.size w w' ∧ (keysC (holes D) a b = 0 → ∃ g E K, A' = some ⟨g, 0, none⟩ ∧ D.length = nn ∧ D.length = cap ∧ CapsOk E ∧ EntsOf D a.toNat b.toNat D.length E K ∧ Ents w' w.heap.size g E K D.length) := by
  refine (entriesOf_any A c D B a b w h hB hn hl hcap hP).mono ?_
  rintro e w' (⟨h1, rfl, hb⟩ | ⟨h0, g, E, K, rfl, hb, hE, hC, hK, hEn⟩)
  · exact ⟨none, 0, 0, rfl, hb, fun h => absurd h h1⟩
  · refine ⟨_, _, _, by rw [h0], hb, fun _ => ⟨g, E, K, rfl, rfl, rfl, hC, ?_, hEn⟩⟩
    obtain ⟨i, j, rfl, rfl, hij, hj, hv, hkb⟩ := keysC_zero h0
    rw [Int.toNat_natCast, Int.toNat_natCast] at *
    exact ⟨rfl, hE, hK, hv, hkb, hij, hj⟩
theorem keyTextU_any (s : ByteArray) (hs : s.size ≤ 1048576) (a b : Int) (w : World) (hP : Places w) :
    Calls Tryd.prog 63 #[.string s, .agg #[.int .i64 a, .int .i64 b]] w fun e w' => ∃ A' nn cap, e = .returned (.tuple #[.slice A' nn cap, .int .i64 (textC s (IntKind.i64.wrap (b - a)))]) ∧ Below w.heap.size w w' ∧ (textC s (IntKind.i64.wrap (b - a)) = 0 → ∃ g, A' = some ⟨g, 0, none⟩ ∧ nn = s.size ∧ cap = s.size ∧ Row w' g ((textCodes s).map rkI) []) := by
  refine (keyOfText_any s hs a b w hP).mono ?_
  rintro e w' (⟨h1, rfl, hb⟩ | ⟨h0, g, rfl, _, hb, hr⟩)
  · exact ⟨none, 0, 0, rfl, hb, fun h => absurd h h1⟩
  · exact ⟨_, _, _, by rw [h0], hb, fun _ => ⟨g, rfl, rfl, rfl, hr⟩⟩

theorem firstC_mem {L : List Int} (h : firstC L = 0) {x : Int} (hx : x ∈ L) : x ≠ 1 ∧ x ≠ 2 ∧ x ≠ 7 ∧ x ≠ 8 := by
  unfold firstC at h
  by_cases h1 : 1 ∈ L
  · rw [if_pos h1] at h; exact absurd h (by decide)
  rw [if_neg h1] at h
  by_cases h2 : 2 ∈ L
  · rw [if_pos h2] at h; exact absurd h (by decide)
  rw [if_neg h2] at h
  by_cases h7 : 7 ∈ L
  · rw [if_pos h7] at h; exact absurd h (by decide)
  rw [if_neg h7] at h
  by_cases h8 : 8 ∈ L
  · rw [if_pos h8] at h; exact absurd h (by decide)
  exact ⟨fun e => h1 (e ▸ hx), fun e => h2 (e ▸ hx), fun e => h7 (e ▸ hx), fun e => h8 (e ▸ hx)⟩
theorem ask_zero {H : List (List Int)} {a b : Int} {T : List ByteArray} (h : askC H a b T = 0) : keysC H a b = 0 ∧ ∀ s ∈ T, textC s (IntKind.i64.wrap (b - a)) = 0 := by
  unfold askC at h
  refine ⟨?_, fun s hs => ?_⟩
  · have := firstC_mem h (List.mem_cons_self)
    rcases keysC_vals H a b with e | e | e | e <;> omega
  · have := firstC_mem h (List.mem_cons_of_mem _ (List.mem_map_of_mem hs))
    rcases textC_vals s (IntKind.i64.wrap (b - a)) with e | e | e <;> omega
/-- what is known of a text for a field -/
theorem text_zero {s : ByteArray} {i j : Nat} (hij : i < j) (hj : j ≤ 20) (h : textC s (IntKind.i64.wrap ((j : Int) - (i : Int))) = 0) : s.size = j - i ∧ legalT s = true ∧ (textCodes s).length = j - i ∧ textOk (textCodes s) = true ∧ textS (textCodes s) = s := by
  have hw : IntKind.i64.wrap ((j : Int) - (i : Int)) = (j : Int) - (i : Int) := IntWalk.i64_in _ (by omega)
  rw [hw] at h
  unfold textC at h
  by_cases h1 : (s.size : Int) ≠ (j : Int) - (i : Int)
  · rw [if_pos h1] at h; exact absurd h (by decide)
  · rw [if_neg h1] at h
    cases hl : legalT s with
    | false => rw [hl] at h; exact absurd h (by decide)
    | true =>
      obtain ⟨y1, y2⟩ := text_back hl
      exact ⟨by omega, rfl, by rw [textCodes_length]; omega, y1, y2⟩
theorem betA_facts {H : List (List Int)} {a b : Int} {s t : ByteArray} (h : askC H a b [s, t] = 0) : ∃ i j : Nat, a = i ∧ b = j ∧ i < j ∧ j ≤ widthH H ∧ j ≤ 20 ∧ deckB H = true ∧ keysB H i j = true ∧ betA H a b s t = cardsPl (betQ H i j (textCodes s) (textCodes t)) H H.length ∧
    (s.size = j - i ∧ legalT s = true ∧ (textCodes s).length = j - i ∧ textOk (textCodes s) = true ∧ textS (textCodes s) = s) ∧ (t.size = j - i ∧ legalT t = true ∧ (textCodes t).length = j - i ∧ textOk (textCodes t) = true ∧ textS (textCodes t) = t) := by
  obtain ⟨h1, h2⟩ := ask_zero h
  have hf := h1
  unfold keysC at hf
  obtain ⟨i, j, rfl, rfl, hij, hj, hv, hkb⟩ := keysC_zero h1
  have h20 : j ≤ 20 := by
    rcases keysC_cases H (i : Int) (j : Int) with ⟨e, _⟩ | ⟨e, _⟩ | ⟨_, _, _, _, _, hjw, _, _⟩
    · rw [e] at h1; exact absurd h1 (by decide)
    · rw [e] at h1; exact absurd h1 (by decide)
    · by_cases h0 : H.length = 0
      · have : widthH H = 20 := by simp [widthH, h0]
        omega
      · have hx : H[0]? = some (H[0]'(by omega)) := List.getElem?_eq_getElem _
        obtain ⟨y1, y2⟩ := deck_width hv hx
        have := (okB_parts y1).2
        omega
  refine ⟨i, j, rfl, rfl, hij, hj, h20, hv, hkb, ?_, text_zero hij h20 (h2 s (by simp)), text_zero hij h20 (h2 t (by simp))⟩
  unfold betA
  rw [if_pos h, Int.toNat_natCast, Int.toNat_natCast]

section
variable (A : Option Addr) (c : Nat) (D : List CardV) (B : Nat) (a b : Int) (w : World) (h : Deck w B A D) (hB : B ≤ w.heap.size) (hn : D.length ≤ 1048576) (hl : ∀ d ∈ D, d.xs.length ≤ 1048576)
include h hB hn hl
set_option maxRecDepth 100000 in
set_option maxHeartbeats 4000000 in
theorem implBetween_any (hcap : CapsOk D) (hP : Places w) (s t : ByteArray) (hs : s.size ≤ 1048576) (ht : t.size ≤ 1048576) :
    Calls Tryd.prog 33 #[.slice A D.length c, .agg #[.int .i64 a, .int .i64 b], .string s, .string t] w (GivesDC (betA (holes D) a b s t) (askC (holes D) a b [s, t]) w) := by
  have b0 := below_box w (.cells #[.int .i64 a, .int .i64 b] 30)
  have hk := entriesU_any A c D B a b (w.alloc (.cells #[.int .i64 a, .int .i64 b] 30)) (h.below (b0.mono hB)) (by simp; omega) hn hl hcap (hP.below b0)
  have p0 : (w.alloc (.cells #[.int .i64 a, .int .i64 b] 30)).cell? ⟨w.heap.size, 0, none⟩ = some (.int .i64 a) := by simp
  have p1 : (w.alloc (.cells #[.int .i64 a, .int .i64 b] 30)).cell? ⟨w.heap.size, 1, none⟩ = some (.int .i64 b) := by simp
  have hks := fun W (hW : Below w.heap.size w W) => keyTextU_any s hs a b W (hP.below hW)
  have hkt := fun W (hW : Below w.heap.size w W) => keyTextU_any t ht a b W (hP.below hW)
  have hfacts := fun (h0 : askC (holes D) a b [s, t] = 0) => And.intro (betA_facts h0) (ask_zero h0)
  have hnil : askC (holes D) a b [s, t] ≠ 0 → betA (holes D) a b s t = [] := fun h0 => by
    unfold betA
    rw [if_neg h0]
  have hsz0 : w.heap.size ≤ (w.alloc (.cells #[.int .i64 a, .int .i64 b] 30)).heap.size := b0.size
  have hfe : askC (holes D) a b [s, t] = firstC [keysC (holes D) a b, textC s (IntKind.i64.wrap (b - a)), textC t (IntKind.i64.wrap (b - a))] := rfl
  obtain ⟨k, hk0⟩ : ∃ k, keysC (holes D) a b = k := ⟨_, rfl⟩
  obtain ⟨cs, hcs⟩ : ∃ x, textC s (IntKind.i64.wrap (b - a)) = x := ⟨_, rfl⟩
  obtain ⟨ct, hct⟩ : ∃ x, textC t (IntKind.i64.wrap (b - a)) = x := ⟨_, rfl⟩
  obtain ⟨r, hr⟩ : ∃ r, askC (holes D) a b [s, t] = r := ⟨_, rfl⟩
  obtain ⟨X, hX⟩ : ∃ X, betA (holes D) a b s t = X := ⟨_, rfl⟩
  rw [hr, hk0, hcs, hct] at hfe
  simp only [hcs] at hks
  simp only [hct] at hkt
  simp only [hr, hk0, hX] at hfacts
  rw [hr, hX] at hnil
  have hzs : (r = 0 → cs = 0 ∧ ct = 0) := fun h0 => by
    obtain ⟨_, _, h3⟩ := hfacts h0
    exact ⟨by rw [← hcs]; exact h3 s (by simp), by rw [← hct]; exact h3 t (by simp)⟩
  rw [hr, hX]
  rw [hk0] at hk
  obtain ⟨n, hN⟩ : ∃ n, D.length = n := ⟨_, rfl⟩
  rw [hN] at hk ⊢
  have HK := Lib.hid hk
  have HKS := Lib.hid hks
  have HKT := Lib.hid hkt
  have HF := Lib.hid hfacts
  have HNIL := Lib.hid hnil
  have HZS := Lib.hid hzs
  have HFE := Lib.hid hfe
  have BW := Lib.hid b0
  have HN := Lib.hid hN
  clear hk hks hkt hfacts hnil hfe hzs hr hX hcs hct hk0 b0 h hl hcap hP hN
  go_enter Tryd.func33, Tryd.ntmps33
  go_wp2_with fail
  refine HK.out.mono ?_
  rintro e w1 ⟨A1, n1, c1, rfl, hb1, h1⟩
  have B1 := Lib.hid (below_step BW.out hb1)
  have q0 := cell_kept p0 hb1
  have q1 := cell_kept p1 hb1
  have H1 := Lib.hid h1
  have hs1 := hb1.size
  clear hb1 h1 p0 p1 HK
  go_wp2_with fail
  refine (HKS.out w1 B1.out).mono ?_
  rintro e w2 ⟨A2, n2, c2, rfl, hb2, h2⟩
  have L2 := Lib.hid (hb2.trans ((below_box w2 (.cells #[.slice A2 n2 c2] 40)).mono hb2.size))
  have B2 := Lib.hid (below_step B1.out L2.out)
  have x0 : (w2.alloc (.cells #[.slice A2 n2 c2] 40)).cell? ⟨w.heap.size, 0, none⟩ = some (.int .i64 a) := cell_kept q0 L2.out
  have x1 : (w2.alloc (.cells #[.slice A2 n2 c2] 40)).cell? ⟨w.heap.size, 1, none⟩ = some (.int .i64 b) := cell_kept q1 L2.out
  have y2 : (w2.alloc (.cells #[.slice A2 n2 c2] 40)).cell? ⟨w2.heap.size, 0, none⟩ = some (.slice A2 n2 c2) := by simp
  have H2 := Lib.hid h2
  have M2 := Lib.hid (below_box w2 (.cells #[.slice A2 n2 c2] 40))
  clear hb2 h2 q0 q1
  go_wp2_with fail
  refine (HKT.out _ B2.out).mono ?_
  rintro e w3 ⟨A3, n3, c3, rfl, hb3, h3⟩
  have L3 := Lib.hid (hb3.trans ((below_box w3 (.cells #[.slice A3 n3 c3] 40)).mono hb3.size))
  have y2' := cell_kept y2 L3.out
  have y3 : (w3.alloc (.cells #[.slice A3 n3 c3] 40)).cell? ⟨w3.heap.size, 0, none⟩ = some (.slice A3 n3 c3) := by simp
  have M3 := Lib.hid (below_box w3 (.cells #[.slice A3 n3 c3] 40))
  have H3 := Lib.hid h3
  clear hb3 h3 x0 x1 y2
  have hfe := firstError_any (some ⟨w3.heap.size + 1, 0, none⟩) 3 [k, cs, ct] (w3.heap.size + 2) ((w3.alloc (.cells #[.slice A3 n3 c3] 40)).alloc (.cells #[.int .i64 k, .int .i64 cs, .int .i64 ct] 2)) (fun _ => ⟨w3.heap.size + 1, 0, rfl, by omega, fun x hx => by
    match x, hx with
    | 0, _ => simp [go_sem]
    | 1, _ => simp [go_sem]
    | 2, _ => simp [go_sem]
    | x + 3, hx => exact absurd (show x + 3 < 3 from hx) (by omega)⟩) (by simp) (by simp)
  rw [← HFE.out] at hfe
  have HFC := Lib.hid hfe
  have B4 := Lib.hid (below_box (w3.alloc (.cells #[.slice A3 n3 c3] 40)) (.cells #[.int .i64 k, .int .i64 cs, .int .i64 ct] 2))
  have z2 := cell_kept y2' B4.out
  have z3 := cell_kept y3 B4.out
  clear hfe y2' y3
  go_wp2_with fail
  refine HFC.out.mono ?_
  rintro e w5 ⟨rfl, hb5⟩
  have v2 := cell_kept z2 hb5
  have v3 := cell_kept z3 hb5
  have L5 := Lib.hid (below_step B4.out hb5)
  have B5 := Lib.hid (below_step B2.out (below_step L3.out L5.out))
  clear hb5 z2 z3 HFC B4
  by_cases hr0 : r = 0
  · obtain ⟨⟨i, j, rfl, rfl, hij, hj, h20, hv, hkb, hX, hS, hT⟩, hk0, _⟩ := HF.out hr0
    obtain ⟨g, E, K, rfl, rfl, rfl, hCE, hEO, hEn⟩ := H1.out hk0
    obtain ⟨g2, rfl, rfl, rfl, hr2⟩ := H2.out (HZS.out hr0).1
    obtain ⟨g3, rfl, rfl, rfl, hr3⟩ := H3.out (HZS.out hr0).2
    rw [Int.toNat_natCast, Int.toNat_natCast] at hEO
    have hEn5 := hEn.later (below_step L2.out (below_step L3.out L5.out))
    have row2 := hr2.later (below_step M2.out (below_step L3.out L5.out))
    have row3 := hr3.later (below_step M3.out L5.out)
    have hg0 : (w.alloc (.cells #[.int .i64 (i : Int), .int .i64 (j : Int)] 30)).heap.size ≤ w5.heap.size := Nat.le_trans hs1 (Nat.le_trans L2.out.size (Nat.le_trans L3.out.size L5.out.size))
    have hcw := cardsBet_any w2.heap.size w3.heap.size (betQ (holes D) i j (textCodes s) (textCodes t)) hEO hEn5 hg0 (fun k e p W hk he hp hW => by
      obtain ⟨d, e', p', hd, he', hp', x1, x2, x3, x4, x5, x6, x7⟩ := hEO.at_ hk
      obtain rfl : e = e' := Option.some.inj (he.symm.trans he')
      obtain rfl : p = p' := Option.some.inj (hp.symm.trans hp')
      obtain ⟨gp, exp, e1, rp⟩ := hEn5.keys p (List.mem_of_getElem? hp)
      have ip := (rp.later hW).ints
      rw [x2] at ip
      have i2 := (row2.later hW).ints
      have i3 := (row3.later hW).ints
      have l1 := (rp.later hW).lt
      have l2 := (row2.later hW).lt
      have l3 := (row3.later hW).lt
      have hpl : p.xs.length = j - i := by rw [x2, List.length_map, x3]
      have key := selKeep_any e.at_ (some ⟨gp, 0, none⟩) e.xs.length e.cap p.cap w2.heap.size w3.heap.size (some ⟨g2, 0, none⟩) (some ⟨g3, 0, none⟩) s.size t.size (partOf d.xs i j) (textCodes s) (textCodes t) (j - i) _ _ _ W ip i2 i3 (by omega) (by omega) (by omega) x3 hS.2.2.1 hT.2.2.1 (by omega) (by rw [← hS.1]; exact cell_kept v2 hW) (by rw [← hT.1]; exact cell_kept v3 hW)
      have hb : betQ (holes D) i j (textCodes s) (textCodes t) k = (decide (0 ≤ cmpTo (partOf d.xs i j) (textCodes s) (j - i)) && decide (cmpTo (partOf d.xs i j) (textCodes t) (j - i) ≤ 0)) := by
        unfold betQ
        rw [holes_at hd]
        rfl
      rw [hb]
      unfold CardV.value
      rw [e1, hpl]
      exact key)
    have HCW := Lib.hid hcw
    have hfin : holes (cardsE (betQ (holes D) i j (textCodes s) (textCodes t)) E n) = X := by
      rw [cardsE_holes _ _ _ (by rw [hEO.lenE]; omega), hEO.hE, hX, holes_len, HN.out]
    obtain ⟨Y, hY⟩ : ∃ Y, cardsE (betQ (holes D) i j (textCodes s) (textCodes t)) E n = Y := ⟨_, rfl⟩
    unfold GivesSel at HCW
    rw [hY] at HCW hfin
    have HFIN := Lib.hid hfin
    have hlen : X.length = Y.length := by rw [← hfin, holes_len]
    have HLEN := Lib.hid hlen
    subst hr0
    clear hcw hfin hlen hY hX hS hT row2 row3 hr2 hr3 hEn hEn5 hEO hCE hv hkb v2 v3 H1 H2 H3 HF HNIL HZS
    go_wp2_with fail
    refine HCW.out.mono ?_
    rintro e w6 ⟨A9, c9, rfl, hb6, hda⟩
    have B6 := Lib.hid (below_step B5.out hb6)
    have HDA := Lib.hid (hda.widen hsz0 (Nat.le_refl _) (Nat.le_refl _))
    clear hb6 hda HCW
    go_wp2
    go_ret2
    exact ⟨A9, c9, Y, by rw [HLEN.out]; rfl, HFIN.out, B6.out, HDA.out⟩
  · have hr1 : (r != 0) = true := by simpa using hr0
    have hX := HNIL.out hr0
    subst hX
    go_wp2
    go_ret2
    exact ⟨none, 0, [], rfl, rfl, B5.out, DeckAt.nil (Nat.le_refl _)⟩
end

theorem ask_two (H : List (List Int)) (a b : Int) (s : ByteArray) : askC H a b [s, s] = askC H a b [s] := by
  unfold askC firstC
  simp only [List.map_cons, List.map_nil, List.mem_cons, List.not_mem_nil, or_false, or_self]
theorem bet_two (H : List (List Int)) (a b : Int) (s : ByteArray) : betA H a b s s = eqA H a b s := by
  unfold betA eqA
  rw [ask_two]
section
variable (A : Option Addr) (c : Nat) (D : List CardV) (B : Nat) (a b : Int) (w : World) (h : Deck w B A D) (hB : B ≤ w.heap.size) (hn : D.length ≤ 1048576) (hl : ∀ d ∈ D, d.xs.length ≤ 1048576)
include h hB hn hl
theorem implEqual_any (hcap : CapsOk D) (hP : Places w) (s : ByteArray) (hs : s.size ≤ 1048576) :
    Calls Tryd.prog 31 #[.slice A D.length c, .agg #[.int .i64 a, .int .i64 b], .string s] w (GivesDC (eqA (holes D) a b s) (askC (holes D) a b [s]) w) := by
  have b0 := below_box w (.cells #[.int .i64 a, .int .i64 b] 30)
  have hk := implBetween_any A c D B a b _ (h.below (b0.mono hB)) (by simp; omega) hn hl hcap (hP.below b0) s s hs hs
  rw [ask_two, bet_two] at hk
  have hsz0 : w.heap.size ≤ (w.alloc (.cells #[.int .i64 a, .int .i64 b] 30)).heap.size := b0.size
  have BW := Lib.hid b0
  obtain ⟨L, hL⟩ : ∃ L, eqA (holes D) a b s = L := ⟨_, rfl⟩
  obtain ⟨k, hk0⟩ : ∃ k, askC (holes D) a b [s] = k := ⟨_, rfl⟩
  obtain ⟨n, hN⟩ : ∃ n, D.length = n := ⟨_, rfl⟩
  rw [hL, hk0, hN] at hk
  rw [hL, hk0, hN]
  have HK := Lib.hid hk
  clear hk h hl hcap b0 hP hL hk0 hN hn
  go_enter Tryd.func31, Tryd.ntmps31
  go_wp2_with fail
  refine HK.out.mono ?_
  rintro e w1 ⟨A1, c1, E, rfl, hE, hb, hi⟩
  have B1 := Lib.hid (below_step BW.out hb)
  have HI := Lib.hid (hi.widen hsz0 (Nat.le_refl _) (Nat.le_refl _))
  have HE := Lib.hid hE
  clear hb hi HK hE
  go_wp2
  go_ret2
  exact ⟨A1, c1, E, rfl, HE.out, B1.out, HI.out⟩
end
end Go.Proofs.YtmdamciheekeoaaDoor

/- spec.SelectBetween and spec.SelectEqual answer the cards whose field lies between two texts, or has one: contracts. -/
namespace Go.Proofs.YtmdamciheekeoaaDoor
open Go.ChangeShapes Go.WideShapes Go.ChangeAt Go.RowKit

theorem betQ_at {D : List CardV} {i j k : Nat} {d : CardV} (hd : D[k]? = some d) (x y : List Int) : betQ (holes D) i j x y k = (decide (0 ≤ cmpTo (partOf d.xs i j) x (j - i)) && decide (cmpTo (partOf d.xs i j) y (j - i) ≤ 0)) := by
  unfold betQ
  rw [holes_at hd]
  rfl
theorem keyText_any {D : List CardV} {i j n kg p : Nat} {w : World} {s : ByteArray} (hrow : KeyRow w kg D i j) (hv : deckB (holes D) = true) (hkb : keysB (holes D) i j = true) (hj : j ≤ widthH (holes D)) (hN : D.length = n) (hp : p < n) (hS : s.size = j - i ∧ legalT s = true ∧ (textCodes s).length = j - i ∧ textOk (textCodes s) = true ∧ textS (textCodes s) = s) :
    ∃ d S, D[p]? = some d ∧ w.cell? ⟨kg, p, none⟩ = some (.string S) ∧ textS (partOf d.xs i j) = S ∧ ∀ W, Calls Tryd.prog 57 #[.string S, .string s] W fun e w' => e = .returned (.int .i64 (cmpTo (partOf d.xs i j) (textCodes s) (j - i))) ∧ w' = W := by
  obtain ⟨d, hd, c1, l1, o1, h20, z1⟩ := keyOf_at hrow hv hkb hj hN hp
  refine ⟨d, _, hd, c1, rfl, fun W => ?_⟩
  have := l03Compare_any (textS (partOf d.xs i j)) (textS (textCodes s)) (partOf d.xs i j) (textCodes s) (j - i) z1 (by rw [hS.2.2.2.2]; exact hS.1) l1 hS.2.2.1 (fun k h => textS_get _ k h) (fun k h => textS_get _ k h) o1 hS.2.2.2.1 (by omega) W
  rw [hS.2.2.2.2] at this
  exact this.mono fun _ _ hh => ⟨hh.1, hh.2.symm⟩

theorem keyEq_any {D : List CardV} {i j n kg p : Nat} {w : World} {s : ByteArray} (hrow : KeyRow w kg D i j) (hv : deckB (holes D) = true) (hkb : keysB (holes D) i j = true) (hj : j ≤ widthH (holes D)) (hN : D.length = n) (hp : p < n) (hS : s.size = j - i ∧ legalT s = true ∧ (textCodes s).length = j - i ∧ textOk (textCodes s) = true ∧ textS (textCodes s) = s) :
    ∃ d S, D[p]? = some d ∧ w.cell? ⟨kg, p, none⟩ = some (.string S) ∧ (S = s → betQ (holes D) i j (textCodes s) (textCodes s) p = true) ∧ (¬ S = s → betQ (holes D) i j (textCodes s) (textCodes s) p = false) := by
  obtain ⟨d, hd, c1, l1, o1, _, _⟩ := keyOf_at hrow hv hkb hj hN hp
  have hz := cmpTo_zero l1 hS.2.2.1 o1 hS.2.2.2.1
  have ho := textS_one o1 hS.2.2.2.1
  rw [hS.2.2.2.2] at ho
  refine ⟨d, _, hd, c1, fun e => ?_, fun e => ?_⟩
  · rw [betQ_at hd, hz.2 (ho.1 e)]
    rfl
  · rw [betQ_at hd]
    have : ¬ cmpTo (partOf d.xs i j) (textCodes s) (j - i) = 0 := fun h => e (ho.2 (hz.1 h))
    rw [Bool.and_eq_false_iff, decide_eq_false_iff_not, decide_eq_false_iff_not]
    omega

section
variable (A : Option Addr) (c : Nat) (D : List CardV) (B : Nat) (a b : Int) (w : World) (h : Deck w B A D) (hB : B ≤ w.heap.size) (hn : D.length ≤ 1048576) (hl : ∀ d ∈ D, d.xs.length ≤ 1048576)
include h hB hn hl
set_option maxRecDepth 100000 in
set_option maxHeartbeats 4000000 in
theorem specBetween_any (hcap : CapsOk D) (s t : ByteArray) (hs : s.size ≤ 1048576) (ht : t.size ≤ 1048576) :
    Calls Tryd.prog 32 #[.slice A D.length c, .agg #[.int .i64 a, .int .i64 b], .string s, .string t] w (GivesDC (betA (holes D) a b s t) (askC (holes D) a b [s, t]) w) := by
  obtain ⟨i0, hi0, hz0, hz1, hz2⟩ := info_parts info_card
  have b1 : Below w.heap.size w ((w.alloc (.cells #[.int .i64 a, .int .i64 b] 30)).alloc (.cells #[.string s, .string t] 9)) := (below_box w _).alloc (by simp) _
  have hk := l09Ask_any A c D B a b ((w.alloc (.cells #[.int .i64 a, .int .i64 b] 30)).alloc (.cells #[.string s, .string t] 9)) (h.below (b1.mono hB)) (Nat.le_trans hB b1.size) hn hl hcap [s, t] (w.heap.size + 1) 2 (fun k x hx => by
    match k, hx with
    | 0, hx => obtain rfl : s = x := by simpa using hx
               simp [go_sem]
    | 1, hx => obtain rfl : t = x := by simpa using hx
               simp [go_sem]
    | k + 2, hx => simp at hx) (by simp) (by simp) (fun x hx => by
      rcases List.mem_cons.1 hx with rfl | hx
      · exact hs
      · obtain rfl : x = t := by simpa using hx
        exact ht)
  have BW := Lib.hid b1
  obtain ⟨n, hN⟩ : ∃ n, D.length = n := ⟨_, rfl⟩
  by_cases e : askC (holes D) a b [s, t] = 0
  · obtain ⟨i, j, rfl, rfl, hij, hj, h20, hv, hkb, hX, hS, hT⟩ := betA_facts e
    have hn40 : n ≤ 40 := by
      have := deck_len hv
      simp [holes, hN] at this
      exact this
    rw [hX]
    rw [e] at hk ⊢
    rw [Int.toNat_natCast, Int.toNat_natCast] at hk
    rw [holes_len, hN]
    unfold GivesKeys at hk
    rw [hN] at hk
    have h1 := fun kg (w : World) (hr : KeyRow w kg D i j) p (hp : p < n) => keyText_any hr hv hkb hj hN hp hS
    have h2 := fun kg (w : World) (hr : KeyRow w kg D i j) p (hp : p < n) => keyText_any hr hv hkb hj hN hp hT
    have hat := fun p (d : CardV) (hd : D[p]? = some d) => deck_width hv (holes_at hd)
    obtain ⟨ys, hys⟩ : ∃ ys, textCodes s = ys := ⟨_, rfl⟩
    obtain ⟨zs, hzs⟩ : ∃ zs, textCodes t = zs := ⟨_, rfl⟩
    rw [hys, hzs]
    simp only [hys] at h1
    simp only [hzs] at h2
    have HAT := Lib.hid hat
    have HK := Lib.hid hk
    have H1 := Lib.hid h1
    have H2 := Lib.hid h2
    have H := Lib.hid h
    have HN := Lib.hid hN
    have hJ := Lib.hid (show 0 < widthH (holes D) by omega)
    clear hk h1 h2 h hl hcap b1 e hv hkb hj hij hN hX hS hT hys hzs hat
    go_enter Tryd.func32, Tryd.ntmps32
    go_wp2_with fail
    refine HK.out.mono ?_
    rintro e w2 (⟨h0, _⟩ | ⟨_, A', cap, rfl, hb, hrow⟩)
    · exact absurd rfl h0
    have B2 := Lib.hid (below_step BW.out hb)
    have HRW := Lib.hid hrow
    have HE0 := Lib.hid (empty_cards w2)
    clear hb hrow HK
    go_wp2
    go_loopw [12, 13] (fun vo x wr => ∃ t cap : Nat, ∃ g : Nat, ∃ E : List CardV, t ≤ n ∧ x = .int .i64 t ∧ vo = .slice (some ⟨g, 0, none⟩) E.length cap ∧ Hid (E.length ≤ t) ∧ Hid (holes E = cardsPl (betQ (holes D) i j ys zs) (holes D) t) ∧ Hid (Below w2.heap.size w2 wr) ∧ Hid (wr.ownsRow w2.heap.size 55 1 (.slice (some ⟨g, 0, none⟩) E.length cap) E.length (E.map CardV.value)) ∧ Hid (NewRows wr w2.heap.size E)) (fun _ x _ => n - (intOf x).toNat)
    case atStart => exact ⟨0, 0, w2.heap.size, [], Nat.zero_le _, rfl, rfl, Nat.le_refl _, by show _ = _; simp [holes, cardsPl], below_box w2 _, HE0, NewRows.nil⟩
    case round =>
      obtain ⟨t, cap, g, E, ht, rfl, rfl, HE, HS, HB, HO, HR⟩ := hrel
      by_cases hlt : t < n
      · obtain ⟨kg, rfl, hg, hkr⟩ := HRW.out (by omega)
        obtain ⟨d, S, hd, cS, eS, hc1⟩ := H1.out kg w2 hkr t hlt
        obtain ⟨d', S', hd', cS', eS', hc2⟩ := H2.out kg w2 hkr t hlt
        obtain rfl : d = d' := Option.some.inj (hd.symm.trans hd')
        obtain rfl : S = S' := eS.symm.trans eS'
        have c1 := cell_kept cS HB.out
        have hq := betQ_at (i := i) (j := j) hd ys zs
        obtain ⟨v1, hv1⟩ : ∃ v, cmpTo (partOf d.xs i j) ys (j - i) = v := ⟨_, rfl⟩
        obtain ⟨v2, hv2⟩ : ∃ v, cmpTo (partOf d.xs i j) zs (j - i) = v := ⟨_, rfl⟩
        rw [hv1, hv2] at hq
        simp only [hv1] at hc1
        simp only [hv2] at hc2
        have C1 := Lib.hid hc1
        have C2 := Lib.hid hc2
        have t0 : (0 : Int) ≤ (t : Int) := Int.natCast_nonneg _
        have t1 : (t : Int) < (n : Int) := by omega
        have BD := below_step B2.out HB.out
        obtain ⟨bq, oq, rfl, hbq, hcell⟩ := (H.out.below (BD.mono hB)) (by rw [HN.out]; omega)
        obtain ⟨hc, hi⟩ := hcell t d hd
        obtain ⟨y1, y2⟩ := HAT.out t d hd
        have hd20 := (okB_parts y1).2
        have hd0 : 0 < d.xs.length := by rw [y2]; exact hJ.out
        unfold CardV.value at hc
        have HOWN := Lib.hid (ownNew_any d.at_ d.cap d.xs B bq (oq + t) wr hc hi (Nat.le_trans hB BD.size) hd0 (by omega))
        have hHt := holes_at hd
        clear hcell hi BD hc hc1 hc2 hv1 hv2 cS cS' eS' eS y1 y2 hkr hbq
        by_cases hu : 0 ≤ v1
        · by_cases hw : v2 ≤ 0
          · have hs := cardsPl_yes (q := betQ (holes D) i j ys zs) (hq.trans (by rw [decide_eq_true hu, decide_eq_true hw]; rfl)) hHt
            have HH1 : Hid (∀ e : CardV, e.xs = d.xs → holes (E ++ [e]) = cardsPl (betQ (holes D) i j ys zs) (holes D) (t + 1)) := fun e he => by
              rw [hs, ← HS.out]
              simp [holes, he]
            have hz : w2.heap.size ≤ wr.heap.size := HB.out.size
            have hEt := HE.out
            clear hq hs hHt hd hd'
            go_wp2_with fail
            refine (C1.out _).mono ?_
            rintro e w' ⟨rfl, rfl⟩
            go_wp2_with fail
            refine (C2.out _).mono ?_
            rintro e w' ⟨rfl, rfl⟩
            go_wp2_with fail
            refine HOWN.out.mono ?_
            rintro e w3 ⟨ge, cp, ex, rfl, hge, hb3, hrow⟩
            have HB3 := Lib.hid (below_step HB.out hb3)
            have HR3 := Lib.hid (HR.out.more hb3 (e := ⟨some ⟨ge, 0, none⟩, cp, d.xs⟩) rfl hge (Nat.le_trans HB.out.size hge) hrow)
            have HO3 : Hid (w3.ownsRow w2.heap.size 55 1 (.slice (some ⟨g, 0, none⟩) E.length cap) E.length (E.map CardV.value)) := own_moved HO.out (fun i _ hi => hb3.block i hi)
            have hw3 : w2.heap.size ≤ w3.heap.size := HB3.out.size
            clear hb3 hrow hge
            go_wp2_with (at_builtin; refine wpList_append_own _ rfl _ _ 26 rfl w2.heap.size 55 i0 (.agg #[.slice none 0 0]) 1 24 Tryd.underlying26 hi0 hz0 hz1 hz2 rfl (by decide) _ _ _ rfl (HO3.out.alloc _) ⟨w3.heap.size, 0, none⟩ 1 1 [CardV.value ⟨some ⟨ge, 0, none⟩, cp, d.xs⟩] rfl rfl (card_news w3 _) (card_one _) ?c3 ?c4 ?c5 ?_; rotate_left 3; intro v9 w9 hown hgrow hiff; have hv9 : v9 ≠ .slice none 0 0 := (fun e => by have := (hiff.1 e).1; cases this); obtain ⟨ho, hbb, hrr⟩ := own_card (x := ⟨some ⟨ge, 0, none⟩, cp, d.xs⟩) hown hgrow HO3.out HB3.out (Nat.le_refl _) hw3 HR3.out; obtain ⟨g9, cap9, rfl⟩ := own_shape ho hv9; have HO9 := Lib.hid ho; have HB9 := Lib.hid hbb; have HR9 := Lib.hid hrr; clear hown hgrow hiff hv9 ho hbb hrr)
            case c3 => unfold maxLen; omega
            case c4 => omega
            case c5 => simp; omega
            go_roundw
            case rel => exact ⟨t + 1, cap9, g9, E ++ [(⟨some ⟨ge, 0, none⟩, cp, d.xs⟩ : CardV)], by omega, by go_num, by rw [List.length_append]; rfl, by show _ ≤ _; simp; omega, HH1.out _ rfl, HB9, by rw [List.length_append]; exact HO9, HR9⟩
            case measure => simp [intOf]; omega
          · have hs := cardsPl_no (H := holes D) (q := betQ (holes D) i j ys zs) (hq.trans (by rw [decide_eq_false hw, Bool.and_false]))
            have HS1 := Lib.hid (HS.out.trans hs.symm)
            have hw2 : ¬ v2 ≤ 0 := hw
            have hEt := HE.out
            clear hq hs hHt hd hd' HOWN
            go_wp2_with fail
            refine (C1.out _).mono ?_
            rintro e w' ⟨rfl, rfl⟩
            go_wp2_with fail
            refine (C2.out _).mono ?_
            rintro e w' ⟨rfl, rfl⟩
            go_wp2
            go_roundw
            case rel => exact ⟨t + 1, cap, g, E, by omega, by go_num, rfl, by show _ ≤ _; omega, HS1.out, HB, HO, HR⟩
            case measure => simp [intOf]; omega
        · have hs := cardsPl_no (H := holes D) (q := betQ (holes D) i j ys zs) (hq.trans (by rw [decide_eq_false hu, Bool.false_and]))
          have HS1 := Lib.hid (HS.out.trans hs.symm)
          have hEt := HE.out
          clear hq hs hHt hd hd' HOWN
          go_wp2_with fail
          refine (C1.out _).mono ?_
          rintro e w' ⟨rfl, rfl⟩
          go_wp2
          go_roundw
          case rel => exact ⟨t + 1, cap, g, E, by omega, by go_num, rfl, by show _ ≤ _; omega, HS1.out, HB, HO, HR⟩
          case measure => simp [intOf]; omega
      · have htn : t = n := by omega
        have t1 : ¬ (t : Int) < (n : Int) := by omega
        have hh := HS.out
        rw [htn] at hh
        have HHH := Lib.hid hh
        obtain ⟨A9, c9, e9, hda⟩ := own_deckAt HO.out rfl HR.out (Nat.le_refl _)
        injection e9 with e9 _ _
        subst e9
        have HDA := Lib.hid (hda.widen B2.out.size (Nat.le_refl _) (Nat.le_refl _))
        have BB := Lib.hid (below_step B2.out HB.out)
        have hlen : Hid ((cardsPl (betQ (holes D) i j ys zs) (holes D) n).length = E.length) := by show _ = _; rw [← hh, holes_len]
        clear hh htn hda
        go_wp2
        go_ret2
        exact ⟨_, _, E, by rw [hlen.out]; rfl, HHH.out, BB.out, HDA.out⟩
  · have hX : betA (holes D) a b s t = [] := by
      unfold betA
      rw [if_neg e]
    rw [hX]
    obtain ⟨k, hk0⟩ : ∃ k, askC (holes D) a b [s, t] = k := ⟨_, rfl⟩
    rw [hk0] at hk e ⊢
    rw [hN] at hk ⊢
    have e1 : (k != 0) = true := by simpa using e
    have HK := Lib.hid hk
    clear hk h hl hcap b1 hk0 hN hn hX
    go_enter Tryd.func32, Tryd.ntmps32
    go_wp2_with fail
    refine HK.out.mono ?_
    rintro e' w1 (⟨_, rfl, hb⟩ | ⟨h0, _⟩)
    · have B1 := Lib.hid (below_step BW.out hb)
      clear hb HK
      go_wp2
      go_ret2
      exact ⟨none, 0, [], rfl, rfl, B1.out, DeckAt.nil (Nat.le_refl _)⟩
    · exact absurd h0 e
set_option maxRecDepth 100000 in
set_option maxHeartbeats 4000000 in
theorem specEqual_any (hcap : CapsOk D) (s : ByteArray) (hs : s.size ≤ 1048576) :
    Calls Tryd.prog 30 #[.slice A D.length c, .agg #[.int .i64 a, .int .i64 b], .string s] w (GivesDC (eqA (holes D) a b s) (askC (holes D) a b [s]) w) := by
  obtain ⟨i0, hi0, hz0, hz1, hz2⟩ := info_parts info_card
  have b1 : Below w.heap.size w ((w.alloc (.cells #[.int .i64 a, .int .i64 b] 30)).alloc (.cells #[.string s] 9)) := (below_box w _).alloc (by simp) _
  have hk := l09Ask_any A c D B a b ((w.alloc (.cells #[.int .i64 a, .int .i64 b] 30)).alloc (.cells #[.string s] 9)) (h.below (b1.mono hB)) (Nat.le_trans hB b1.size) hn hl hcap [s] (w.heap.size + 1) 1 (fun k x hx => by
    match k, hx with
    | 0, hx => obtain rfl : s = x := by simpa using hx
               simp [go_sem]
    | k + 1, hx => simp at hx) (by simp) (by simp) (fun x hx => by
      obtain rfl : x = s := by simpa using hx
      exact hs)
  have BW := Lib.hid b1
  obtain ⟨n, hN⟩ : ∃ n, D.length = n := ⟨_, rfl⟩
  by_cases e : askC (holes D) a b [s] = 0
  · obtain ⟨i, j, rfl, rfl, hij, hj, h20, hv, hkb, hX, hS, _⟩ := betA_facts (s := s) (t := s) (by rw [ask_two]; exact e)
    rw [bet_two] at hX
    have hn40 : n ≤ 40 := by
      have := deck_len hv
      simp [holes, hN] at this
      exact this
    rw [hX]
    rw [e] at hk ⊢
    rw [Int.toNat_natCast, Int.toNat_natCast] at hk
    rw [holes_len, hN]
    unfold GivesKeys at hk
    rw [hN] at hk
    have h1 := fun kg (w : World) (hr : KeyRow w kg D i j) p (hp : p < n) => keyEq_any hr hv hkb hj hN hp hS
    have hat := fun p (d : CardV) (hd : D[p]? = some d) => deck_width hv (holes_at hd)
    obtain ⟨ys, hys⟩ : ∃ ys, textCodes s = ys := ⟨_, rfl⟩
    rw [hys]
    simp only [hys] at h1
    have HAT := Lib.hid hat
    have HK := Lib.hid hk
    have H1 := Lib.hid h1
    have H := Lib.hid h
    have HN := Lib.hid hN
    have hJ := Lib.hid (show 0 < widthH (holes D) by omega)
    clear hk h1 h hl hcap b1 e hv hkb hj hij hN hX hS hys hat
    go_enter Tryd.func30, Tryd.ntmps30
    go_wp2_with fail
    refine HK.out.mono ?_
    rintro e w2 (⟨h0, _⟩ | ⟨_, A', cap, rfl, hb, hrow⟩)
    · exact absurd rfl h0
    have B2 := Lib.hid (below_step BW.out hb)
    have HRW := Lib.hid hrow
    have HE0 := Lib.hid (empty_cards w2)
    clear hb hrow HK
    go_wp2
    go_loopw [10, 11] (fun vo x wr => ∃ t cap : Nat, ∃ g : Nat, ∃ E : List CardV, t ≤ n ∧ x = .int .i64 t ∧ vo = .slice (some ⟨g, 0, none⟩) E.length cap ∧ Hid (E.length ≤ t) ∧ Hid (holes E = cardsPl (betQ (holes D) i j ys ys) (holes D) t) ∧ Hid (Below w2.heap.size w2 wr) ∧ Hid (wr.ownsRow w2.heap.size 55 1 (.slice (some ⟨g, 0, none⟩) E.length cap) E.length (E.map CardV.value)) ∧ Hid (NewRows wr w2.heap.size E)) (fun _ x _ => n - (intOf x).toNat)
    case atStart => exact ⟨0, 0, w2.heap.size, [], Nat.zero_le _, rfl, rfl, Nat.le_refl _, by show _ = _; simp [holes, cardsPl], below_box w2 _, HE0, NewRows.nil⟩
    case round =>
      obtain ⟨t, cap, g, E, ht, rfl, rfl, HE, HS, HB, HO, HR⟩ := hrel
      by_cases hlt : t < n
      · obtain ⟨kg, rfl, hg, hkr⟩ := HRW.out (by omega)
        obtain ⟨d, S, hd, cS, hqy, hqn⟩ := H1.out kg w2 hkr t hlt
        have c1 := cell_kept cS HB.out
        have t0 : (0 : Int) ≤ (t : Int) := Int.natCast_nonneg _
        have t1 : (t : Int) < (n : Int) := by omega
        have BD := below_step B2.out HB.out
        obtain ⟨bq, oq, rfl, hbq, hcell⟩ := (H.out.below (BD.mono hB)) (by rw [HN.out]; omega)
        obtain ⟨hc, hi⟩ := hcell t d hd
        obtain ⟨y1, y2⟩ := HAT.out t d hd
        have hd20 := (okB_parts y1).2
        have hd0 : 0 < d.xs.length := by rw [y2]; exact hJ.out
        unfold CardV.value at hc
        have HOWN := Lib.hid (ownNew_any d.at_ d.cap d.xs B bq (oq + t) wr hc hi (Nat.le_trans hB BD.size) hd0 (by omega))
        have hHt := holes_at hd
        clear hcell hi BD hc cS y1 y2 hkr hbq
        by_cases hu : S = s
        · have hs := cardsPl_yes (hqy hu) hHt
          have HH1 : Hid (∀ e : CardV, e.xs = d.xs → holes (E ++ [e]) = cardsPl (betQ (holes D) i j ys ys) (holes D) (t + 1)) := fun e he => by
            rw [hs, ← HS.out]
            simp [holes, he]
          have hz : w2.heap.size ≤ wr.heap.size := HB.out.size
          have hEt := HE.out
          clear hqy hqn hs hHt hd
          subst hu
          go_wp2_with fail
          refine HOWN.out.mono ?_
          rintro e w3 ⟨ge, cp, ex, rfl, hge, hb3, hrow⟩
          have HB3 := Lib.hid (below_step HB.out hb3)
          have HR3 := Lib.hid (HR.out.more hb3 (e := ⟨some ⟨ge, 0, none⟩, cp, d.xs⟩) rfl hge (Nat.le_trans HB.out.size hge) hrow)
          have HO3 : Hid (w3.ownsRow w2.heap.size 55 1 (.slice (some ⟨g, 0, none⟩) E.length cap) E.length (E.map CardV.value)) := own_moved HO.out (fun i _ hi => hb3.block i hi)
          have hw3 : w2.heap.size ≤ w3.heap.size := HB3.out.size
          clear hb3 hrow hge
          go_wp2_with (at_builtin; refine wpList_append_own _ rfl _ _ 26 rfl w2.heap.size 55 i0 (.agg #[.slice none 0 0]) 1 24 Tryd.underlying26 hi0 hz0 hz1 hz2 rfl (by decide) _ _ _ rfl (HO3.out.alloc _) ⟨w3.heap.size, 0, none⟩ 1 1 [CardV.value ⟨some ⟨ge, 0, none⟩, cp, d.xs⟩] rfl rfl (card_news w3 _) (card_one _) ?c3 ?c4 ?c5 ?_; rotate_left 3; intro v9 w9 hown hgrow hiff; have hv9 : v9 ≠ .slice none 0 0 := (fun e => by have := (hiff.1 e).1; cases this); obtain ⟨ho, hbb, hrr⟩ := own_card (x := ⟨some ⟨ge, 0, none⟩, cp, d.xs⟩) hown hgrow HO3.out HB3.out (Nat.le_refl _) hw3 HR3.out; obtain ⟨g9, cap9, rfl⟩ := own_shape ho hv9; have HO9 := Lib.hid ho; have HB9 := Lib.hid hbb; have HR9 := Lib.hid hrr; clear hown hgrow hiff hv9 ho hbb hrr)
          case c3 => unfold maxLen; omega
          case c4 => omega
          case c5 => simp; omega
          go_roundw
          case rel => exact ⟨t + 1, cap9, g9, E ++ [(⟨some ⟨ge, 0, none⟩, cp, d.xs⟩ : CardV)], by omega, by go_num, by rw [List.length_append]; rfl, by show _ ≤ _; simp; omega, HH1.out _ rfl, HB9, by rw [List.length_append]; exact HO9, HR9⟩
          case measure => simp [intOf]; omega
        · have hs := cardsPl_no (H := holes D) (hqn hu)
          have HS1 := Lib.hid (HS.out.trans hs.symm)
          have e1 := texts_ne hu
          have hEt := HE.out
          clear hqy hqn hs hHt hd HOWN
          go_wp2
          go_roundw
          case rel => exact ⟨t + 1, cap, g, E, by omega, by go_num, rfl, by show _ ≤ _; omega, HS1.out, HB, HO, HR⟩
          case measure => simp [intOf]; omega
      · have htn : t = n := by omega
        have t1 : ¬ (t : Int) < (n : Int) := by omega
        have hh := HS.out
        rw [htn] at hh
        have HHH := Lib.hid hh
        obtain ⟨A9, c9, e9, hda⟩ := own_deckAt HO.out rfl HR.out (Nat.le_refl _)
        injection e9 with e9 _ _
        subst e9
        have HDA := Lib.hid (hda.widen B2.out.size (Nat.le_refl _) (Nat.le_refl _))
        have BB := Lib.hid (below_step B2.out HB.out)
        have hlen : Hid ((cardsPl (betQ (holes D) i j ys ys) (holes D) n).length = E.length) := by show _ = _; rw [← hh, holes_len]
        clear hh htn hda
        go_wp2
        go_ret2
        exact ⟨_, _, E, by rw [hlen.out]; rfl, HHH.out, BB.out, HDA.out⟩
  · have hX : eqA (holes D) a b s = [] := by
      unfold eqA
      rw [if_neg e]
    rw [hX]
    obtain ⟨k, hk0⟩ : ∃ k, askC (holes D) a b [s] = k := ⟨_, rfl⟩
    rw [hk0] at hk e ⊢
    rw [hN] at hk ⊢
    have e1 : (k != 0) = true := by simpa using e
    have HK := Lib.hid hk
    clear hk h hl hcap b1 hk0 hN hn hX
    go_enter Tryd.func30, Tryd.ntmps30
    go_wp2_with fail
    refine HK.out.mono ?_
    rintro e' w1 (⟨_, rfl, hb⟩ | ⟨h0, _⟩)
    · have B1 := Lib.hid (below_step BW.out hb)
      clear hb HK
      go_wp2
      go_ret2
      exact ⟨none, 0, [], rfl, rfl, B1.out, DeckAt.nil (Nat.le_refl _)⟩
    · exact absurd h0 e
end
end Go.Proofs.YtmdamciheekeoaaDoor

/- spec.FindCards and impl.FindCards tell where the cards with a text are in a sorted deck: contracts. -/
namespace Go.Proofs.YtmdamciheekeoaaDoor
open Go.ChangeShapes Go.WideShapes Go.ChangeAt Go.RowKit

/-- how many places below n there are for which q holds -/
def countB (q : Nat → Bool) : Nat → Nat
  | 0 => 0
  | n + 1 => if q n = true then countB q n + 1 else countB q n
theorem countB_yes {q : Nat → Bool} {n : Nat} (h : q n = true) : countB q (n + 1) = countB q n + 1 := if_pos h
theorem countB_no {q : Nat → Bool} {n : Nat} (h : q n = false) : countB q (n + 1) = countB q n := if_neg (by simp [h])
theorem countB_le (q : Nat → Bool) : ∀ n, countB q n ≤ n
  | 0 => Nat.le_refl _
  | n + 1 => by
    have := countB_le q n
    unfold countB
    split <;> omega
def cmpX (H : List (List Int)) (i j : Nat) (x : List Int) (k : Nat) : Int := cmpTo (partOf (H[k]?.getD []) i j) x (j - i)
def lessX (H : List (List Int)) (i j : Nat) (x : List Int) (k : Nat) : Bool := decide (cmpX H i j x k < 0)
def sameX (H : List (List Int)) (i j : Nat) (x : List Int) (k : Nat) : Bool := decide (cmpX H i j x k = 0)
def findC (H : List (List Int)) (a b : Int) (s : ByteArray) : Int := if askC H a b [s] ≠ 0 then askC H a b [s] else if 0 ≤ stepV H a.toNat b.toNat then 6 else 0
def findL (H : List (List Int)) (a b : Int) (s : ByteArray) : Int := if findC H a b s = 0 then (countB (lessX H a.toNat b.toNat (textCodes s)) H.length : Nat) else 0
def findN (H : List (List Int)) (a b : Int) (s : ByteArray) : Int := if findC H a b s = 0 then (countB (sameX H a.toNat b.toNat (textCodes s)) H.length : Nat) else 0
theorem cmpX_at {D : List CardV} {i j k : Nat} {d : CardV} (hd : D[k]? = some d) (x : List Int) : cmpX (holes D) i j x k = cmpTo (partOf d.xs i j) x (j - i) := by
  unfold cmpX
  rw [holes_at hd]
  rfl
/-- one card's share in both counts -/
theorem count_step {H : List (List Int)} {i j k : Nat} {x : List Int} {v : Int} (hv : cmpX H i j x k = v) :
    countB (lessX H i j x) (k + 1) = (if v < 0 then countB (lessX H i j x) k + 1 else countB (lessX H i j x) k) ∧ countB (sameX H i j x) (k + 1) = (if v = 0 then countB (sameX H i j x) k + 1 else countB (sameX H i j x) k) := by
  constructor
  · by_cases h : v < 0
    · rw [if_pos h]; exact countB_yes (by unfold lessX; rw [hv]; exact decide_eq_true h)
    · rw [if_neg h]; exact countB_no (by unfold lessX; rw [hv]; exact decide_eq_false h)
  · by_cases h : v = 0
    · rw [if_pos h]; exact countB_yes (by unfold sameX; rw [hv]; exact decide_eq_true h)
    · rw [if_neg h]; exact countB_no (by unfold sameX; rw [hv]; exact decide_eq_false h)
theorem find_facts {H : List (List Int)} {a b : Int} {s : ByteArray} (h : askC H a b [s] = 0) : ∃ i j : Nat, a = i ∧ b = j ∧ i < j ∧ j ≤ widthH H ∧ deckB H = true ∧ keysB H i j = true ∧ j ≤ 20 ∧
    (s.size = j - i ∧ legalT s = true ∧ (textCodes s).length = j - i ∧ textOk (textCodes s) = true ∧ textS (textCodes s) = s) ∧
    (stepV H i j < 0 → findC H a b s = 0 ∧ findL H a b s = (countB (lessX H i j (textCodes s)) H.length : Nat) ∧ findN H a b s = (countB (sameX H i j (textCodes s)) H.length : Nat)) ∧
    (0 ≤ stepV H i j → findC H a b s = 6 ∧ findL H a b s = 0 ∧ findN H a b s = 0) := by
  obtain ⟨i, j, rfl, rfl, hij, hj, h20, hv, hkb, _, hS, _⟩ := betA_facts (s := s) (t := s) (by rw [ask_two]; exact h)
  refine ⟨i, j, rfl, rfl, hij, hj, hv, hkb, h20, hS, fun h0 => ?_, fun h0 => ?_⟩
  · have e : findC H i j s = 0 := by
      unfold findC
      rw [if_neg (by simp [h]), Int.toNat_natCast, Int.toNat_natCast, if_neg (by omega)]
    refine ⟨e, ?_, ?_⟩
    · unfold findL
      rw [if_pos e, Int.toNat_natCast, Int.toNat_natCast]
    · unfold findN
      rw [if_pos e, Int.toNat_natCast, Int.toNat_natCast]
  · have e : findC H i j s = 6 := by
      unfold findC
      rw [if_neg (by simp [h]), Int.toNat_natCast, Int.toNat_natCast, if_pos h0]
    refine ⟨e, ?_, ?_⟩
    · unfold findL
      rw [if_neg (by rw [e]; decide)]
    · unfold findN
      rw [if_neg (by rw [e]; decide)]
theorem find_no {H : List (List Int)} {a b : Int} {s : ByteArray} (h : askC H a b [s] ≠ 0) : findC H a b s = askC H a b [s] ∧ findL H a b s = 0 ∧ findN H a b s = 0 := by
  have e : findC H a b s = askC H a b [s] := by unfold findC; rw [if_pos h]
  refine ⟨e, ?_, ?_⟩
  · unfold findL; rw [if_neg (by rw [e]; exact h)]
  · unfold findN; rw [if_neg (by rw [e]; exact h)]

section
variable (A : Option Addr) (c : Nat) (D : List CardV) (B : Nat) (a b : Int) (w : World) (h : Deck w B A D) (hB : B ≤ w.heap.size) (hn : D.length ≤ 1048576) (hl : ∀ d ∈ D, d.xs.length ≤ 1048576)
include h hB hn hl
set_option maxRecDepth 100000 in
set_option maxHeartbeats 4000000 in
theorem specFind_any (hcap : CapsOk D) (s : ByteArray) (hs : s.size ≤ 1048576) :
    Calls Tryd.prog 44 #[.slice A D.length c, .agg #[.int .i64 a, .int .i64 b], .string s] w fun e w' => e = .returned (.tuple #[.int .i64 (findL (holes D) a b s), .int .i64 (findN (holes D) a b s), .int .i64 (findC (holes D) a b s)]) ∧ Below w.heap.size w w' := by
  have b1 : Below w.heap.size w ((w.alloc (.cells #[.int .i64 a, .int .i64 b] 30)).alloc (.cells #[.string s] 9)) := (below_box w _).alloc (by simp) _
  have hk := l09Ask_any A c D B a b ((w.alloc (.cells #[.int .i64 a, .int .i64 b] 30)).alloc (.cells #[.string s] 9)) (h.below (b1.mono hB)) (Nat.le_trans hB b1.size) hn hl hcap [s] (w.heap.size + 1) 1 (fun k x hx => by
    match k, hx with
    | 0, hx => obtain rfl : s = x := by simpa using hx
               simp [go_sem]
    | k + 1, hx => simp at hx) (by simp) (by simp) (fun x hx => by
      obtain rfl : x = s := by simpa using hx
      exact hs)
  have BW := Lib.hid b1
  obtain ⟨n, hN⟩ : ∃ n, D.length = n := ⟨_, rfl⟩
  by_cases e : askC (holes D) a b [s] = 0
  · obtain ⟨i, j, rfl, rfl, hij, hj, hv, hkb, h20, hS, hgood, hbad⟩ := find_facts e
    have hn40 : n ≤ 40 := by
      have := deck_len hv
      simp [holes, hN] at this
      exact this
    rw [e] at hk
    rw [Int.toNat_natCast, Int.toNat_natCast] at hk
    unfold GivesKeys at hk
    rw [holes_len, hN] at hgood
    rw [hN] at hk ⊢
    have h1 := fun kg (w : World) (hr : KeyRow w kg D i j) p (hp : p < n) => keyText_any hr hv hkb hj hN hp hS
    have hstep := fun A c W hr => l07Step_any A c D i j W hr hv hkb hij hj
    simp only [hN] at hstep
    obtain ⟨ys, hys⟩ : ∃ ys, textCodes s = ys := ⟨_, rfl⟩
    simp only [hys] at h1
    rw [hys] at hgood
    obtain ⟨sv, hsv⟩ : ∃ sv, stepV (holes D) i j = sv := ⟨_, rfl⟩
    rw [hsv] at hgood hbad
    simp only [hsv] at hstep
    obtain ⟨rl, hrl⟩ : ∃ r, findL (holes D) i j s = r := ⟨_, rfl⟩
    obtain ⟨rn, hrn⟩ : ∃ r, findN (holes D) i j s = r := ⟨_, rfl⟩
    obtain ⟨rc, hrc⟩ : ∃ r, findC (holes D) i j s = r := ⟨_, rfl⟩
    rw [hrl, hrn, hrc] at hgood hbad
    rw [hrl, hrn, hrc]
    have HG := Lib.hid hgood
    have HBD := Lib.hid hbad
    have HK := Lib.hid hk
    have H1 := Lib.hid h1
    have HST := Lib.hid hstep
    clear hk h1 h hl hcap b1 e hv hkb hj hij hN hS hys hgood hbad hstep hrl hrn hrc hsv
    go_enter Tryd.func44, Tryd.ntmps44
    go_wp2_with fail
    refine HK.out.mono ?_
    rintro e w2 (⟨h0, _⟩ | ⟨_, A', cap, rfl, hb, hrow⟩)
    · exact absurd rfl h0
    have B2 := Lib.hid (below_step BW.out hb)
    have HRW := Lib.hid hrow
    clear hb hrow HK
    go_wp2_with fail
    refine (HST.out _ _ _ HRW.out).mono ?_
    rintro e w3 ⟨rfl, hb⟩
    have B3 := Lib.hid (below_step B2.out hb)
    have L3 := Lib.hid hb
    clear hb HST
    by_cases hneg : 0 ≤ sv
    · obtain ⟨q1, q2, q3⟩ := HBD.out hneg
      subst q1 q2 q3
      go_wp2
      go_ret3
      exact ⟨rfl, B3.out⟩
    · obtain ⟨q1, q2, q3⟩ := HG.out (by omega)
      have Q2 := Lib.hid q2
      have Q3 := Lib.hid q3
      subst q1
      clear q2 q3 HG HBD
      go_wp2
      go_loopw [11, 12, 13] (fun va vn vi wr => ∃ t : Nat, t ≤ n ∧ vi = .int .i64 t ∧ va = .int .i64 ((countB (lessX (holes D) i j ys) t : Nat) : Int) ∧ vn = .int .i64 ((countB (sameX (holes D) i j ys) t : Nat) : Int) ∧ wr = w3) (fun _ _ vi _ => n - (intOf vi).toNat)
      case atStart => exact ⟨0, Nat.zero_le _, rfl, rfl, rfl, rfl⟩
      case round =>
        obtain ⟨t, ht, rfl, rfl, rfl, rfl⟩ := hrel
        by_cases hlt : t < n
        · obtain ⟨kg, rfl, hg, hkr⟩ := HRW.out (by omega)
          obtain ⟨d, S, hd, cS, eS, hc1⟩ := H1.out kg w2 hkr t hlt
          have c1 := cell_kept cS L3.out
          have hcx := cmpX_at (i := i) (j := j) hd ys
          obtain ⟨v, hv⟩ : ∃ v, cmpTo (partOf d.xs i j) ys (j - i) = v := ⟨_, rfl⟩
          rw [hv] at hcx
          simp only [hv] at hc1
          obtain ⟨hl1, hs1⟩ := count_step hcx
          obtain ⟨x, hx⟩ : ∃ x, countB (lessX (holes D) i j ys) t = x := ⟨_, rfl⟩
          obtain ⟨y, hy⟩ : ∃ y, countB (sameX (holes D) i j ys) t = y := ⟨_, rfl⟩
          have hx40 := countB_le (lessX (holes D) i j ys) t
          have hy40 := countB_le (sameX (holes D) i j ys) t
          rw [hx] at hl1 hx40
          rw [hy] at hs1 hy40
          rw [hx, hy]
          have C1 := Lib.hid hc1
          have t0 : (0 : Int) ≤ (t : Int) := Int.natCast_nonneg _
          have t1 : (t : Int) < (n : Int) := by omega
          clear hc1 hv cS eS hkr hd hcx hx hy
          rcases Int.lt_trichotomy v 0 with hv0 | hv0 | hv0
          · rw [if_pos hv0] at hl1
            rw [if_neg (by omega)] at hs1
            have HL1 := Lib.hid hl1
            have HS1 := Lib.hid hs1
            have e1 : (v == 0) = false := by simp; omega
            clear hl1 hs1
            go_wp2_with fail
            refine (C1.out _).mono ?_
            rintro e w' ⟨rfl, rfl⟩
            go_wp2
            go_roundw
            case rel => exact ⟨t + 1, by omega, by go_num, by rw [HL1.out]; go_num, by rw [HS1.out], by first | rfl | trivial⟩
            case measure => simp [intOf]; omega
          · subst hv0
            rw [if_neg (by omega)] at hl1
            rw [if_pos rfl] at hs1
            have HL1 := Lib.hid hl1
            have HS1 := Lib.hid hs1
            clear hl1 hs1
            go_wp2_with fail
            refine (C1.out _).mono ?_
            rintro e w' ⟨rfl, rfl⟩
            go_wp2
            go_roundw
            case rel => exact ⟨t + 1, by omega, by go_num, by rw [HL1.out], by rw [HS1.out]; go_num, by first | rfl | trivial⟩
            case measure => simp [intOf]; omega
          · rw [if_neg (by omega)] at hl1
            rw [if_neg (by omega)] at hs1
            have HL1 := Lib.hid hl1
            have HS1 := Lib.hid hs1
            have e1 : (v == 0) = false := by simp; omega
            have e2 : ¬ v < 0 := by omega
            clear hl1 hs1
            go_wp2_with fail
            refine (C1.out _).mono ?_
            rintro e w' ⟨rfl, rfl⟩
            go_wp2
            go_roundw
            case rel => exact ⟨t + 1, by omega, by go_num, by rw [HL1.out], by rw [HS1.out], by first | rfl | trivial⟩
            case measure => simp [intOf]; omega
        · obtain rfl : t = n := by omega
          have t1 : ¬ (t : Int) < (t : Int) := by omega
          have e2 := Q2.out
          have e3 := Q3.out
          subst e2 e3
          clear Q2 Q3
          go_wp2
          go_ret3
          exact ⟨rfl, B3.out⟩
  · obtain ⟨q1, q2, q3⟩ := find_no e
    rw [q1, q2, q3]
    obtain ⟨k, hk0⟩ : ∃ k, askC (holes D) a b [s] = k := ⟨_, rfl⟩
    rw [hk0] at hk e ⊢
    rw [hN] at hk ⊢
    have e1 : (k != 0) = true := by simpa using e
    have HK := Lib.hid hk
    clear hk h hl hcap b1 hk0 hN hn q1 q2 q3
    go_enter Tryd.func44, Tryd.ntmps44
    go_wp2_with fail
    refine HK.out.mono ?_
    rintro e' w1 (⟨_, rfl, hb⟩ | ⟨h0, _⟩)
    · have B1 := Lib.hid (below_step BW.out hb)
      clear hb HK
      go_wp2
      go_ret3
      exact ⟨rfl, B1.out⟩
    · exact absurd h0 e

set_option maxRecDepth 100000 in
set_option maxHeartbeats 4000000 in
theorem implFind_any (hcap : CapsOk D) (hP : Places w) (s : ByteArray) (hs : s.size ≤ 1048576) :
    Calls Tryd.prog 45 #[.slice A D.length c, .agg #[.int .i64 a, .int .i64 b], .string s] w fun e w' => e = .returned (.tuple #[.int .i64 (findL (holes D) a b s), .int .i64 (findN (holes D) a b s), .int .i64 (findC (holes D) a b s)]) ∧ Below w.heap.size w w' := by
  have b0 := below_box w (.cells #[.int .i64 a, .int .i64 b] 30)
  have hk := entriesU_any A c D B a b (w.alloc (.cells #[.int .i64 a, .int .i64 b] 30)) (h.below (b0.mono hB)) (by simp; omega) hn hl hcap (hP.below b0)
  have p0 : (w.alloc (.cells #[.int .i64 a, .int .i64 b] 30)).cell? ⟨w.heap.size, 0, none⟩ = some (.int .i64 a) := by simp
  have p1 : (w.alloc (.cells #[.int .i64 a, .int .i64 b] 30)).cell? ⟨w.heap.size, 1, none⟩ = some (.int .i64 b) := by simp
  have hks := fun W (hW : Below w.heap.size w W) => keyTextU_any s hs a b W (hP.below hW)
  have hfacts := fun (h0 : askC (holes D) a b [s] = 0) => And.intro (find_facts h0) (ask_zero h0)
  have hnil := fun (h0 : askC (holes D) a b [s] ≠ 0) => find_no h0
  have hfe : askC (holes D) a b [s] = firstC [keysC (holes D) a b, textC s (IntKind.i64.wrap (b - a))] := rfl
  obtain ⟨k, hk0⟩ : ∃ k, keysC (holes D) a b = k := ⟨_, rfl⟩
  obtain ⟨cs, hcs⟩ : ∃ x, textC s (IntKind.i64.wrap (b - a)) = x := ⟨_, rfl⟩
  obtain ⟨r, hr⟩ : ∃ r, askC (holes D) a b [s] = r := ⟨_, rfl⟩
  rw [hr, hk0, hcs] at hfe
  simp only [hcs] at hks
  simp only [hr, hk0] at hfacts hnil
  have hzs : (r = 0 → cs = 0) := fun h0 => by
    obtain ⟨_, _, h3⟩ := hfacts h0
    rw [← hcs]
    exact h3 s (by simp)
  rw [hk0] at hk
  obtain ⟨n, hN⟩ : ∃ n, D.length = n := ⟨_, rfl⟩
  rw [hN] at hk ⊢
  simp only [holes_len, hN] at hfacts
  obtain ⟨rl, hrl⟩ : ∃ r, findL (holes D) a b s = r := ⟨_, rfl⟩
  obtain ⟨rn, hrn⟩ : ∃ r, findN (holes D) a b s = r := ⟨_, rfl⟩
  obtain ⟨rc, hrc⟩ : ∃ r, findC (holes D) a b s = r := ⟨_, rfl⟩
  rw [hrl, hrn, hrc] at hfacts hnil ⊢
  have HK := Lib.hid hk
  have HKS := Lib.hid hks
  have HF := Lib.hid hfacts
  have HNIL := Lib.hid hnil
  have HZS := Lib.hid hzs
  have HFE := Lib.hid hfe
  have BW := Lib.hid b0
  have HN := Lib.hid hN
  clear hk hks hfacts hnil hfe hzs hr hcs hk0 b0 h hl hcap hP hN hrl hrn hrc
  go_enter Tryd.func45, Tryd.ntmps45
  go_wp2_with fail
  refine HK.out.mono ?_
  rintro e w1 ⟨A1, n1, c1, rfl, hb1, h1⟩
  have B1 := Lib.hid (below_step BW.out hb1)
  have q0 := cell_kept p0 hb1
  have q1 := cell_kept p1 hb1
  have H1 := Lib.hid h1
  clear hb1 h1 p0 p1 HK
  go_wp2_with fail
  refine (HKS.out w1 B1.out).mono ?_
  rintro e w2 ⟨A2, n2, c2, rfl, hb2, h2⟩
  have L2 := Lib.hid hb2
  have B2 := Lib.hid (below_step B1.out L2.out)
  have H2 := Lib.hid h2
  clear hb2 h2 q0 q1
  have hfe := firstError_any (some ⟨w2.heap.size, 0, none⟩) 2 [k, cs] (w2.heap.size + 1) (w2.alloc (.cells #[.int .i64 k, .int .i64 cs] 2)) (fun _ => ⟨w2.heap.size, 0, rfl, by omega, fun x hx => by
    match x, hx with
    | 0, _ => simp [go_sem]
    | 1, _ => simp [go_sem]
    | x + 2, hx => exact absurd (show x + 2 < 2 from hx) (by omega)⟩) (by simp) (by simp)
  rw [← HFE.out] at hfe
  have HFC := Lib.hid hfe
  have B4 := Lib.hid (below_box w2 (.cells #[.int .i64 k, .int .i64 cs] 2))
  clear hfe
  go_wp2_with fail
  refine HFC.out.mono ?_
  rintro e w5 ⟨rfl, hb5⟩
  have L5 := Lib.hid (below_step B4.out hb5)
  have B5 := Lib.hid (below_step B2.out L5.out)
  clear hb5 HFC B4
  by_cases hr0 : r = 0
  · obtain ⟨⟨i, j, rfl, rfl, hij, hj, hv, hkb, h20, hS, hgood, hbad⟩, hk0, _⟩ := HF.out hr0
    obtain ⟨g, E, K, rfl, rfl, rfl, hCE, hEO, hEn⟩ := H1.out hk0
    obtain ⟨g2, rfl, rfl, rfl, hr2⟩ := H2.out (HZS.out hr0)
    rw [Int.toNat_natCast, Int.toNat_natCast] at hEO
    have hEn5 := hEn.later (below_step L2.out L5.out)
    have row2 := hr2.later L5.out
    have hio := inOrder_any hEO hEn5
    obtain ⟨sv, hsv⟩ : ∃ sv, stepV (holes D) i j = sv := ⟨_, rfl⟩
    rw [hsv] at hgood hbad hio
    obtain ⟨ys, hys⟩ : ∃ ys, textCodes s = ys := ⟨_, rfl⟩
    rw [hys] at hgood row2 hS
    have HIO := Lib.hid hio
    have HG := Lib.hid hgood
    have HBD := Lib.hid hbad
    have HEO := Lib.hid hEO
    have HEN := Lib.hid hEn5
    have HRW := Lib.hid row2
    have HS := Lib.hid hS
    have hn40 := hEO.n40
    subst hr0
    have hsz : s.size = j - i := hS.1
    obtain ⟨m, hm⟩ : ∃ m, j - i = m := ⟨_, rfl⟩
    rw [hsz, hm]
    have HM := Lib.hid hm
    clear hio hgood hbad hEO hEn hEn5 row2 hr2 hCE hv hkb H1 H2 HF HNIL HZS hsv hys hS hsz hm
    go_wp2_with fail
    refine HIO.out.mono ?_
    rintro e w6 ⟨rfl, hb6⟩
    have L6 := Lib.hid hb6
    have B6 := Lib.hid (below_step B5.out hb6)
    clear hb6 HIO
    by_cases hneg : 0 ≤ sv
    · obtain ⟨q1, q2, q3⟩ := HBD.out hneg
      subst q1 q2 q3
      have e1 : decide (sv < 0) = false := decide_eq_false (by omega)
      go_wp2
      go_ret3
      exact ⟨rfl, B6.out⟩
    · have e1 : sv < 0 := by omega
      obtain ⟨q1, q2, q3⟩ := HG.out e1
      have Q2 := Lib.hid q2
      have Q3 := Lib.hid q3
      subst q1
      clear q2 q3 HG HBD
      go_wp2
      go_loopw [14, 15, 43] (fun va vn vi wr => ∃ t : Nat, t ≤ n ∧ vi = .int .i64 t ∧ va = .int .i64 ((countB (lessX (holes D) i j ys) t : Nat) : Int) ∧ vn = .int .i64 ((countB (sameX (holes D) i j ys) t : Nat) : Int) ∧ Hid (Below w6.heap.size w6 wr)) (fun _ _ vi _ => n - (intOf vi).toNat)
      case atStart => exact ⟨0, Nat.zero_le _, rfl, rfl, rfl, Below.refl _ _⟩
      case round =>
        obtain ⟨t, ht, rfl, rfl, rfl, HB⟩ := hrel
        by_cases hlt : t < n
        · have LW := below_step L6.out HB.out
          have hE := HEN.out.later LW
          obtain ⟨d, e, p, hd, he, hp, x1, x2, x3, x4, x5, x6, x7⟩ := HEO.out.at_ hlt
          have c1 := hE.card (by rw [HEO.out.lenE, HEO.out.lenK]; omega) he
          have c2 := hE.key (by rw [HEO.out.lenE]; exact hlt) hp
          have hpl : p.xs.length = m := by rw [x2, List.length_map, x3, HM.out]
          unfold CardV.value at c1 c2
          rw [hpl] at c2
          obtain ⟨gp, exp, e1, rp⟩ := hE.keys p (List.mem_of_getElem? hp)
          rw [e1] at c2
          have bx := below_box wr (.cells #[.slice e.at_ e.xs.length e.cap, .slice (some ⟨gp, 0, none⟩) m p.cap] 74)
          have i1 := (rp.later bx).ints
          rw [x2] at i1
          have i2 := (HRW.out.later (LW.trans (bx.mono LW.size))).ints
          have hc := slicesCompare_any (some ⟨gp, 0, none⟩) (some ⟨g2, 0, none⟩) p.cap m (partOf d.xs i j) ys m (gp + 1) (g2 + 1) _ i1 i2 (by rw [x3, HM.out]) (by rw [HS.out.2.2.1, HM.out]) (by have := HM.out; omega)
          have hcx := cmpX_at (i := i) (j := j) hd ys
          rw [HM.out] at hcx
          obtain ⟨v, hv⟩ : ∃ v, cmpTo (partOf d.xs i j) ys m = v := ⟨_, rfl⟩
          rw [hv] at hcx hc
          obtain ⟨hl1, hs1⟩ := count_step hcx
          obtain ⟨x, hx⟩ : ∃ x, countB (lessX (holes D) i j ys) t = x := ⟨_, rfl⟩
          obtain ⟨y, hy⟩ : ∃ y, countB (sameX (holes D) i j ys) t = y := ⟨_, rfl⟩
          have hx40 := countB_le (lessX (holes D) i j ys) t
          have hy40 := countB_le (sameX (holes D) i j ys) t
          rw [hx] at hl1 hx40
          rw [hy] at hs1 hy40
          rw [hx, hy]
          have C1 := Lib.hid hc
          have HBX := Lib.hid (below_step HB.out bx)
          have t0 : (0 : Int) ≤ (t : Int) := Int.natCast_nonneg _
          have t1 : (t : Int) < (n : Int) := by omega
          obtain ⟨le, hle⟩ : ∃ l, e.xs.length = l := ⟨_, rfl⟩
          rw [hle] at c1 C1 HBX
          clear hE LW hc hv hd he hp x1 x2 x3 x4 x5 x6 x7 hpl e1 rp bx i1 i2 hcx hx hy hle
          rcases Int.lt_trichotomy v 0 with hv0 | hv0 | hv0
          · rw [if_pos hv0] at hl1
            rw [if_neg (by omega)] at hs1
            have HL1 := Lib.hid hl1
            have HS1 := Lib.hid hs1
            clear hl1 hs1
            go_wp2_with fail
            refine C1.out.mono ?_
            rintro e w' ⟨rfl, rfl⟩
            go_wp2
            go_roundw
            case rel => exact ⟨t + 1, by omega, by go_num, by rw [HL1.out]; go_num, by rw [HS1.out], HBX⟩
            case measure => simp [intOf]; omega
          · subst hv0
            rw [if_neg (by omega)] at hl1
            rw [if_pos rfl] at hs1
            have HL1 := Lib.hid hl1
            have HS1 := Lib.hid hs1
            clear hl1 hs1
            go_wp2_with fail
            refine C1.out.mono ?_
            rintro e w' ⟨rfl, rfl⟩
            go_wp2
            go_roundw
            case rel => exact ⟨t + 1, by omega, by go_num, by rw [HL1.out], by rw [HS1.out]; go_num, HBX⟩
            case measure => simp [intOf]; omega
          · rw [if_neg (by omega)] at hl1
            rw [if_neg (by omega)] at hs1
            have HL1 := Lib.hid hl1
            have HS1 := Lib.hid hs1
            have e1 : (v == 0) = false := by simp; omega
            have e2 : ¬ v < 0 := by omega
            clear hl1 hs1
            go_wp2_with fail
            refine C1.out.mono ?_
            rintro e w' ⟨rfl, rfl⟩
            go_wp2
            go_roundw
            case rel => exact ⟨t + 1, by omega, by go_num, by rw [HL1.out], by rw [HS1.out], HBX⟩
            case measure => simp [intOf]; omega
        · obtain rfl : t = n := by omega
          have t1 : ¬ (t : Int) < (t : Int) := by omega
          have e2 := Q2.out
          have e3 := Q3.out
          subst e2 e3
          have BB := Lib.hid (below_step B6.out HB.out)
          clear Q2 Q3
          go_wp2
          go_ret3
          exact ⟨rfl, BB.out⟩
  · have hr1 : (r != 0) = true := by simpa using hr0
    obtain ⟨q1, q2, q3⟩ := HNIL.out hr0
    subst q1 q2 q3
    go_wp2
    go_ret3
    exact ⟨rfl, B5.out⟩
end
end Go.Proofs.YtmdamciheekeoaaDoor
