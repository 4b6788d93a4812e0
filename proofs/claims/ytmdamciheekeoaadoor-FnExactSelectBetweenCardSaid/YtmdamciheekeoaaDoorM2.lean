/- spec.l07Places sorts the places of the cards by their texts: what its comparison and its copies answer: contracts. -/
import Derived.Test.YtmdamciheekeoaaDoorOrderMath
import Derived.Test.YtmdamciheekeoaaDoorSortStep
import Derived.Test.YtmdamciheekeoaaDoorOwn
import Derived.Test.YtmdamciheekeoaaDoorMarks
import Derived.Test.YtmdamciheekeoaaDoorWithin
import Derived.Deep.QuietTactic
import Derived.BigQuiet
import Derived.Test.YtmdamciheekeoaaDoorColMath
import Derived.Test.YtmdamciheekeoaaDoorGrow
namespace Go.Proofs.YtmdamciheekeoaaDoor
open Go.ChangeShapes Go.WideShapes Go.ChangeAt Go.RowKit

theorem keyCmp_any {D : List CardV} {i j n kg : Nat} {w : World} (hrow : KeyRow w kg D i j) (hv : deckB (holes D) = true) (hkb : keysB (holes D) i j = true) (hj : j ≤ widthH (holes D)) (hN : D.length = n) {p q : Nat} (hp : p < n) (hq : q < n) :
    ∃ S1 S2, w.cell? ⟨kg, p, none⟩ = some (.string S1) ∧ w.cell? ⟨kg, q, none⟩ = some (.string S2) ∧ ∀ W, Calls Tryd.prog 57 #[.string S1, .string S2] W fun e w' => e = .returned (.int .i64 (cfK (holes D) i j p q)) ∧ w' = W := by
  obtain ⟨d, hd⟩ : ∃ d, D[p]? = some d := ⟨D[p]'(by omega), List.getElem?_eq_getElem _⟩
  obtain ⟨e, he⟩ : ∃ e, D[q]? = some e := ⟨D[q]'(by omega), List.getElem?_eq_getElem _⟩
  obtain ⟨g1, g2⟩ := deck_width hv (holes_at hd)
  obtain ⟨g3, g4⟩ := deck_width hv (holes_at he)
  have o1 := keysB_at (holes_at hd) hkb
  have o2 := keysB_at (holes_at he) hkb
  have l1 := partOf_length d.xs i j (by rw [g2]; exact hj)
  have l2 := partOf_length e.xs i j (by rw [g4]; exact hj)
  have z1 : (textS (partOf d.xs i j)).size = j - i := by rw [← l1]; exact textL_length _
  have z2 : (textS (partOf e.xs i j)).size = j - i := by rw [← l2]; exact textL_length _
  have h20 := (okB_parts g1).2
  have hck : cfK (holes D) i j p q = cmpTo (partOf d.xs i j) (partOf e.xs i j) (j - i) := by
    unfold cfK
    rw [Int.toNat_natCast, Int.toNat_natCast]
    exact cmpK_at hd he
  refine ⟨_, _, hrow p d hd, hrow q e he, fun W => ?_⟩
  rw [hck]
  exact (l03Compare_any (textS (partOf d.xs i j)) (textS (partOf e.xs i j)) (partOf d.xs i j) (partOf e.xs i j) (j - i) z1 z2 l1 l2 (fun k h => textS_get _ k h) (fun k h => textS_get _ k h) o1 o2 (by omega) W).mono fun _ _ hh => ⟨hh.1, hh.2.symm⟩

theorem own_rowS {w : World} {base n g cap : Nat} {xs : List Int} (h : w.ownsRow base 2 1 (.slice (some ⟨g, 0, none⟩) n cap) n (xs.map (Value.int .i64))) : base ≤ g ∧ n ≤ cap ∧ cap ≤ maxLen ∧ ∃ ex, Row w g xs ex := by
  rcases h.2 with ⟨h0, _⟩ | ⟨g', cap', cur, hv, hb, hh, hc, hm, _, ht⟩
  · cases h0
  · injection hv with e1 e2 e3
    injection e1 with e1
    injection e1 with e1
    subst e1
    subst e3
    refine ⟨hb, hc, hm, cur.toList.drop n, ?_⟩
    unfold Row
    rw [hh]
    congr 2
    apply Array.ext'
    rw [← List.take_append_drop n cur.toList, ← ht, Nat.mul_one]
    simp
theorem own_shape {w : World} {base n size : Nat} {et : TypeId} {v : Value} {xs : List Value} (h : w.ownsRow base et size v n xs) (hne : v ≠ .slice none 0 0) : ∃ g cap, v = .slice (some ⟨g, 0, none⟩) n cap := by
  rcases h.2 with ⟨hz, _⟩ | ⟨g, cap, cur, rfl, _⟩
  · exact absurd hz hne
  · exact ⟨g, cap, rfl⟩
theorem own_lower {w : World} {base base' n size : Nat} {et : TypeId} {v : Value} {xs : List Value} (h : w.ownsRow base et size v n xs) (hb : base' ≤ base) : w.ownsRow base' et size v n xs := by
  refine ⟨h.1, ?_⟩
  rcases h.2 with h0 | ⟨g, cap, cur, h1, h2, h3⟩
  · exact Or.inl h0
  · exact Or.inr ⟨g, cap, cur, h1, Nat.le_trans hb h2, h3⟩

/-- the copy of any part of a list, an empty one too -/
theorem ownInts_any (b off c : Nat) (xs : List Int) (w : World) (hb : b < w.heap.size) (hcell : ∀ i, i < xs.length → w.cell? ⟨b, off + i, none⟩ = some (.int .i64 (xs[i]?.getD 0))) (hn : xs.length ≤ 1048576) :
    Calls Tryd.prog 86 #[.slice (some ⟨b, off, none⟩) xs.length c] w fun e w' => ∃ v, e = .returned v ∧ v ≠ .slice none 0 0 ∧ w'.ownsRow w.heap.size 2 1 v xs.length (xs.map (Value.int .i64)) ∧ Below w.heap.size w w' := by
  obtain ⟨i0, hi0, hz0, hz1, hz2⟩ := info_parts info_int64
  have HN := Lib.hid (news_of (fun i hi => (World.cell?_alloc_lt w (.cells #[] 2) ⟨b, off + i, none⟩ hb).trans (hcell i hi)))
  have HM := Lib.hid (maps_length xs)
  have H1 := Lib.hid (maps_one xs)
  have HO := Lib.hid (empty_owned w)
  clear hcell
  go_enter Tryd.func86, Tryd.ntmps86
  go_wp2_with (at_builtin; refine wpList_append_own _ rfl (.tmp 3) (.tmp 4) 40 rfl w.heap.size 2 i0 (.int .i64 0) 1 8 Tryd.underlying40 hi0 hz0 hz1 hz2 rfl (by decide) (.slice (some ⟨w.heap.size, 0, none⟩) 0 0) 0 [] rfl HO.out ⟨b, off, none⟩ xs.length c (xs.map (Value.int .i64)) rfl HM.out HN.out H1.out ?c3 ?c4 ?c5 ?_; rotate_left 3; intro v1 w1 hown hgrow hiff; simp only [Nat.zero_add, List.nil_append] at hown; have B1 := Lib.hid (Below.grown (below_box w _) hgrow (by simp) (fun k hk => by simp [Value.ownBlock] at hk; omega)); have HW := Lib.hid hown; have HI : Hid (v1 ≠ .slice none 0 0) := (fun e => by have := (hiff.1 e).1; cases this); clear hown hgrow hiff)
  case c3 => unfold maxLen; omega
  case c4 => omega
  case c5 => simp
  go_ret
  exact ⟨v1, rfl, HI.out, HW.out, B1.out⟩
end Go.Proofs.YtmdamciheekeoaaDoor

/- Lists of numbers in memory of their own, as the laws about answered numbers want them. -/
namespace Go.Proofs.YtmdamciheekeoaaDoor
open Go.ChangeShapes Go.WideShapes Go.ChangeAt Go.RowKit

/-- A list of numbers whose memory is a block from lo up to hi. -/
structure IAt (w : World) (lo hi : Nat) (A : Option Addr) (L : List Int) : Prop where
  top : 0 < L.length → ∃ g ex, A = some ⟨g, 0, none⟩ ∧ lo ≤ g ∧ g < hi ∧ Row w g L ex
  room : hi ≤ w.heap.size
section
variable {w w' : World} {lo hi lo' hi' : Nat} {A : Option Addr} {L : List Int}
theorem IAt.nil (h : hi ≤ w.heap.size) : IAt w lo hi A [] := ⟨fun h => absurd h (by simp), h⟩
theorem IAt.later (h : IAt w lo hi A L) (hb : Below w.heap.size w w') : IAt w' lo hi A L :=
  ⟨fun h0 => by obtain ⟨g, ex, e, h1, h2, h3⟩ := h.top h0; exact ⟨g, ex, e, h1, h2, h3.later hb⟩, Nat.le_trans h.room hb.size⟩
theorem IAt.within (h : IAt w lo hi A L) (k : Within lo' hi' w w') (hd : hi ≤ lo' ∨ hi' ≤ lo) : IAt w' lo hi A L :=
  ⟨fun h0 => by obtain ⟨g, ex, e, h1, h2, h3⟩ := h.top h0; exact ⟨g, ex, e, h1, h2, k.row h3 (by omega)⟩, Nat.le_trans h.room k.size⟩
theorem IAt.wide (h : IAt w lo hi A L) (h1 : lo' ≤ lo) (h2 : hi ≤ hi') (h3 : hi' ≤ w.heap.size) : IAt w lo' hi' A L :=
  ⟨fun h0 => by obtain ⟨g, ex, e, g1, g2, g3⟩ := h.top h0; exact ⟨g, ex, e, by omega, by omega, g3⟩, h3⟩
theorem IAt.ints (h : IAt w lo hi A L) : Ints w w.heap.size A L := fun h0 => by
  obtain ⟨g, ex, rfl, h1, h2, h3⟩ := h.top h0
  exact (h3.ints.more h3.lt) h0
/-- A slice of numbers of new memory, and a code. -/
def GivesIC (L : List Int) (code : Int) (w : World) (e : Ending) (w' : World) : Prop :=
  ∃ A cap, e = .returned (.tuple #[.slice A L.length cap, .int .i64 code]) ∧ Below w.heap.size w w' ∧ IAt w' w.heap.size w'.heap.size A L
end
theorem markAt_any (A : Option Addr) (c : Nat) (L : List Int) (lo hi : Nat) (k : Int) (w : World) (h : IAt w lo hi A L) (h0 : 0 ≤ k) (h1 : k ≤ 4194304) (hn : L.length ≤ 1048576) :
    Calls Tryd.prog 28 #[.slice A L.length c, .int .i64 k] w fun e w' => e = .returned (.int .i64 (k + L.length)) ∧ Within lo hi w w' ∧ IAt w' lo hi A (marks k L.length) := by
  rcases Nat.eq_zero_or_pos L.length with h0' | hp
  · have hz : ∀ W, Calls Tryd.prog 28 #[.slice A 0 c, .int .i64 k] W fun e w' => e = .returned (.int .i64 k) ∧ W = w' := fun W => by
      go_enter Tryd.func28, Tryd.ntmps28
      go_wp2
      go_loop [1, 5] (fun kk i => i = .int .i64 0 ∧ kk = .int .i64 k) (fun _ _ => 0)
      case atStart => exact ⟨rfl, rfl⟩
      case round =>
        obtain ⟨rfl, rfl⟩ := hrel
        go_wp2
        go_ret
        exact ⟨rfl, rfl⟩
    rw [h0']
    refine (hz w).mono ?_
    rintro e w' ⟨rfl, rfl⟩
    exact ⟨by simp, Within.refl _ _ _, fun h => absurd h (by simp [marks_length]), h.room⟩
  · obtain ⟨g, ex, rfl, g1, g2, hr⟩ := h.top hp
    refine (markInts_any g c L ex k w hr h0 (by omega) hn).mono ?_
    rintro e w' ⟨rfl, hg, hr'⟩
    have hw : Within lo hi w w' := ⟨hg.os, hg.tape, hg.output, hg.size, fun b hb hx => hg.block b hb (fun e => by
      have e' := Option.some.inj e
      omega)⟩
    exact ⟨rfl, hw, fun _ => ⟨g, ex, rfl, g1, g2, hr'⟩, Nat.le_trans h.room hg.size⟩
theorem heldAt_any (A : Option Addr) (c : Nat) (L : List Int) (lo hi : Nat) (k : Int) (w : World) (h : IAt w lo hi A (marks k L.length)) (h0 : 0 ≤ k) (h1 : k ≤ 4194304) (hn : L.length ≤ 1048576) :
    Calls Tryd.prog 29 #[.slice A L.length c, .int .i64 k] w fun e w' => e = .returned (.int .i64 (k + L.length)) ∧ w = w' :=
  heldInts_any A c L.length w.heap.size k w (by have := h.ints; exact this) h0 (by omega) hn
end Go.Proofs.YtmdamciheekeoaaDoor

/- spec.l07Places sorts the places of the cards by their texts, and spec.OrderBy answers them: contracts. -/
namespace Go.Proofs.YtmdamciheekeoaaDoor
open Go.ChangeShapes Go.WideShapes Go.ChangeAt Go.RowKit

/-- A slice of numbers of new memory. -/
def GivesI (L : List Int) (w : World) (e : Ending) (w' : World) : Prop :=
  ∃ A cap, e = .returned (.slice A L.length cap) ∧ Below w.heap.size w w' ∧ IAt w' w.heap.size w'.heap.size A L
/-- what is left when the place is found -/
theorem place_found {cf : Int → Int → Int} {n t k : Nat} {M : List Int} (hO : Ord cf (okK n)) (ht : t < n) (hp : M.Perm (identL t)) (hs : Srt cf M) (_ : k ≤ t) (hr : ∀ s ∈ M.drop k, Bef cf t s) (hl : ∀ s, (M.take k).getLast? = some s → ¬ cf t s < 0) :
    (M.take k ++ (t : Int) :: M.drop k).Perm (identL (t + 1)) ∧ Srt cf (M.take k ++ (t : Int) :: M.drop k) := by
  have ho : ∀ x ∈ M, okK n x := fun x hx => by
    have := identL_mem.1 (hp.subset hx)
    exact ⟨this.1, by have := this.2; omega⟩
  refine ⟨?_, ins_done hO (fun x hx => ho x (List.mem_of_mem_take hx)) ⟨Int.natCast_nonneg _, by omega⟩ (by rw [List.take_append_drop]; exact hs) (fun s h => ?_) hr⟩
  · rw [identL_succ]
    refine List.perm_middle.trans ?_
    rw [List.take_append_drop]
    exact (List.Perm.cons _ hp).trans (List.perm_append_comm (l₁ := [(t : Int)]) (l₂ := identL t))
  · have hm : s ∈ M := List.mem_of_mem_take (List.mem_of_getLast? h)
    have := identL_mem.1 (hp.subset hm)
    exact (bef_iff' hO ⟨Int.natCast_nonneg _, by omega⟩ (ho s hm) this.2).1 (hl s h)

section
variable (A : Option Addr) (c : Nat) (D : List CardV) (B : Nat) (a b : Int) (w : World) (h : Deck w B A D) (hB : B ≤ w.heap.size) (hn : D.length ≤ 1048576) (hl : ∀ d ∈ D, d.xs.length ≤ 1048576)
end
end Go.Proofs.YtmdamciheekeoaaDoor
/- spec.SequenceErrors, spec.l09Groups and spec.GroupsOf tell the places of a deck where a card is less than, or differs from, the one before it: contracts. -/
namespace Go.Proofs.YtmdamciheekeoaaDoor
open Go.ChangeShapes Go.WideShapes Go.ChangeAt Go.RowKit

theorem keyOf_at {D : List CardV} {i j n kg : Nat} {w : World} (hrow : KeyRow w kg D i j) (hv : deckB (holes D) = true) (hkb : keysB (holes D) i j = true) (hj : j ≤ widthH (holes D)) (hN : D.length = n) {p : Nat} (hp : p < n) :
    ∃ d, D[p]? = some d ∧ w.cell? ⟨kg, p, none⟩ = some (.string (textS (partOf d.xs i j))) ∧ (partOf d.xs i j).length = j - i ∧ textOk (partOf d.xs i j) = true ∧ j - i ≤ 20 ∧ (textS (partOf d.xs i j)).size = j - i := by
  obtain ⟨d, hd⟩ : ∃ d, D[p]? = some d := ⟨D[p]'(by omega), List.getElem?_eq_getElem _⟩
  obtain ⟨g1, g2⟩ := deck_width hv (holes_at hd)
  have l1 := partOf_length d.xs i j (by rw [g2]; exact hj)
  have h20 := (okB_parts g1).2
  exact ⟨d, hd, hrow p d hd, l1, keysB_at (holes_at hd) hkb, by omega, by rw [← l1]; exact textL_length _⟩
theorem texts_ne {x y : ByteArray} (h : x ≠ y) : (x.toList == y.toList) = false := by
  rw [beq_eq_false_iff_ne]
  intro hh
  apply h
  rw [ByteArray.toList_eq, ByteArray.toList_eq] at hh
  obtain ⟨⟨x⟩⟩ := x
  obtain ⟨⟨y⟩⟩ := y
  simpa using hh
theorem seqQ_zero (H : List (List Int)) (i j : Nat) : seqQ H i j 0 = false := by simp [seqQ]
theorem seqQ_succ (H : List (List Int)) (i j t : Nat) : seqQ H i j (t + 1) = decide (cmpK H i j (t + 1) t < 0) := by simp [seqQ]
theorem grpQ_zero (H : List (List Int)) (i j : Nat) : grpQ H i j 0 = true := by simp [grpQ]
theorem grpQ_succ (H : List (List Int)) (i j t : Nat) : grpQ H i j (t + 1) = !decide (cmpK H i j (t + 1) t = 0) := by simp [grpQ]
theorem empty_ints (w : World) : (w.alloc (.cells #[] 2)).ownsRow w.heap.size 2 1 (.slice (some ⟨w.heap.size, 0, none⟩) 0 0) 0 [] :=
  ⟨rfl, Or.inr ⟨w.heap.size, 0, #[], rfl, Nat.le_refl _, heap_alloc_new w _, Nat.le_refl _, Nat.zero_le _, rfl, rfl⟩⟩
theorem int_news (W : World) (x : Value) : ∀ j u, [x][j]? = some u → (W.alloc (.cells #[x] 2)).cell? ((⟨W.heap.size, 0, none⟩ : Addr).add j) = some u := by
  intro j u hj
  match j, hj with
  | 0, hj => simp at hj; subst hj; simp [Addr.add]

section
variable (A : Option Addr) (c : Nat) (D : List CardV) (B : Nat) (a b : Int) (w : World) (h : Deck w B A D) (hB : B ≤ w.heap.size) (hn : D.length ≤ 1048576) (hl : ∀ d ∈ D, d.xs.length ≤ 1048576)
include h hB hn hl

set_option maxRecDepth 100000 in
set_option maxHeartbeats 2000000 in
theorem specSeq_any (hcap : CapsOk D) :
    Calls Tryd.prog 25 #[.slice A D.length c, .agg #[.int .i64 a, .int .i64 b]] w (GivesIC (seqA (holes D) a b) (keysC (holes D) a b) w) := by
  obtain ⟨i0, hi0, hz0, hz1, hz2⟩ := info_parts info_int64
  have b0 := below_box w (.cells #[.int .i64 a, .int .i64 b] 30)
  have hk := l07Keys_any A c D B a b (w.alloc (.cells #[.int .i64 a, .int .i64 b] 30)) (h.below (b0.mono hB)) (by simp; omega) hn hl hcap
  have BW := Lib.hid b0
  obtain ⟨n, hN⟩ : ∃ n, D.length = n := ⟨_, rfl⟩
  by_cases e : keysC (holes D) a b = 0
  · obtain ⟨i, j, rfl, rfl, hij, hj, hv, hkb⟩ := keysC_zero e
    have hn40 : n ≤ 40 := by
      have := deck_len hv
      simp [holes, hN] at this
      exact this
    have ha : seqA (holes D) i j = wherePl (seqQ (holes D) i j) n := by
      unfold seqA
      rw [if_pos e, Int.toNat_natCast, Int.toNat_natCast, holes_len, hN]
    rw [ha, e]
    rw [e, Int.toNat_natCast, Int.toNat_natCast] at hk
    unfold GivesKeys at hk
    rw [hN] at hk ⊢
    have hcm := fun kg (w : World) (hr : KeyRow w kg D i j) p q (hp : p < n) (hq : q < n) => keyCmp_any hr hv hkb hj hN hp hq
    have HCM := Lib.hid hcm
    have HK := Lib.hid hk
    clear hk h hl hcap b0 e hv hkb hj hij hN ha hcm
    go_enter Tryd.func25, Tryd.ntmps25
    go_wp2_with fail
    refine HK.out.mono ?_
    rintro e w1 (⟨h0, _⟩ | ⟨_, A', cap, rfl, hb, hrow⟩)
    · exact absurd rfl h0
    have B1 := Lib.hid (below_step BW.out hb)
    have HRW := Lib.hid hrow
    have HE0 := Lib.hid (empty_ints w1)
    clear hb hrow HK
    go_wp2
    go_loopw [8, 9] (fun vo vi wr => ∃ t : Nat, ∃ vv : Value, (t + 1 ≤ n ∨ t = 0) ∧ vi = .int .i64 ((t : Int) + 1) ∧ vv = vo ∧ Hid (Below w1.heap.size w1 wr) ∧ Hid (wr.ownsRow w1.heap.size 2 1 vo (wherePl (seqQ (holes D) i j) (t + 1)).length ((wherePl (seqQ (holes D) i j) (t + 1)).map (Value.int .i64)))) (fun _ vi _ => n + 1 - (intOf vi).toNat)
    case atStart => exact ⟨0, _, Or.inr rfl, rfl, rfl, below_box w1 _, by rw [wherePl_no (seqQ_zero _ _ _)]; exact HE0⟩
    case round =>
      obtain ⟨t, vv, ht, rfl, rfl, HB, HO⟩ := hrel
      by_cases hlt : t + 1 < n
      · obtain ⟨kg, rfl, hg, hkr⟩ := HRW.out (by omega)
        obtain ⟨S1, S2, c1, c2, hcall⟩ := HCM.out kg w1 hkr (t + 1) t hlt (by omega)
        have d1 := cell_kept c1 HB.out
        have d2 := cell_kept c2 HB.out
        have hcf : cfK (holes D) i j ((t + 1 : Nat) : Int) (t : Int) = cmpK (holes D) i j (t + 1) t := by
          unfold cfK
          rw [Int.toNat_natCast, Int.toNat_natCast]
        rw [hcf] at hcall
        have hq := seqQ_succ (holes D) i j t
        obtain ⟨v, hv⟩ : ∃ v, cmpK (holes D) i j (t + 1) t = v := ⟨_, rfl⟩
        rw [hv] at hcall hq
        have HC := Lib.hid (fun m => hcall (wr.drewN m))
        have hlen := wherePl_len (seqQ (holes D) i j) (t + 1)
        have t0 : (0 : Int) ≤ (t : Int) := Int.natCast_nonneg _
        have t1 : (t : Int) + 1 < (n : Int) := by omega
        have t2 : (t : Int) < (n : Int) := by omega
        have t3 : (0 : Int) ≤ (t : Int) + 1 := by omega
        have hz : w1.heap.size ≤ wr.heap.size := HB.out.size
        clear hcall hv hcf c1 c2 hkr
        by_cases hv0 : v < 0
        · have hs := wherePl_yes (n := t + 1) (hq.trans (by simpa using hv0))
          obtain ⟨zs, hzs⟩ : ∃ zs, wherePl (seqQ (holes D) i j) (t + 1) = zs := ⟨_, rfl⟩
          rw [hzs] at HO hlen hs
          have HS := Lib.hid hs
          clear hq hs hzs
          go_wp2
          go_quiet ((go_at_call 57; exact Calls.quiet_of_same (HC.out _)))
          have HON : Hid ((wr.drewN nq).ownsRow w1.heap.size 2 1 vv zs.length (zs.map (Value.int .i64))) := HO.out
          have HBN := Lib.hid (below_drewN HB.out nq)
          have hzn : w1.heap.size ≤ (wr.drewN nq).heap.size := hz
          go_wp2_with (at_builtin; refine wpList_append_own _ rfl _ _ 40 rfl w1.heap.size 2 i0 (.int .i64 0) 1 8 Tryd.underlying40 hi0 hz0 hz1 hz2 rfl (by decide) _ _ _ rfl (HON.out.alloc _) ⟨wr.heap.size, 0, none⟩ 1 1 [.int .i64 ((t : Int) + 1)] rfl rfl ?c1 ?c2 ?c3 ?c4 ?c5 ?_; rotate_left 5; intro v' w9 hown hgrow _; obtain ⟨ho, hbb⟩ := own_more (v := vv) hown hgrow HON.out HBN.out (Nat.le_refl _) hzn; have HW1 := Lib.hid ho; have HB1 := Lib.hid hbb; clear hown hgrow ho hbb)
          case c1 => exact int_news _ _
          case c2 => intro u hu; simp at hu; subst hu; rfl
          case c3 => unfold maxLen; omega
          case c4 => omega
          case c5 => simp; omega
          go_roundw
          case rel => exact ⟨t + 1, _, Or.inl (by omega), by go_num, rfl, HB1, by rw [HS.out]; exact HW1⟩
          case measure => simp [intOf]; omega
        · have hs := wherePl_no (n := t + 1) (hq.trans (by simpa using hv0))
          have HS := Lib.hid hs
          clear hq hs
          go_wp2
          go_quiet ((go_at_call 57; exact Calls.quiet_of_same (HC.out _)))
          go_wp2
          go_roundw
          case rel => exact ⟨t + 1, _, Or.inl (by omega), by go_num, rfl, below_drewN HB.out _, by rw [HS.out]; exact HO.out⟩
          case measure => simp [intOf]; omega
      · have t1 : ¬ (t : Int) + 1 < (n : Int) := by omega
        have hfin : wherePl (seqQ (holes D) i j) (t + 1) = wherePl (seqQ (holes D) i j) n := by
          rcases ht with ht | rfl
          · rw [show t + 1 = n by omega]
          · rcases Nat.eq_zero_or_pos n with rfl | hp
            · exact wherePl_no (seqQ_zero _ _ _)
            · rw [show 0 + 1 = n by omega]
        have how := HO.out
        rw [hfin] at how
        obtain ⟨A9, c9, rfl, hA⟩ := owned_list how rfl
        have HA := Lib.hid hA
        have BB := Lib.hid (below_step B1.out HB.out)
        have hz := B1.out.size
        have hlen := wherePl_len (seqQ (holes D) i j) n
        clear how hA hfin HO
        go_wp2
        go_ret2
        refine ⟨A9, c9, rfl, BB.out, fun h0 => ?_, Nat.le_refl _⟩
        obtain ⟨g9, ex9, e9, hg9, hr9⟩ := HA.out h0
        exact ⟨g9, ex9, e9, by omega, hr9.lt, hr9⟩
  · obtain ⟨k, hk0⟩ : ∃ k, keysC (holes D) a b = k := ⟨_, rfl⟩
    have ha : seqA (holes D) a b = [] := by
      unfold seqA
      rw [if_neg e]
    rw [ha, hk0]
    rw [hk0] at hk e
    rw [hN] at hk ⊢
    have e1 : (k != 0) = true := by simpa using e
    have HK := Lib.hid hk
    clear hk h hl hcap b0 hk0 hN hn ha
    go_enter Tryd.func25, Tryd.ntmps25
    go_wp2_with fail
    refine HK.out.mono ?_
    rintro e' w1 (⟨_, rfl, hb⟩ | ⟨h0, _⟩)
    · have B1 := Lib.hid (below_step BW.out hb)
      clear hb HK
      go_wp2
      go_ret2
      exact ⟨none, 0, rfl, B1.out, fun h0 => absurd h0 (by simp), Nat.le_refl _⟩
    · exact absurd h0 e
end

set_option maxRecDepth 100000 in
set_option maxHeartbeats 2000000 in
theorem l09Groups_any (A : Option Addr) (c : Nat) (D : List CardV) (i j : Nat) (w : World) (hr : 0 < D.length → ∃ g, A = some ⟨g, 0, none⟩ ∧ g < w.heap.size ∧ KeyRow w g D i j) (hv : deckB (holes D) = true) (hkb : keysB (holes D) i j = true) (hj : j ≤ widthH (holes D)) :
    Calls Tryd.prog 68 #[.slice A D.length c] w (GivesI (wherePl (grpQ (holes D) i j) D.length) w) := by
  obtain ⟨i0, hi0, hz0, hz1, hz2⟩ := info_parts info_int64
  have hn40 : D.length ≤ 40 := by
    have := deck_len hv
    simpa [holes] using this
  obtain ⟨n, hN⟩ : ∃ n, D.length = n := ⟨_, rfl⟩
  rw [hN] at hn40 hr ⊢
  have hat := fun kg (w : World) (hr : KeyRow w kg D i j) p (hp : p < n) => keyOf_at hr hv hkb hj hN hp
  have HAT := Lib.hid hat
  have HRW := Lib.hid hr
  have HE0 := Lib.hid (empty_ints w)
  clear hat hr hN hv hkb hj
  go_enter Tryd.func68, Tryd.ntmps68
  go_wp2
  go_loopw [3, 4] (fun vo vi wr => ∃ t : Nat, ∃ vv : Value, t ≤ n ∧ vi = .int .i64 t ∧ vv = vo ∧ Hid (Below w.heap.size w wr) ∧ Hid (wr.ownsRow w.heap.size 2 1 vo (wherePl (grpQ (holes D) i j) t).length ((wherePl (grpQ (holes D) i j) t).map (Value.int .i64)))) (fun _ vi _ => n - (intOf vi).toNat)
  case atStart => exact ⟨0, _, Nat.zero_le _, rfl, rfl, below_box w _, HE0⟩
  case round =>
    obtain ⟨t, vv, ht, rfl, rfl, HB, HO⟩ := hrel
    by_cases hlt : t < n
    · obtain ⟨kg, rfl, hg, hkr⟩ := HRW.out (by omega)
      have hlen := wherePl_len (grpQ (holes D) i j) t
      have t0 : (0 : Int) ≤ (t : Int) := Int.natCast_nonneg _
      have t1 : (t : Int) < (n : Int) := by omega
      have hz : w.heap.size ≤ wr.heap.size := HB.out.size
      rcases Nat.eq_zero_or_pos t with rfl | hpos
      · have hs := wherePl_yes (grpQ_zero (holes D) i j)
        obtain ⟨zs, hzs⟩ : ∃ zs, wherePl (grpQ (holes D) i j) 0 = zs := ⟨_, rfl⟩
        rw [hzs] at HO hlen hs
        have HS := Lib.hid hs
        clear hs hzs hkr
        go_wp2
        go_quiet (fail)
        have HON : Hid ((wr.drewN nq).ownsRow w.heap.size 2 1 vv zs.length (zs.map (Value.int .i64))) := HO.out
        have HBN := Lib.hid (below_drewN HB.out nq)
        have hzn : w.heap.size ≤ (wr.drewN nq).heap.size := hz
        go_wp2_with (at_builtin; refine wpList_append_own _ rfl _ _ 40 rfl w.heap.size 2 i0 (.int .i64 0) 1 8 Tryd.underlying40 hi0 hz0 hz1 hz2 rfl (by decide) _ _ _ rfl (HON.out.alloc _) ⟨wr.heap.size, 0, none⟩ 1 1 [.int .i64 ((0 : Nat) : Int)] rfl rfl ?c1 ?c2 ?c3 ?c4 ?c5 ?_; rotate_left 5; intro v' w9 hown hgrow _; obtain ⟨ho, hbb⟩ := own_more (v := vv) hown hgrow HON.out HBN.out (Nat.le_refl _) hzn; have HW1 := Lib.hid ho; have HB1 := Lib.hid hbb; clear hown hgrow ho hbb)
        case c1 => exact int_news _ _
        case c2 => intro u hu; simp at hu; subst hu; rfl
        case c3 => unfold maxLen; omega
        case c4 => omega
        case c5 => simp; omega
        go_roundw
        case rel => exact ⟨1, _, by omega, by go_num, rfl, HB1, by rw [HS.out]; exact HW1⟩
        case measure => simp [intOf]; omega
      · obtain ⟨s, rfl⟩ : ∃ s, t = s + 1 := ⟨t - 1, by omega⟩
        obtain ⟨d, hd, c1, l1, o1, h20, z1⟩ := HAT.out kg w hkr (s + 1) hlt
        obtain ⟨d', hd', c2, l2, o2, _, z2⟩ := HAT.out kg w hkr s (by omega)
        have d1 := cell_kept c1 HB.out
        have d2 := cell_kept c2 HB.out
        have hq := grpQ_succ (holes D) i j s
        rw [cmpK_at hd hd'] at hq
        have hcz := cmpTo_zero l1 l2 o1 o2
        have hts := textS_one o1 o2
        have hq2 : ∀ S1 S2, textS (partOf d.xs i j) = S1 → textS (partOf d'.xs i j) = S2 → (S1 = S2 → grpQ (holes D) i j (s + 1) = false) ∧ (¬ S1 = S2 → grpQ (holes D) i j (s + 1) = true) := by
          rintro _ _ rfl rfl
          rw [hq]
          refine ⟨fun h => ?_, fun h => ?_⟩
          · have := hcz.2 (hts.1 h)
            simp [this]
          · have : ¬ cmpTo (partOf d.xs i j) (partOf d'.xs i j) (j - i) = 0 := fun e => h (hts.2 (hcz.1 e))
            simp [this]
        obtain ⟨S1, hS1⟩ : ∃ S, textS (partOf d.xs i j) = S := ⟨_, rfl⟩
        obtain ⟨S2, hS2⟩ : ∃ S, textS (partOf d'.xs i j) = S := ⟨_, rfl⟩
        obtain ⟨hqn, hqy⟩ := hq2 S1 S2 hS1 hS2
        rw [hS1] at d1
        rw [hS2] at d2
        have s0 : (0 : Int) ≤ (s : Int) := Int.natCast_nonneg _
        have s1 : (s : Int) < (n : Int) := by omega
        have s2 : ((s + 1 : Nat) : Int) = (s : Int) + 1 := by omega
        have s3 : ((s : Int) + 1 == 0) = false := by simp; omega
        rw [s2] at t0 t1
        rw [s2]
        clear hq hq2 hcz hts hS1 hS2 hd hd' c1 c2 l1 l2 o1 o2 z1 z2 hkr hpos
        by_cases hst : S1 = S2
        · have hs := wherePl_no (n := s + 1) (hqn hst)
          have HS := Lib.hid hs
          clear hqn hqy hs
          subst hst
          go_wp2
          go_quiet (fail)
          go_wp2
          go_roundw
          case rel => exact ⟨s + 1 + 1, _, by omega, by go_num, rfl, below_drewN HB.out _, by rw [HS.out]; exact HO.out⟩
          case measure => simp [intOf]; omega
        · have hs := wherePl_yes (n := s + 1) (hqy hst)
          obtain ⟨zs, hzs⟩ : ∃ zs, wherePl (grpQ (holes D) i j) (s + 1) = zs := ⟨_, rfl⟩
          rw [hzs] at HO hlen hs
          have HS := Lib.hid hs
          have e1 := texts_ne hst
          clear hqn hqy hs hzs
          go_wp2
          go_quiet (fail)
          have HON : Hid ((wr.drewN nq).ownsRow w.heap.size 2 1 vv zs.length (zs.map (Value.int .i64))) := HO.out
          have HBN := Lib.hid (below_drewN HB.out nq)
          have hzn : w.heap.size ≤ (wr.drewN nq).heap.size := hz
          go_wp2_with (at_builtin; refine wpList_append_own _ rfl _ _ 40 rfl w.heap.size 2 i0 (.int .i64 0) 1 8 Tryd.underlying40 hi0 hz0 hz1 hz2 rfl (by decide) _ _ _ rfl (HON.out.alloc _) ⟨wr.heap.size, 0, none⟩ 1 1 [.int .i64 ((s : Int) + 1)] rfl rfl ?c1 ?c2 ?c3 ?c4 ?c5 ?_; rotate_left 5; intro v' w9 hown hgrow _; obtain ⟨ho, hbb⟩ := own_more (v := vv) hown hgrow HON.out HBN.out (Nat.le_refl _) hzn; have HW1 := Lib.hid ho; have HB1 := Lib.hid hbb; clear hown hgrow ho hbb)
          case c1 => exact int_news _ _
          case c2 => intro u hu; simp at hu; subst hu; rfl
          case c3 => unfold maxLen; omega
          case c4 => omega
          case c5 => simp; omega
          go_roundw
          case rel => exact ⟨s + 1 + 1, _, by omega, by go_num, rfl, HB1, by rw [HS.out]; exact HW1⟩
          case measure => simp [intOf]; omega
    · obtain rfl : t = n := by omega
      have t1 : ¬ (t : Int) < (t : Int) := by omega
      have hlen := wherePl_len (grpQ (holes D) i j) t
      obtain ⟨A9, c9, rfl, hA⟩ := owned_list HO.out rfl
      have HA := Lib.hid hA
      clear hA HO
      go_wp2
      go_ret
      refine ⟨A9, c9, rfl, HB.out, fun h0 => ?_, Nat.le_refl _⟩
      obtain ⟨g9, ex9, e9, hg9, hr9⟩ := HA.out h0
      exact ⟨g9, ex9, e9, hg9, hr9.lt, hr9⟩

section
variable (A : Option Addr) (c : Nat) (D : List CardV) (B : Nat) (a b : Int) (w : World) (h : Deck w B A D) (hB : B ≤ w.heap.size) (hn : D.length ≤ 1048576) (hl : ∀ d ∈ D, d.xs.length ≤ 1048576)
include h hB hn hl
set_option maxRecDepth 100000 in
set_option maxHeartbeats 2000000 in
theorem specGroups_any (hcap : CapsOk D) :
    Calls Tryd.prog 34 #[.slice A D.length c, .agg #[.int .i64 a, .int .i64 b]] w (GivesIC (grpA (holes D) a b) (keysC (holes D) a b) w) := by
  have b0 := below_box w (.cells #[.int .i64 a, .int .i64 b] 30)
  have hk := l07Keys_any A c D B a b (w.alloc (.cells #[.int .i64 a, .int .i64 b] 30)) (h.below (b0.mono hB)) (by simp; omega) hn hl hcap
  have BW := Lib.hid b0
  obtain ⟨n, hN⟩ : ∃ n, D.length = n := ⟨_, rfl⟩
  by_cases e : keysC (holes D) a b = 0
  · obtain ⟨i, j, rfl, rfl, hij, hj, hv, hkb⟩ := keysC_zero e
    have hs := fun A c W hr => l09Groups_any A c D i j W hr hv hkb hj
    have ha : grpA (holes D) i j = wherePl (grpQ (holes D) i j) n := by
      unfold grpA
      rw [if_pos e, Int.toNat_natCast, Int.toNat_natCast, holes_len, hN]
    rw [ha, e]
    rw [e, Int.toNat_natCast, Int.toNat_natCast] at hk
    unfold GivesKeys at hk
    rw [hN] at hk ⊢
    simp only [hN] at hs
    obtain ⟨L, hL⟩ : ∃ L, wherePl (grpQ (holes D) i j) n = L := ⟨_, rfl⟩
    simp only [hL] at hs
    rw [hL]
    have HK := Lib.hid hk
    have HS := Lib.hid hs
    clear hk h hl hcap b0 e hv hkb hj hij hN ha hs hL
    go_enter Tryd.func34, Tryd.ntmps34
    go_wp2_with fail
    refine HK.out.mono ?_
    rintro e w1 (⟨h0, _⟩ | ⟨_, A', cap, rfl, hb, hrow⟩)
    · exact absurd rfl h0
    have B1 := Lib.hid (below_step BW.out hb)
    have HRW := Lib.hid hrow
    clear hb hrow HK
    go_wp2_with fail
    refine (HS.out _ _ _ HRW.out).mono ?_
    rintro e w2 ⟨A2, c2, rfl, hb, hi⟩
    have B2 := Lib.hid (below_step B1.out hb)
    have HI := Lib.hid (hi.wide (lo' := w.heap.size) (hi' := w2.heap.size) B1.out.size (Nat.le_refl _) (Nat.le_refl _))
    clear hb hi
    go_wp2
    go_ret2
    exact ⟨A2, c2, rfl, B2.out, HI.out⟩
  · obtain ⟨k, hk0⟩ : ∃ k, keysC (holes D) a b = k := ⟨_, rfl⟩
    have ha : grpA (holes D) a b = [] := by
      unfold grpA
      rw [if_neg e]
    rw [ha, hk0]
    rw [hk0] at hk e
    rw [hN] at hk ⊢
    have e1 : (k != 0) = true := by simpa using e
    have HK := Lib.hid hk
    clear hk h hl hcap b0 hk0 hN hn ha
    go_enter Tryd.func34, Tryd.ntmps34
    go_wp2_with fail
    refine HK.out.mono ?_
    rintro e' w1 (⟨_, rfl, hb⟩ | ⟨h0, _⟩)
    · have B1 := Lib.hid (below_step BW.out hb)
      clear hb HK
      go_wp2
      go_ret2
      exact ⟨none, 0, rfl, B1.out, fun h0 => absurd h0 (by simp), Nat.le_refl _⟩
    · exact absurd h0 e
end
end Go.Proofs.YtmdamciheekeoaaDoor
