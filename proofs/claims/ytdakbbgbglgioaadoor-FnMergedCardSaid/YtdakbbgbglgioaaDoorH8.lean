/- Texts for a field: spec.l09Text, impl.keyOfText; and which error is told: slices.Index and slices.Contains at int64, impl.firstError: contracts. -/
import Derived.Test.YtdakbbgbglgioaaDoorH4
import Derived.Test.YtdakbbgbglgioaaDoorH6
import Derived.Test.YtdakbbgbglgioaaDoorH7
import Derived.Test.YtdakbbgbglgioaaDoorH1
import Derived.Test.YtdakbbgbglgioaaDoorH5
namespace Go.Proofs.YtdakbbgbglgioaaDoor
open Go.ChangeShapes Go.WideShapes Go.ChangeAt Go.RowKit

def rankT (n : Nat) : Bool := let c := codeS (n : Int)
  if c < 0 then decide (rankS n = -1) else decide (0 ≤ rankS n) && decide (rkI c = rankS n)
theorem rankT_all : ∀ n : Fin 256, rankT n.val = true := by decide +kernel
theorem implRankT_any (n : Nat) (h : n ≤ 255) (w : World) (hP : Places w) : (codeS (n : Int) < 0 → Calls Tryd.prog 79 #[.int .u8 n] w fun e w' => e = .returned (.tuple #[.int .i64 0, .bool false]) ∧ w = w') ∧
    (¬ codeS (n : Int) < 0 → Calls Tryd.prog 79 #[.int .u8 n] w fun e w' => e = .returned (.tuple #[.int .i64 (rkI (codeS (n : Int))), .bool true]) ∧ w = w') := by
  have hb := rankT_all ⟨n, by omega⟩
  unfold rankT at hb
  simp only at hb
  refine ⟨fun hc => ?_, fun hc => ?_⟩
  · rw [if_pos hc] at hb
    have hr := of_decide_eq_true hb
    rcases rank_cases n h with ⟨_, _, h3⟩ | ⟨j, _, h2, _⟩
    · exact implRank_no n h h3 w hP
    · omega
  · rw [if_neg hc, Bool.and_eq_true, decide_eq_true_eq, decide_eq_true_eq] at hb
    rcases rank_cases n h with ⟨h1, _, _⟩ | ⟨j, hj, h2, _, _, h5, h6⟩
    · omega
    · rw [hb.2, h2]
      exact implRank_yes n j h5 hj h6 w hP

/-- the ranks of a text -/
def GivesKey (s : ByteArray) (w : World) (e : Ending) (w' : World) : Prop :=
  ∃ g, e = .returned (.tuple #[.slice (some ⟨g, 0, none⟩) s.size s.size, .int .i64 0]) ∧ w.heap.size ≤ g ∧ Below w.heap.size w w' ∧ Row w' g ((textCodes s).map rkI) []
theorem putTo_set (qs : List Int) (n k : Nat) (x : Int) (hk : k < n) (hl : qs.length = n) (hx : qs[k]?.getD 0 = x) : (qs.take k ++ List.replicate (n - k) 0).set k x = qs.take (k + 1) ++ List.replicate (n - (k + 1)) 0 := by
  have h1 : (qs.take k).length = k := by simp; omega
  rw [List.set_append, if_neg (by omega), h1, Nat.sub_self, show n - k = (n - (k + 1)) + 1 by omega, List.replicate_succ, List.set_cons_zero, List.take_add_one, List.append_assoc]
  congr 1
  have hq : qs[k]? = some (qs[k]'(by omega)) := List.getElem?_eq_getElem _
  rw [hq] at hx ⊢
  have hx' : qs[k]'(by omega) = x := hx
  rw [hx']
  rfl

set_option maxRecDepth 100000 in
set_option maxHeartbeats 1000000 in
theorem keyOfText_any (s : ByteArray) (hs : s.size ≤ 1048576) (a b : Int) (w : World) (hP : Places w) :
    Calls Tryd.prog 55 #[.string s, .agg #[.int .i64 a, .int .i64 b]] w fun e w' => (textC s (IntKind.i64.wrap (b - a)) ≠ 0 ∧ GivesNoList (textC s (IntKind.i64.wrap (b - a))) w e w') ∨ (textC s (IntKind.i64.wrap (b - a)) = 0 ∧ GivesKey s w e w') := by
  obtain ⟨l, hl⟩ : ∃ l, IntKind.i64.wrap (b - a) = l := ⟨_, rfl⟩
  rw [hl]
  have b0 := below_box w (.cells #[.int .i64 a, .int .i64 b] 26)
  have BW := Lib.hid b0
  have HPL := Lib.hid hP
  by_cases hz : (s.size : Int) = l
  · obtain ⟨r, hr⟩ : ∃ r, legalT s = r := ⟨_, rfl⟩
    have e0 : textC s l = if r = false then 7 else 0 := by
      unfold textC
      rw [if_neg (by simpa using hz), hr]
    rw [e0]
    have HR := Lib.hid hr
    have e1 : ((s.size : Int) != l) = false := by simpa using hz
    obtain ⟨n, hn⟩ : ∃ n, s.size = n := ⟨_, rfl⟩
    have hmk := run_make_row' (P := Tryd.prog) 34 2 (.int .i64 0) 8 Tryd.underlying34 info_int64 rfl .i64 .i64 n (by omega) (by omega)
    obtain ⟨qs, hq⟩ : ∃ qs, (textCodes s).map rkI = qs := ⟨_, rfl⟩
    have hql : qs.length = n := by rw [← hq, List.length_map, textCodes_length, hn]
    have hqg : ∀ k (h : k < s.size), qs[k]?.getD 0 = rkI (codeS ((s[k]'h).toNat : Int)) := fun k h => by
      rw [← hq, List.getElem?_map, textCodes_get s k h]
      rfl
    have HQL := Lib.hid hql
    have HQG := Lib.hid hqg
    have HQ := Lib.hid hq
    have HN := Lib.hid hn
    rw [hn] at e1
    clear e0 hr hz hql hqg hq b0 hP
    have hnn : s.size = n := HN.out
    go_enter Tryd.func55, Tryd.ntmps55
    go_wp2
    clear e1 hl hmk
    have R0 : Hid (Row ((w.alloc (.cells #[.int .i64 a, .int .i64 b] 26)).alloc (.cells (madeCells #[Value.int .i64 0] n) 2)) (w.heap.size + 1) (qs.take 0 ++ List.replicate (n - 0) 0) []) := by
      rw [madeCells_int]
      exact Row.new_at _ _ (by simp)
    have B0 : Hid (Below w.heap.size w ((w.alloc (.cells #[.int .i64 a, .int .i64 b] 26)).alloc (.cells (madeCells #[Value.int .i64 0] n) 2))) := (below_box w _).alloc (by simp) _
    go_loopw [23] (fun i wr => ∃ k : Nat, k ≤ n ∧ i = .int .i64 k ∧ Hid (legalTo s k) ∧ Hid (Below w.heap.size w wr) ∧ Hid (Row wr (w.heap.size + 1) (qs.take k ++ List.replicate (n - k) 0) [])) (fun i _ => n - (intOf i).toNat)
    case atStart => exact ⟨0, Nat.zero_le _, rfl, legalTo_zero s, B0, R0⟩
    case round =>
      obtain ⟨k, hk, rfl, HL, HB, HRW⟩ := hrel
      by_cases hlt : k < s.size
      · have hltn : k < n := by omega
        have hlt' : (k : Int) < (n : Int) := by omega
        obtain ⟨x, hx⟩ : ∃ x : Nat, (s[k]'hlt).toNat = x := ⟨_, rfl⟩
        have hxb : x ≤ 255 := by have := (s[k]'hlt).toNat_lt; omega
        obtain ⟨hr1, hr2⟩ := implRankT_any x hxb wr (HPL.out.below HB.out)
        have hqk := HQG.out k hlt
        have hlb := legalT_bad s k hlt
        have hls := fun h => legalTo_step HL.out hlt h
        rw [hx] at hqk hlb hls
        obtain ⟨y, hy⟩ : ∃ y, codeS (x : Int) = y := ⟨_, rfl⟩
        rw [hy] at hr1 hr2 hqk hlb hls
        have hk0 : (0 : Int) ≤ (k : Int) := Int.natCast_nonneg _
        have c1 := HRW.out.cell (i := k) (by simp [HQL.out]; omega)
        have f1 := HRW.out.frozen k
        have HQK := Lib.hid hqk
        clear hy hqk
        by_cases hneg : y < 0
        · obtain rfl : r = false := by rw [← HR.out]; exact hlb hneg
          have HX := Lib.hid (hr1 hneg)
          clear hr1 hr2 hlb hls c1 f1
          go_wp2_with (go_at_call 79; refine HX.out.mono ?_; rintro e w' ⟨rfl, rfl⟩)
          go_ret2
          first | exact ⟨rfl, HB.out⟩ | exact Or.inl ⟨by decide, rfl, HB.out⟩
        · have HX := Lib.hid (hr2 hneg)
          have HL1 : Hid (legalTo s (k + 1)) := hls (by omega)
          obtain ⟨z, hz⟩ : ∃ z, rkI y = z := ⟨_, rfl⟩
          rw [hz] at HX HQK
          clear hr1 hr2 hlb hls hz
          go_wp2_with (go_at_call 79; refine HX.out.mono ?_; rintro e w' ⟨rfl, rfl⟩)
          go_roundw
          case rel =>
            refine ⟨k + 1, by omega, by go_num, HL1, HB.out.setCell (by simp) _, ?_⟩
            have := HRW.out.set (i := k) (by simp [HQL.out]; omega) z
            rw [putTo_set qs n k z hltn HQL.out HQK.out] at this
            exact this
          case measure => simp [intOf]; omega
      · have hkn : k = n := by omega
        have hlt' : ¬ (k : Int) < (n : Int) := by omega
        obtain rfl : r = true := by
          rw [← HR.out]
          have := HL.out
          rw [show k = s.size by omega] at this
          exact legalT_all this
        have hrow := HRW.out
        rw [hkn, Nat.sub_self, List.replicate_zero, List.append_nil, List.take_of_length_le (by rw [HQL.out]; omega)] at hrow
        have HROW := Lib.hid hrow
        clear hkn hrow
        go_wp2
        go_ret2
        have e := HQ.out
        first | exact ⟨_, by rw [HN.out]; rfl, by omega, HB.out, by rw [e]; exact HROW.out⟩ | exact Or.inr ⟨by simp, _, by rw [HN.out]; rfl, by omega, HB.out, by rw [e]; exact HROW.out⟩
  · have e0 : textC s l = 2 := by
      unfold textC
      rw [if_pos hz]
    rw [e0]
    have e1 : ((s.size : Int) != l) = true := by simpa using hz
    clear e0 hz b0 hP
    go_enter Tryd.func55, Tryd.ntmps55
    go_wp2
    go_ret2
    first | exact ⟨rfl, BW.out⟩ | exact Or.inl ⟨by decide, rfl, BW.out⟩

theorem indexI_any (A : Option Addr) (c : Nat) (L : List Int) (B : Nat) (x : Int) (w : World) (h : Ints w B A L) (hn : L.length ≤ 1048576) :
    Calls Tryd.prog 89 #[.slice A L.length c, .int .i64 x] w fun e w' => ∃ r : Int, e = .returned (.int .i64 r) ∧ (0 ≤ r ↔ x ∈ L) ∧ w = w' := by
  obtain ⟨n, hN⟩ : ∃ n, L.length = n := ⟨_, rfl⟩
  rw [hN] at hn ⊢
  have H := Lib.hid h
  have HN := Lib.hid hN
  clear h hN
  go_enter Tryd.func89, Tryd.ntmps89
  go_wp2
  go_loop [8] (fun i => ∃ k : Nat, k ≤ n ∧ i = .int .i64 k ∧ Hid (x ∉ L.take k)) (fun i => n - (intOf i).toNat)
  case atStart => exact ⟨0, Nat.zero_le _, rfl, by show _ ∉ _; simp⟩
  case round =>
    obtain ⟨k, hk, rfl, HX⟩ := hrel
    by_cases hlt : k < n
    · obtain ⟨b, off, rfl, hb, hcell⟩ := H.out (by rw [HN.out]; omega)
      have c1 := hcell k (by rw [HN.out]; exact hlt)
      obtain ⟨y, hy⟩ : ∃ y, L[k]? = some y := ⟨L[k]'(by rw [HN.out]; exact hlt), List.getElem?_eq_getElem _⟩
      rw [hy] at c1
      have c2 : w.cell? ⟨b, off + k, none⟩ = some (.int .i64 y) := c1
      have HY := Lib.hid hy
      have k0 : (0 : Int) ≤ (k : Int) := Int.natCast_nonneg _
      have k1 : (k : Int) < (n : Int) := by omega
      clear c1 hcell hy H
      by_cases hxy : x = y
      · have hm : decide (x ∈ L) = true := by rw [decide_eq_true_eq, hxy]; exact List.mem_of_getElem? HY.out
        have HM := Lib.hid hm
        subst hxy
        clear hm
        go_wp2
        go_ret
        exact ⟨k, rfl, ⟨fun _ => of_decide_eq_true HM.out, fun _ => Int.natCast_nonneg _⟩, rfl⟩
      · have hne : (x == y) = false := by simpa using hxy
        have HX1 : Hid (x ∉ L.take (k + 1)) := by
          show _ ∉ _
          rw [List.take_add_one, HY.out, List.mem_append]
          rintro (h | h)
          · exact HX.out h
          · exact hxy (by simpa using h)
        clear hxy
        go_wp2
        go_round
        case rel => exact ⟨k + 1, by omega, by go_num, HX1⟩
        case measure => simp [intOf]; omega
    · have k1 : ¬ (k : Int) < (n : Int) := by omega
      have hm : decide (x ∈ L) = false := by
        have := HX.out
        rw [List.take_of_length_le (by rw [HN.out]; omega)] at this
        simpa using this
      have HM := Lib.hid hm
      clear hm
      go_wp2
      go_ret
      exact ⟨-1, rfl, ⟨fun h => absurd h (by decide), fun h => absurd h (of_decide_eq_false HM.out)⟩, rfl⟩
theorem containsI_any (A : Option Addr) (c : Nat) (L : List Int) (B : Nat) (x : Int) (w : World) (h : Ints w B A L) (hn : L.length ≤ 1048576) :
    Calls Tryd.prog 80 #[.slice A L.length c, .int .i64 x] w fun e w' => e = .returned (.bool (decide (x ∈ L))) ∧ w = w' := by
  have HI := Lib.hid (indexI_any A c L B x w h hn)
  obtain ⟨n, hN⟩ : ∃ n, L.length = n := ⟨_, rfl⟩
  obtain ⟨r, hr⟩ : ∃ r, decide (x ∈ L) = r := ⟨_, rfl⟩
  rw [hN] at HI
  rw [hr, hN]
  have HR := Lib.hid hr
  clear h hN hn hr
  go_enter Tryd.func80, Tryd.ntmps80
  go_wp2_with (go_at_call 89; refine HI.out.mono ?_; rintro e w' ⟨q, rfl, hq, rfl⟩)
  go_ret
  exact ⟨by rw [← HR.out]; rfl, rfl⟩

def errsL : List Int := [1, 2, 7, 8]
theorem firstC_at {L : List Int} {k : Nat} {x : Int} (hk : errsL[k]? = some x) (hx : x ∈ L) (h : ∀ y ∈ errsL.take k, y ∉ L) : firstC L = x := by
  match k, hk with
  | 0, hk => obtain rfl : (1 : Int) = x := by simpa [errsL] using hk
             unfold firstC; rw [if_pos hx]
  | 1, hk => obtain rfl : (2 : Int) = x := by simpa [errsL] using hk
             have h1 := h 1 (by simp [errsL])
             unfold firstC; rw [if_neg h1, if_pos hx]
  | 2, hk => obtain rfl : (7 : Int) = x := by simpa [errsL] using hk
             have h1 := h 1 (by simp [errsL])
             have h2 := h 2 (by simp [errsL])
             unfold firstC; rw [if_neg h1, if_neg h2, if_pos hx]
  | 3, hk => obtain rfl : (8 : Int) = x := by simpa [errsL] using hk
             have h1 := h 1 (by simp [errsL])
             have h2 := h 2 (by simp [errsL])
             have h3 := h 7 (by simp [errsL])
             unfold firstC; rw [if_neg h1, if_neg h2, if_neg h3, if_pos hx]
  | k + 4, hk => simp [errsL] at hk
theorem firstC_none {L : List Int} (h : ∀ y ∈ errsL, y ∉ L) : firstC L = 0 := by
  have h1 := h 1 (by simp [errsL])
  have h2 := h 2 (by simp [errsL])
  have h3 := h 7 (by simp [errsL])
  have h4 := h 8 (by simp [errsL])
  unfold firstC
  rw [if_neg h1, if_neg h2, if_neg h3, if_neg h4]

set_option maxHeartbeats 1000000 in
theorem firstError_any (A : Option Addr) (c : Nat) (L : List Int) (B : Nat) (w : World) (h : Ints w B A L) (hB : B ≤ w.heap.size) (hn : L.length ≤ 1048576) :
    Calls Tryd.prog 56 #[.slice A L.length c] w fun e w' => e = .returned (.int .i64 (firstC L)) ∧ Below w.heap.size w w' := by
  have hc := fun x W (hW : Below w.heap.size w W) => containsI_any A c L B x W (h.below (hW.mono hB)) hn
  obtain ⟨n, hN⟩ : ∃ n, L.length = n := ⟨_, rfl⟩
  obtain ⟨r, hr⟩ : ∃ r, firstC L = r := ⟨_, rfl⟩
  simp only [hN] at hc
  rw [hN, hr]
  have HC := Lib.hid hc
  have HR := Lib.hid hr
  have B0 := Lib.hid (below_box w (.cells #[.int .i64 1, .int .i64 2, .int .i64 7, .int .i64 8] 2))
  have hcell : ∀ k x, errsL[k]? = some x → (w.alloc (.cells #[.int .i64 1, .int .i64 2, .int .i64 7, .int .i64 8] 2)).cell? ⟨w.heap.size, k, none⟩ = some (.int .i64 x) := fun k x hk => by
    match k, hk with
    | 0, hk => obtain rfl : (1 : Int) = x := by simpa [errsL] using hk
               simp
    | 1, hk => obtain rfl : (2 : Int) = x := by simpa [errsL] using hk
               simp
    | 2, hk => obtain rfl : (7 : Int) = x := by simpa [errsL] using hk
               simp
    | 3, hk => obtain rfl : (8 : Int) = x := by simpa [errsL] using hk
               simp
    | k + 4, hk => simp [errsL] at hk
  have HCL := Lib.hid hcell
  clear h hc hN hn hr hcell
  go_enter Tryd.func56, Tryd.ntmps56
  go_wp2
  obtain ⟨W1, hW1⟩ : ∃ W1, w.alloc (.cells #[.int .i64 1, .int .i64 2, .int .i64 7, .int .i64 8] 2) = W1 := ⟨_, rfl⟩
  rw [hW1] at B0 HCL ⊢
  clear hW1
  go_loop [7] (fun i => ∃ k : Nat, k ≤ 4 ∧ i = .int .i64 k ∧ Hid (∀ y ∈ errsL.take k, y ∉ L)) (fun i => 4 - (intOf i).toNat)
  case atStart => exact ⟨0, Nat.zero_le _, rfl, by intro y hy; simp at hy⟩
  case round =>
    obtain ⟨k, hk, rfl, HX⟩ := hrel
    by_cases hlt : k < 4
    · obtain ⟨x, hx⟩ : ∃ x, errsL[k]? = some x := ⟨errsL[k]'(by simp [errsL]; omega), List.getElem?_eq_getElem _⟩
      have c1 := HCL.out k x hx
      have hcx := HC.out x _ B0.out
      obtain ⟨u, hu⟩ : ∃ u, decide (x ∈ L) = u := ⟨_, rfl⟩
      rw [hu] at hcx
      have HK := Lib.hid hcx
      have k0 : (0 : Int) ≤ (k : Int) := Int.natCast_nonneg _
      have k1 : (k : Int) < 4 := by omega
      have HXX := Lib.hid hx
      have HU := Lib.hid hu
      clear hx hcx hu
      cases u
      · have HX1 : Hid (∀ y ∈ errsL.take (k + 1), y ∉ L) := fun y hy => by
          rw [List.take_add_one, HXX.out, List.mem_append] at hy
          rcases hy with hy | hy
          · exact HX.out y hy
          · obtain rfl : y = x := by simpa using hy
            exact of_decide_eq_false HU.out
        go_wp2_with (go_at_call 80; refine HK.out.mono ?_; rintro e w' ⟨rfl, rfl⟩)
        go_round
        case rel => exact ⟨k + 1, by omega, by go_num, HX1⟩
        case measure => simp [intOf]; omega
      · obtain rfl : r = x := by rw [← HR.out]; exact firstC_at HXX.out (of_decide_eq_true HU.out) HX.out
        go_wp2_with (go_at_call 80; refine HK.out.mono ?_; rintro e w' ⟨rfl, rfl⟩)
        go_ret
        exact ⟨rfl, B0.out⟩
    · obtain rfl : r = 0 := by
        rw [← HR.out]
        refine firstC_none ?_
        have := HX.out
        rwa [List.take_of_length_le (by simp [errsL]; omega)] at this
      have k1 : ¬ (k : Int) < 4 := by omega
      go_wp2
      go_ret
      exact ⟨rfl, B0.out⟩
end Go.Proofs.YtdakbbgbglgioaaDoor

/- impl.cardsWhere at the closure of impl.SelectBetween, impl.SelectBetween and impl.SelectEqual: contracts. -/
namespace Go.Proofs.YtdakbbgbglgioaaDoor
open Go.ChangeShapes Go.WideShapes Go.ChangeAt Go.RowKit

/-- the cards ahead of place n for which q holds -/
def cardsE (q : Nat → Bool) (E : List CardV) : Nat → List CardV
  | 0 => []
  | n + 1 => if q n = true then cardsE q E n ++ (E[n]?).toList else cardsE q E n
theorem cardsE_yes {q : Nat → Bool} {E : List CardV} {n : Nat} {e : CardV} (h : q n = true) (hn : E[n]? = some e) : cardsE q E (n + 1) = cardsE q E n ++ [e] := by
  rw [cardsE, if_pos h, hn]
  rfl
theorem cardsE_no {q : Nat → Bool} {E : List CardV} {n : Nat} (h : q n = false) : cardsE q E (n + 1) = cardsE q E n := if_neg (by simp [h])
theorem cardsE_holes (q : Nat → Bool) (E : List CardV) : ∀ n, n ≤ E.length → holes (cardsE q E n) = cardsPl q (holes E) n
  | 0, _ => rfl
  | n + 1, h => by
    have ih := cardsE_holes q E n (by omega)
    have he : E[n]? = some (E[n]'(by omega)) := List.getElem?_eq_getElem _
    unfold cardsE cardsPl
    rw [holes_at he, he]
    split
    · simp only [holes, List.map_append] at ih ⊢
      rw [ih]
      rfl
    · exact ih
theorem cardsE_sub (q : Nat → Bool) (E : List CardV) : ∀ n, (cardsE q E n).Sublist (E.take n)
  | 0 => by simp [cardsE]
  | n + 1 => by
    have ih := cardsE_sub q E n
    unfold cardsE
    rw [List.take_add_one]
    split
    · exact ih.append (List.Sublist.refl _)
    · exact ih.trans (List.sublist_append_left _ _)
theorem NewRows.sub {w : World} {lo : Nat} {E F : List CardV} (h : NewRows w lo E) (hs : F.Sublist E) : NewRows w lo F :=
  ⟨fun e he => h.each e (hs.subset he), h.apart.sublist hs⟩
theorem cardsE_rows {w : World} {lo n : Nat} {q : Nat → Bool} {E : List CardV} (h : NewRows w lo E) : NewRows w lo (cardsE q E n) := h.sub ((cardsE_sub q E n).trans (List.take_sublist _ _))
theorem cardsE_len (q : Nat → Bool) (E : List CardV) (n : Nat) : (cardsE q E n).length ≤ n := by
  have h1 := (cardsE_sub q E n).length_le
  have h2 := List.length_take_le n E
  omega
/-- a list of the cards for which q holds, in the memory of these -/
def GivesSel (q : Nat → Bool) (E : List CardV) (n lo : Nat) (w : World) (e : Ending) (w' : World) : Prop :=
  ∃ A cap, e = .returned (.slice A (cardsE q E n).length cap) ∧ Below w.heap.size w w' ∧ DeckAt w' lo w'.heap.size A (cardsE q E n)

set_option maxRecDepth 100000 in
set_option maxHeartbeats 2000000 in
theorem cardsBet_any {D E K : List CardV} {i j n g lo : Nat} {w : World} (p1 p2 : Nat) (q : Nat → Bool) (hO : EntsOf D i j n E K) (he : Ents w lo g E K n) (hlo : lo ≤ w.heap.size)
    (hkeep : ∀ (k : Nat) (e p : CardV) (W : World), k < n → E[k]? = some e → K[k]? = some p → Below w.heap.size w W → Calls Tryd.prog 58 #[.agg #[e.value, p.value], .pointer (some ⟨p1, 0, none⟩), .pointer (some ⟨p2, 0, none⟩)] W fun en W' => en = .returned (.bool (q k)) ∧ Below W.heap.size W W') :
    Calls Tryd.prog 57 #[.slice (some ⟨g, 0, none⟩) n n, .func (.func 58) #[] #[.pointer (some ⟨p1, 0, none⟩), .pointer (some ⟨p2, 0, none⟩)]] w (GivesSel q E n lo w) := by
  obtain ⟨i0, hi0, hz0, hz1, hz2⟩ := info_parts info_card
  have hn40 := hO.n40
  have HE := Lib.hid he
  have HO := Lib.hid hO
  have HK := Lib.hid hkeep
  clear he hO hkeep
  go_enter Tryd.func57, Tryd.ntmps57
  go_wp2
  go_loopw [5, 10] (fun vo vi wr => ∃ t : Nat, ∃ vv : Value, t ≤ n ∧ vi = .int .i64 t ∧ vv = vo ∧ Hid (Below w.heap.size w wr) ∧ Hid (wr.ownsRow w.heap.size 36 1 vo (cardsE q E t).length ((cardsE q E t).map CardV.value))) (fun _ vi _ => n - (intOf vi).toNat)
  case atStart => exact ⟨0, _, Nat.zero_le _, rfl, rfl, Below.refl _ _, World.ownsRow_nil _ _ _ _⟩
  case round =>
    obtain ⟨t, vv, ht, rfl, rfl, HB, HR⟩ := hrel
    by_cases hlt : t < n
    · obtain ⟨d, e, p, hd, he, hp, _⟩ := HO.out.at_ hlt
      have hE := HE.out.later HB.out
      have c1 := hE.card (by rw [HO.out.lenE, HO.out.lenK]; omega) he
      have c2 := hE.key (by rw [HO.out.lenE]; exact hlt) hp
      unfold CardV.value at c1 c2
      have bx := below_box wr (.cells #[.slice e.at_ e.xs.length e.cap, .slice p.at_ p.xs.length p.cap] 75)
      have hk := HK.out t e p _ hlt he hp (below_step HB.out bx)
      unfold CardV.value at hk
      have p0 : (wr.alloc (.cells #[.slice e.at_ e.xs.length e.cap, .slice p.at_ p.xs.length p.cap] 75)).cell? ⟨wr.heap.size, 0, none⟩ = some (.slice e.at_ e.xs.length e.cap) := by simp
      have p1 : (wr.alloc (.cells #[.slice e.at_ e.xs.length e.cap, .slice p.at_ p.xs.length p.cap] 75)).cell? ⟨wr.heap.size, 1, none⟩ = some (.slice p.at_ p.xs.length p.cap) := by simp
      obtain ⟨r, hr⟩ : ∃ r, q t = r := ⟨_, rfl⟩
      rw [hr] at hk
      have HKP := Lib.hid hk
      have HQ := Lib.hid hr
      have HX := Lib.hid he
      have HBX := Lib.hid (below_step HB.out bx)
      have HRX : Hid ((wr.alloc (.cells #[.slice e.at_ e.xs.length e.cap, .slice p.at_ p.xs.length p.cap] 75)).ownsRow w.heap.size 36 1 vv (cardsE q E t).length ((cardsE q E t).map CardV.value)) := HR.out.alloc _
      have hlen := cardsE_len q E t
      obtain ⟨W1, hW1⟩ : ∃ W1, wr.alloc (.cells #[.slice e.at_ e.xs.length e.cap, .slice p.at_ p.xs.length p.cap] 75) = W1 := ⟨_, rfl⟩
      rw [hW1] at HKP p0 p1 HBX HRX
      have hsz : w.heap.size ≤ W1.heap.size := HBX.out.size
      have t0 : (0 : Int) ≤ (t : Int) := Int.natCast_nonneg _
      have t1 : (t : Int) < (n : Int) := by omega
      obtain ⟨le, hle⟩ : ∃ l, e.xs.length = l := ⟨_, rfl⟩
      obtain ⟨lp, hlp⟩ : ∃ l, p.xs.length = l := ⟨_, rfl⟩
      have HLE := Lib.hid hle
      rw [hle] at p0 c1 HKP hW1
      rw [hlp] at p1 c2 HKP hW1
      clear hE hk hr he hp hd bx hle hlp HR
      cases r
      · have hs := cardsE_no (E := E) HQ.out
        have HS := Lib.hid hs
        clear hs
        go_wp2_with (go_at_call 58; refine HKP.out.mono ?_; rintro en w3 ⟨rfl, hb3⟩; have HB3 := Lib.hid (below_step HBX.out hb3); have HR3 : Hid (w3.ownsRow w.heap.size 36 1 vv (cardsE q E t).length ((cardsE q E t).map CardV.value)) := own_moved HRX.out (fun i _ hi => hb3.block i hi); clear hb3)
        go_roundw
        case rel => exact ⟨t + 1, _, by omega, by go_num, rfl, HB3, by rw [HS.out]; exact HR3⟩
        case measure => simp [intOf]; omega
      · have hs := cardsE_yes HQ.out HX.out
        obtain ⟨X, hX⟩ : ∃ X, cardsE q E t = X := ⟨_, rfl⟩
        rw [hX] at HRX hlen hs
        have hrows := cardsE_rows (q := q) (n := t + 1) HE.out.cards
        rw [hs] at hrows
        have HS := Lib.hid hs
        have HRW := Lib.hid hrows
        clear hs hX hrows
        go_wp2_with (first
          | (go_at_call 58; refine HKP.out.mono ?_; rintro en w3 ⟨rfl, hb3⟩; have HB3 := Lib.hid (below_step HBX.out hb3); have HR3 : Hid (w3.ownsRow w.heap.size 36 1 vv X.length (X.map CardV.value)) := own_moved HRX.out (fun i _ hi => hb3.block i hi); have q0 := cell_kept p0 hb3; have hw3 : w.heap.size ≤ w3.heap.size := HB3.out.size; have HN3 := Lib.hid (HRW.out.later HB3.out); clear hb3)
          | (at_builtin; refine wpList_append_own _ rfl _ _ 24 rfl w.heap.size 36 i0 (.agg #[.slice none 0 0]) 1 24 Tryd.underlying24 hi0 hz0 hz1 hz2 rfl (by decide) _ _ _ rfl (HR3.out.alloc _) ⟨w3.heap.size, 0, none⟩ 1 1 [.slice e.at_ le e.cap] rfl rfl (card_news w3 _) ?c2 ?c3 ?c4 ?c5 ?_; rotate_left 4; intro v9 w9 hown hgrow hiff; have hv9 : v9 ≠ .slice none 0 0 := (fun ee => absurd (hiff.1 ee).2 (by decide)); obtain ⟨ho, hbb, hrr⟩ := own_card (x := e) (by unfold CardV.value; rw [HLE.out]; exact hown) (by unfold CardV.value; rw [HLE.out]; exact hgrow) HR3.out HB3.out (Nat.le_refl _) hw3 HN3.out; obtain ⟨g9, cap9, rfl⟩ := own_shape ho hv9; have HO9 := Lib.hid ho; have HB9 := Lib.hid hbb; clear hown hgrow hiff hv9 ho hbb hrr))
        case c2 => intro u hu; simp at hu; subst hu; rfl
        case c3 => unfold maxLen; omega
        case c4 => omega
        case c5 => simp; omega
        go_roundw
        case rel => exact ⟨t + 1, _, by omega, by go_num, rfl, HB9, by rw [HS.out, List.length_append]; exact HO9.out⟩
        case measure => simp [intOf]; omega
    · obtain rfl : t = n := by omega
      have t1 : ¬ (t : Int) < (t : Int) := by omega
      obtain ⟨A9, c9, e9, hda⟩ := own_deckAt HR.out rfl ((cardsE_rows HE.out.cards).later HB.out) hlo
      subst e9
      have HDA := Lib.hid hda
      clear hda HR
      go_wp2
      go_ret
      exact ⟨A9, c9, rfl, HB.out, HDA.out⟩

set_option maxHeartbeats 1000000 in
theorem selKeep_any (a1 A : Option Addr) (l1 c1 c : Nat) (p1 p2 : Nat) (A1 A2 : Option Addr) (z1 z2 : Nat) (xs ys zs : List Int) (n B B1 B2 : Nat) (w : World) (h : Ints w B A (xs.map rkI)) (h1 : Ints w B1 A1 (ys.map rkI)) (h2 : Ints w B2 A2 (zs.map rkI)) (hB : B ≤ w.heap.size) (hB1 : B1 ≤ w.heap.size) (hB2 : B2 ≤ w.heap.size)
    (hx : xs.length = n) (hy : ys.length = n) (hz : zs.length = n) (hn : n ≤ 1048576) (q1 : w.cell? ⟨p1, 0, none⟩ = some (.slice A1 n z1)) (q2 : w.cell? ⟨p2, 0, none⟩ = some (.slice A2 n z2)) :
    Calls Tryd.prog 58 #[.agg #[.slice a1 l1 c1, .slice A n c], .pointer (some ⟨p1, 0, none⟩), .pointer (some ⟨p2, 0, none⟩)] w fun e w' => e = .returned (.bool (decide (0 ≤ cmpTo xs ys n) && decide (cmpTo xs zs n ≤ 0))) ∧ Below w.heap.size w w' := by
  have b0 := below_box w (.cells #[.slice a1 l1 c1, .slice A n c] 75)
  have k1 := slicesCompare_any A1 A z1 c ys xs n B1 B _ (h1.below (b0.mono hB1)) (h.below (b0.mono hB)) hy hx hn
  have k2 := slicesCompare_any A A2 c z2 xs zs n B B2 _ (h.below (b0.mono hB)) (h2.below (b0.mono hB2)) hx hz hn
  have r1 := cell_kept q1 b0
  have r2 := cell_kept q2 b0
  have hneg : decide (0 ≤ cmpTo xs ys n) = decide (cmpTo ys xs n ≤ 0) := by
    rw [cmpTo_neg xs ys n, decide_eq_decide]
    omega
  rw [hneg]
  obtain ⟨u, hu⟩ : ∃ u, cmpTo ys xs n = u := ⟨_, rfl⟩
  obtain ⟨v, hv⟩ : ∃ v, cmpTo xs zs n = v := ⟨_, rfl⟩
  rw [hu] at k1
  rw [hv] at k2
  rw [hu, hv]
  have K1 := Lib.hid k1
  have K2 := Lib.hid k2
  have B0 := Lib.hid b0
  clear k1 k2 b0 h h1 h2 hx hy hz hu hv hneg q1 q2
  by_cases hu0 : u ≤ 0
  · go_enter Tryd.func58, Tryd.ntmps58
    go_wp2_with fail
    refine K1.out.mono ?_
    rintro e w' ⟨rfl, rfl⟩
    go_wp2_with fail
    refine K2.out.mono ?_
    rintro e w' ⟨rfl, rfl⟩
    go_wp2
    go_ret
    exact ⟨by simp [hu0], B0.out⟩
  · go_enter Tryd.func58, Tryd.ntmps58
    go_wp2_with fail
    refine K1.out.mono ?_
    rintro e w' ⟨rfl, rfl⟩
    go_wp2
    go_ret
    exact ⟨by rw [decide_eq_false (show ¬ u ≤ 0 by omega)]; rfl, B0.out⟩

theorem entriesU_any (A : Option Addr) (c : Nat) (D : List CardV) (B : Nat) (a b : Int) (w : World) (h : Deck w B A D) (hB : B ≤ w.heap.size) (hn : D.length ≤ 1048576) (hl : ∀ d ∈ D, d.xs.length ≤ 1048576) (hcap : CapsOk D) (hP : Places w) :
    Calls Tryd.prog 54 #[.slice A D.length c, .agg #[.int .i64 a, .int .i64 b]] w fun e w' => ∃ A' nn cap, e = .returned (.tuple #[.slice A' nn cap, .int .i64 (keysC (holes D) a b)]) ∧ Below w.heap.size w w' ∧ (keysC (holes D) a b = 0 → ∃ g E K, A' = some ⟨g, 0, none⟩ ∧ D.length = nn ∧ D.length = cap ∧ CapsOk E ∧ EntsOf D a.toNat b.toNat D.length E K ∧ Ents w' w.heap.size g E K D.length) := by
  refine (entriesOf_any A c D B a b w h hB hn hl hcap hP).mono ?_
  rintro e w' (⟨h1, rfl, hb⟩ | ⟨h0, g, E, K, rfl, hb, hE, hC, hK, hEn⟩)
  · exact ⟨none, 0, 0, rfl, hb, fun h => absurd h h1⟩
  · refine ⟨_, _, _, by rw [h0], hb, fun _ => ⟨g, E, K, rfl, rfl, rfl, hC, ?_, hEn⟩⟩
    obtain ⟨i, j, rfl, rfl, hij, hj, hv, hkb⟩ := keysC_zero h0
    rw [Int.toNat_natCast, Int.toNat_natCast] at *
    exact ⟨rfl, hE, hK, hv, hkb, hij, hj⟩
theorem keyTextU_any (s : ByteArray) (hs : s.size ≤ 1048576) (a b : Int) (w : World) (hP : Places w) :
    Calls Tryd.prog 55 #[.string s, .agg #[.int .i64 a, .int .i64 b]] w fun e w' => ∃ A' nn cap, e = .returned (.tuple #[.slice A' nn cap, .int .i64 (textC s (IntKind.i64.wrap (b - a)))]) ∧ Below w.heap.size w w' ∧ (textC s (IntKind.i64.wrap (b - a)) = 0 → ∃ g, A' = some ⟨g, 0, none⟩ ∧ nn = s.size ∧ cap = s.size ∧ Row w' g ((textCodes s).map rkI) []) := by
  refine (keyOfText_any s hs a b w hP).mono ?_
  rintro e w' (⟨h1, rfl, hb⟩ | ⟨h0, g, rfl, _, hb, hr⟩)
  · exact ⟨none, 0, 0, rfl, hb, fun h => absurd h h1⟩
  · exact ⟨_, _, _, by rw [h0], hb, fun _ => ⟨g, rfl, rfl, rfl, hr⟩⟩

theorem firstC_mem {L : List Int} (h : firstC L = 0) {x : Int} (hx : x ∈ L) : x ≠ 1 ∧ x ≠ 2 ∧ x ≠ 7 ∧ x ≠ 8 := by
  unfold firstC at h
  by_cases h1 : 1 ∈ L
  · rw [if_pos h1] at h; exact absurd h (by decide)
  rw [if_neg h1] at h
  by_cases h2 : 2 ∈ L
  · rw [if_pos h2] at h; exact absurd h (by decide)
  rw [if_neg h2] at h
  by_cases h7 : 7 ∈ L
  · rw [if_pos h7] at h; exact absurd h (by decide)
  rw [if_neg h7] at h
  by_cases h8 : 8 ∈ L
  · rw [if_pos h8] at h; exact absurd h (by decide)
  exact ⟨fun e => h1 (e ▸ hx), fun e => h2 (e ▸ hx), fun e => h7 (e ▸ hx), fun e => h8 (e ▸ hx)⟩
theorem ask_zero {H : List (List Int)} {a b : Int} {T : List ByteArray} (h : askC H a b T = 0) : keysC H a b = 0 ∧ ∀ s ∈ T, textC s (IntKind.i64.wrap (b - a)) = 0 := by
  unfold askC at h
  refine ⟨?_, fun s hs => ?_⟩
  · have := firstC_mem h (List.mem_cons_self)
    rcases keysC_vals H a b with e | e | e | e <;> omega
  · have := firstC_mem h (List.mem_cons_of_mem _ (List.mem_map_of_mem hs))
    rcases textC_vals s (IntKind.i64.wrap (b - a)) with e | e | e <;> omega
/-- what is known of a text for a field -/
theorem text_zero {s : ByteArray} {i j : Nat} (hij : i < j) (hj : j ≤ 20) (h : textC s (IntKind.i64.wrap ((j : Int) - (i : Int))) = 0) : s.size = j - i ∧ legalT s = true ∧ (textCodes s).length = j - i ∧ textOk (textCodes s) = true ∧ textS (textCodes s) = s := by
  have hw : IntKind.i64.wrap ((j : Int) - (i : Int)) = (j : Int) - (i : Int) := IntWalk.i64_in _ (by omega)
  rw [hw] at h
  unfold textC at h
  by_cases h1 : (s.size : Int) ≠ (j : Int) - (i : Int)
  · rw [if_pos h1] at h; exact absurd h (by decide)
  · rw [if_neg h1] at h
    cases hl : legalT s with
    | false => rw [hl] at h; exact absurd h (by decide)
    | true =>
      obtain ⟨y1, y2⟩ := text_back hl
      exact ⟨by omega, rfl, by rw [textCodes_length]; omega, y1, y2⟩
theorem betA_facts {H : List (List Int)} {a b : Int} {s t : ByteArray} (h : askC H a b [s, t] = 0) : ∃ i j : Nat, a = i ∧ b = j ∧ i < j ∧ j ≤ widthH H ∧ j ≤ 20 ∧ deckB H = true ∧ keysB H i j = true ∧ betA H a b s t = cardsPl (betQ H i j (textCodes s) (textCodes t)) H H.length ∧
    (s.size = j - i ∧ legalT s = true ∧ (textCodes s).length = j - i ∧ textOk (textCodes s) = true ∧ textS (textCodes s) = s) ∧ (t.size = j - i ∧ legalT t = true ∧ (textCodes t).length = j - i ∧ textOk (textCodes t) = true ∧ textS (textCodes t) = t) := by
  obtain ⟨h1, h2⟩ := ask_zero h
  have hf := h1
  unfold keysC at hf
  obtain ⟨i, j, rfl, rfl, hij, hj, hv, hkb⟩ := keysC_zero h1
  have h20 : j ≤ 20 := by
    rcases keysC_cases H (i : Int) (j : Int) with ⟨e, _⟩ | ⟨e, _⟩ | ⟨_, _, _, _, _, hjw, _, _⟩
    · rw [e] at h1; exact absurd h1 (by decide)
    · rw [e] at h1; exact absurd h1 (by decide)
    · by_cases h0 : H.length = 0
      · have : widthH H = 20 := by simp [widthH, h0]
        omega
      · have hx : H[0]? = some (H[0]'(by omega)) := List.getElem?_eq_getElem _
        obtain ⟨y1, y2⟩ := deck_width hv hx
        have := (okB_parts y1).2
        omega
  refine ⟨i, j, rfl, rfl, hij, hj, h20, hv, hkb, ?_, text_zero hij h20 (h2 s (by simp)), text_zero hij h20 (h2 t (by simp))⟩
  unfold betA
  rw [if_pos h, Int.toNat_natCast, Int.toNat_natCast]

section
variable (A : Option Addr) (c : Nat) (D : List CardV) (B : Nat) (a b : Int) (w : World) (h : Deck w B A D) (hB : B ≤ w.heap.size) (hn : D.length ≤ 1048576) (hl : ∀ d ∈ D, d.xs.length ≤ 1048576)
include h hB hn hl
set_option maxRecDepth 100000 in
set_option maxHeartbeats 4000000 in
theorem implBetween_any (hcap : CapsOk D) (hP : Places w) (s t : ByteArray) (hs : s.size ≤ 1048576) (ht : t.size ≤ 1048576) :
    Calls Tryd.prog 21 #[.slice A D.length c, .agg #[.int .i64 a, .int .i64 b], .string s, .string t] w (GivesDC (betA (holes D) a b s t) (askC (holes D) a b [s, t]) w) := by
  have b0 := below_box w (.cells #[.int .i64 a, .int .i64 b] 26)
  have hk := entriesU_any A c D B a b (w.alloc (.cells #[.int .i64 a, .int .i64 b] 26)) (h.below (b0.mono hB)) (by simp; omega) hn hl hcap (hP.below b0)
  have p0 : (w.alloc (.cells #[.int .i64 a, .int .i64 b] 26)).cell? ⟨w.heap.size, 0, none⟩ = some (.int .i64 a) := by simp
  have p1 : (w.alloc (.cells #[.int .i64 a, .int .i64 b] 26)).cell? ⟨w.heap.size, 1, none⟩ = some (.int .i64 b) := by simp
  have hks := fun W (hW : Below w.heap.size w W) => keyTextU_any s hs a b W (hP.below hW)
  have hkt := fun W (hW : Below w.heap.size w W) => keyTextU_any t ht a b W (hP.below hW)
  have hfacts := fun (h0 : askC (holes D) a b [s, t] = 0) => And.intro (betA_facts h0) (ask_zero h0)
  have hnil : askC (holes D) a b [s, t] ≠ 0 → betA (holes D) a b s t = [] := fun h0 => by
    unfold betA
    rw [if_neg h0]
  have hsz0 : w.heap.size ≤ (w.alloc (.cells #[.int .i64 a, .int .i64 b] 26)).heap.size := b0.size
  have hfe : askC (holes D) a b [s, t] = firstC [keysC (holes D) a b, textC s (IntKind.i64.wrap (b - a)), textC t (IntKind.i64.wrap (b - a))] := rfl
  obtain ⟨k, hk0⟩ : ∃ k, keysC (holes D) a b = k := ⟨_, rfl⟩
  obtain ⟨cs, hcs⟩ : ∃ x, textC s (IntKind.i64.wrap (b - a)) = x := ⟨_, rfl⟩
  obtain ⟨ct, hct⟩ : ∃ x, textC t (IntKind.i64.wrap (b - a)) = x := ⟨_, rfl⟩
  obtain ⟨r, hr⟩ : ∃ r, askC (holes D) a b [s, t] = r := ⟨_, rfl⟩
  obtain ⟨X, hX⟩ : ∃ X, betA (holes D) a b s t = X := ⟨_, rfl⟩
  rw [hr, hk0, hcs, hct] at hfe
  simp only [hcs] at hks
  simp only [hct] at hkt
  simp only [hr, hk0, hX] at hfacts
  rw [hr, hX] at hnil
  have hzs : (r = 0 → cs = 0 ∧ ct = 0) := fun h0 => by
    obtain ⟨_, _, h3⟩ := hfacts h0
    exact ⟨by rw [← hcs]; exact h3 s (by simp), by rw [← hct]; exact h3 t (by simp)⟩
  rw [hr, hX]
  rw [hk0] at hk
  obtain ⟨n, hN⟩ : ∃ n, D.length = n := ⟨_, rfl⟩
  rw [hN] at hk ⊢
  have HK := Lib.hid hk
  have HKS := Lib.hid hks
  have HKT := Lib.hid hkt
  have HF := Lib.hid hfacts
  have HNIL := Lib.hid hnil
  have HZS := Lib.hid hzs
  have HFE := Lib.hid hfe
  have BW := Lib.hid b0
  have HN := Lib.hid hN
  clear hk hks hkt hfacts hnil hfe hzs hr hX hcs hct hk0 b0 h hl hcap hP hN
  go_enter Tryd.func21, Tryd.ntmps21
  go_wp2_with fail
  refine HK.out.mono ?_
  rintro e w1 ⟨A1, n1, c1, rfl, hb1, h1⟩
  have B1 := Lib.hid (below_step BW.out hb1)
  have q0 := cell_kept p0 hb1
  have q1 := cell_kept p1 hb1
  have H1 := Lib.hid h1
  have hs1 := hb1.size
  clear hb1 h1 p0 p1 HK
  go_wp2_with fail
  refine (HKS.out w1 B1.out).mono ?_
  rintro e w2 ⟨A2, n2, c2, rfl, hb2, h2⟩
  have L2 := Lib.hid (hb2.trans ((below_box w2 (.cells #[.slice A2 n2 c2] 34)).mono hb2.size))
  have B2 := Lib.hid (below_step B1.out L2.out)
  have x0 : (w2.alloc (.cells #[.slice A2 n2 c2] 34)).cell? ⟨w.heap.size, 0, none⟩ = some (.int .i64 a) := cell_kept q0 L2.out
  have x1 : (w2.alloc (.cells #[.slice A2 n2 c2] 34)).cell? ⟨w.heap.size, 1, none⟩ = some (.int .i64 b) := cell_kept q1 L2.out
  have y2 : (w2.alloc (.cells #[.slice A2 n2 c2] 34)).cell? ⟨w2.heap.size, 0, none⟩ = some (.slice A2 n2 c2) := by simp
  have H2 := Lib.hid h2
  have M2 := Lib.hid (below_box w2 (.cells #[.slice A2 n2 c2] 34))
  clear hb2 h2 q0 q1
  go_wp2_with fail
  refine (HKT.out _ B2.out).mono ?_
  rintro e w3 ⟨A3, n3, c3, rfl, hb3, h3⟩
  have L3 := Lib.hid (hb3.trans ((below_box w3 (.cells #[.slice A3 n3 c3] 34)).mono hb3.size))
  have y2' := cell_kept y2 L3.out
  have y3 : (w3.alloc (.cells #[.slice A3 n3 c3] 34)).cell? ⟨w3.heap.size, 0, none⟩ = some (.slice A3 n3 c3) := by simp
  have M3 := Lib.hid (below_box w3 (.cells #[.slice A3 n3 c3] 34))
  have H3 := Lib.hid h3
  clear hb3 h3 x0 x1 y2
  have hfe := firstError_any (some ⟨w3.heap.size + 1, 0, none⟩) 3 [k, cs, ct] (w3.heap.size + 2) ((w3.alloc (.cells #[.slice A3 n3 c3] 34)).alloc (.cells #[.int .i64 k, .int .i64 cs, .int .i64 ct] 2)) (fun _ => ⟨w3.heap.size + 1, 0, rfl, by omega, fun x hx => by
    match x, hx with
    | 0, _ => simp [go_sem]
    | 1, _ => simp [go_sem]
    | 2, _ => simp [go_sem]
    | x + 3, hx => exact absurd (show x + 3 < 3 from hx) (by omega)⟩) (by simp) (by simp)
  rw [← HFE.out] at hfe
  have HFC := Lib.hid hfe
  have B4 := Lib.hid (below_box (w3.alloc (.cells #[.slice A3 n3 c3] 34)) (.cells #[.int .i64 k, .int .i64 cs, .int .i64 ct] 2))
  have z2 := cell_kept y2' B4.out
  have z3 := cell_kept y3 B4.out
  clear hfe y2' y3
  go_wp2_with fail
  refine HFC.out.mono ?_
  rintro e w5 ⟨rfl, hb5⟩
  have v2 := cell_kept z2 hb5
  have v3 := cell_kept z3 hb5
  have L5 := Lib.hid (below_step B4.out hb5)
  have B5 := Lib.hid (below_step B2.out (below_step L3.out L5.out))
  clear hb5 z2 z3 HFC B4
  by_cases hr0 : r = 0
  · obtain ⟨⟨i, j, rfl, rfl, hij, hj, h20, hv, hkb, hX, hS, hT⟩, hk0, _⟩ := HF.out hr0
    obtain ⟨g, E, K, rfl, rfl, rfl, hCE, hEO, hEn⟩ := H1.out hk0
    obtain ⟨g2, rfl, rfl, rfl, hr2⟩ := H2.out (HZS.out hr0).1
    obtain ⟨g3, rfl, rfl, rfl, hr3⟩ := H3.out (HZS.out hr0).2
    rw [Int.toNat_natCast, Int.toNat_natCast] at hEO
    have hEn5 := hEn.later (below_step L2.out (below_step L3.out L5.out))
    have row2 := hr2.later (below_step M2.out (below_step L3.out L5.out))
    have row3 := hr3.later (below_step M3.out L5.out)
    have hg0 : (w.alloc (.cells #[.int .i64 (i : Int), .int .i64 (j : Int)] 26)).heap.size ≤ w5.heap.size := Nat.le_trans hs1 (Nat.le_trans L2.out.size (Nat.le_trans L3.out.size L5.out.size))
    have hcw := cardsBet_any w2.heap.size w3.heap.size (betQ (holes D) i j (textCodes s) (textCodes t)) hEO hEn5 hg0 (fun k e p W hk he hp hW => by
      obtain ⟨d, e', p', hd, he', hp', x1, x2, x3, x4, x5, x6, x7⟩ := hEO.at_ hk
      obtain rfl : e = e' := Option.some.inj (he.symm.trans he')
      obtain rfl : p = p' := Option.some.inj (hp.symm.trans hp')
      obtain ⟨gp, exp, e1, rp⟩ := hEn5.keys p (List.mem_of_getElem? hp)
      have ip := (rp.later hW).ints
      rw [x2] at ip
      have i2 := (row2.later hW).ints
      have i3 := (row3.later hW).ints
      have l1 := (rp.later hW).lt
      have l2 := (row2.later hW).lt
      have l3 := (row3.later hW).lt
      have hpl : p.xs.length = j - i := by rw [x2, List.length_map, x3]
      have key := selKeep_any e.at_ (some ⟨gp, 0, none⟩) e.xs.length e.cap p.cap w2.heap.size w3.heap.size (some ⟨g2, 0, none⟩) (some ⟨g3, 0, none⟩) s.size t.size (partOf d.xs i j) (textCodes s) (textCodes t) (j - i) _ _ _ W ip i2 i3 (by omega) (by omega) (by omega) x3 hS.2.2.1 hT.2.2.1 (by omega) (by rw [← hS.1]; exact cell_kept v2 hW) (by rw [← hT.1]; exact cell_kept v3 hW)
      have hb : betQ (holes D) i j (textCodes s) (textCodes t) k = (decide (0 ≤ cmpTo (partOf d.xs i j) (textCodes s) (j - i)) && decide (cmpTo (partOf d.xs i j) (textCodes t) (j - i) ≤ 0)) := by
        unfold betQ
        rw [holes_at hd]
        rfl
      rw [hb]
      unfold CardV.value
      rw [e1, hpl]
      exact key)
    have HCW := Lib.hid hcw
    have hfin : holes (cardsE (betQ (holes D) i j (textCodes s) (textCodes t)) E n) = X := by
      rw [cardsE_holes _ _ _ (by rw [hEO.lenE]; omega), hEO.hE, hX, holes_len, HN.out]
    obtain ⟨Y, hY⟩ : ∃ Y, cardsE (betQ (holes D) i j (textCodes s) (textCodes t)) E n = Y := ⟨_, rfl⟩
    unfold GivesSel at HCW
    rw [hY] at HCW hfin
    have HFIN := Lib.hid hfin
    have hlen : X.length = Y.length := by rw [← hfin, holes_len]
    have HLEN := Lib.hid hlen
    subst hr0
    clear hcw hfin hlen hY hX hS hT row2 row3 hr2 hr3 hEn hEn5 hEO hCE hv hkb v2 v3 H1 H2 H3 HF HNIL HZS
    go_wp2_with fail
    refine HCW.out.mono ?_
    rintro e w6 ⟨A9, c9, rfl, hb6, hda⟩
    have B6 := Lib.hid (below_step B5.out hb6)
    have HDA := Lib.hid (hda.widen hsz0 (Nat.le_refl _) (Nat.le_refl _))
    clear hb6 hda HCW
    go_wp2
    go_ret2
    exact ⟨A9, c9, Y, by rw [HLEN.out]; rfl, HFIN.out, B6.out, HDA.out⟩
  · have hr1 : (r != 0) = true := by simpa using hr0
    have hX := HNIL.out hr0
    subst hX
    go_wp2
    go_ret2
    exact ⟨none, 0, [], rfl, rfl, B5.out, DeckAt.nil (Nat.le_refl _)⟩
end

theorem ask_two (H : List (List Int)) (a b : Int) (s : ByteArray) : askC H a b [s, s] = askC H a b [s] := by
  unfold askC firstC
  simp only [List.map_cons, List.map_nil, List.mem_cons, List.not_mem_nil, or_false, or_self]
theorem bet_two (H : List (List Int)) (a b : Int) (s : ByteArray) : betA H a b s s = eqA H a b s := by
  unfold betA eqA
  rw [ask_two]
section
variable (A : Option Addr) (c : Nat) (D : List CardV) (B : Nat) (a b : Int) (w : World) (h : Deck w B A D) (hB : B ≤ w.heap.size) (hn : D.length ≤ 1048576) (hl : ∀ d ∈ D, d.xs.length ≤ 1048576)
include h hB hn hl
theorem implEqual_any (hcap : CapsOk D) (hP : Places w) (s : ByteArray) (hs : s.size ≤ 1048576) :
    Calls Tryd.prog 20 #[.slice A D.length c, .agg #[.int .i64 a, .int .i64 b], .string s] w (GivesDC (eqA (holes D) a b s) (askC (holes D) a b [s]) w) := by
  have b0 := below_box w (.cells #[.int .i64 a, .int .i64 b] 26)
  have hk := implBetween_any A c D B a b _ (h.below (b0.mono hB)) (by simp; omega) hn hl hcap (hP.below b0) s s hs hs
  rw [ask_two, bet_two] at hk
  have hsz0 : w.heap.size ≤ (w.alloc (.cells #[.int .i64 a, .int .i64 b] 26)).heap.size := b0.size
  have BW := Lib.hid b0
  obtain ⟨L, hL⟩ : ∃ L, eqA (holes D) a b s = L := ⟨_, rfl⟩
  obtain ⟨k, hk0⟩ : ∃ k, askC (holes D) a b [s] = k := ⟨_, rfl⟩
  obtain ⟨n, hN⟩ : ∃ n, D.length = n := ⟨_, rfl⟩
  rw [hL, hk0, hN] at hk
  rw [hL, hk0, hN]
  have HK := Lib.hid hk
  clear hk h hl hcap b0 hP hL hk0 hN hn
  go_enter Tryd.func20, Tryd.ntmps20
  go_wp2_with fail
  refine HK.out.mono ?_
  rintro e w1 ⟨A1, c1, E, rfl, hE, hb, hi⟩
  have B1 := Lib.hid (below_step BW.out hb)
  have HI := Lib.hid (hi.widen hsz0 (Nat.le_refl _) (Nat.le_refl _))
  have HE := Lib.hid hE
  clear hb hi HK hE
  go_wp2
  go_ret2
  exact ⟨A1, c1, E, rfl, HE.out, B1.out, HI.out⟩
end
end Go.Proofs.YtdakbbgbglgioaaDoor

/- impl.entriesOfBoth and impl.MergeDecks: contracts. -/
namespace Go.Proofs.YtdakbbgbglgioaaDoor
open Go.ChangeShapes Go.WideShapes Go.ChangeAt Go.RowKit

theorem NewRows.lower {w : World} {lo lo' : Nat} {E : List CardV} (h : NewRows w lo E) (hl : lo' ≤ lo) : NewRows w lo' E :=
  ⟨fun e he => by obtain ⟨ge, ex, h1, h2, h3⟩ := h.each e he; exact ⟨ge, ex, h1, by omega, h3⟩, h.apart⟩
theorem NewRows.perm {w : World} {lo : Nat} {E F : List CardV} (h : NewRows w lo E) (hp : F.Perm E) : NewRows w lo F :=
  ⟨fun e he => h.each e (hp.subset he), (hp.symm.pairwise_iff (fun hxy => fun e => hxy e.symm)).1 h.apart⟩
theorem NewRows.both {w w' : World} {lo : Nat} {E F : List CardV} (h : NewRows w lo E) (hb : Below w.heap.size w w') (hF : NewRows w' w.heap.size F) (hl : lo ≤ w.heap.size) : NewRows w' lo (E ++ F) := by
  refine ⟨fun e he => ?_, ?_⟩
  · rcases List.mem_append.1 he with he | he
    · exact (h.later hb).each e he
    · exact (hF.lower hl).each e he
  · rw [List.pairwise_append]
    refine ⟨h.apart, hF.apart, fun x hx y hy => ?_⟩
    obtain ⟨gx, _, a1, _, a3⟩ := h.each x hx
    obtain ⟨gy, _, b1, b2, _⟩ := hF.each y hy
    rw [a1, b1]
    intro e
    have e1 : gx = gy := by simpa using e
    have := a3.lt
    omega

/-- the entries of two decks -/
def GivesBoth (D D' : List CardV) (a b : Int) (n m : Nat) (w : World) (e : Ending) (w' : World) : Prop :=
  ∃ A1 n1 c1 A2 n2 c2, e = .returned (.tuple #[.slice A1 n1 c1, .slice A2 n2 c2, .int .i64 (twoC (holes D) (holes D') a b)]) ∧ Below w.heap.size w w' ∧
    (twoC (holes D) (holes D') a b = 0 → ∃ lo lo' g E K g' E' K', A1 = some ⟨g, 0, none⟩ ∧ n = n1 ∧ n = c1 ∧ A2 = some ⟨g', 0, none⟩ ∧ m = n2 ∧ m = c2 ∧ CapsOk E ∧ CapsOk E' ∧ EntsOf D a.toNat b.toNat n E K ∧ Ents w' lo g E K n ∧ EntsOf D' a.toNat b.toNat m E' K' ∧ Ents w' lo' g' E' K' m ∧ NewRows w' w.heap.size (E ++ E'))

section
variable (A A' : Option Addr) (c c' : Nat) (D D' : List CardV) (B B' : Nat) (a b : Int) (w : World) (h : Deck w B A D) (h' : Deck w B' A' D') (hB : B ≤ w.heap.size) (hB' : B' ≤ w.heap.size) (hn : D.length ≤ 1048576) (hn' : D'.length ≤ 1048576) (hl : ∀ d ∈ D, d.xs.length ≤ 1048576) (hl' : ∀ d ∈ D', d.xs.length ≤ 1048576)
include h h' hB hB' hn hn' hl hl'
set_option maxRecDepth 100000 in
set_option maxHeartbeats 2000000 in
theorem both_any (hcap : CapsOk D) (hcap' : CapsOk D') (hP : Places w) :
    Calls Tryd.prog 35 #[.slice A D.length c, .slice A' D'.length c', .agg #[.int .i64 a, .int .i64 b]] w (GivesBoth D D' a b D.length D'.length w) := by
  have b0 := below_box w (.cells #[.int .i64 a, .int .i64 b] 26)
  have hk := entriesU_any A c D B a b (w.alloc (.cells #[.int .i64 a, .int .i64 b] 26)) (h.below (b0.mono hB)) (by simp; omega) hn hl hcap (hP.below b0)
  have hk' := fun W (hW : Below w.heap.size w W) => entriesU_any A' c' D' B' a b W (h'.below (hW.mono hB')) (Nat.le_trans hB' hW.size) hn' hl' hcap' (hP.below hW)
  have p0 : (w.alloc (.cells #[.int .i64 a, .int .i64 b] 26)).cell? ⟨w.heap.size, 0, none⟩ = some (.int .i64 a) := by simp
  have p1 : (w.alloc (.cells #[.int .i64 a, .int .i64 b] 26)).cell? ⟨w.heap.size, 1, none⟩ = some (.int .i64 b) := by simp
  have hfe : twoC (holes D) (holes D') a b = firstC [keysC (holes D) a b, keysC (holes D') a b] := rfl
  have hz := fun (h0 : twoC (holes D) (holes D') a b = 0) => two_zero h0
  have hsz0 : w.heap.size ≤ (w.alloc (.cells #[.int .i64 a, .int .i64 b] 26)).heap.size := b0.size
  unfold GivesBoth
  obtain ⟨k, hk0⟩ : ∃ k, keysC (holes D) a b = k := ⟨_, rfl⟩
  obtain ⟨k', hk0'⟩ : ∃ k, keysC (holes D') a b = k := ⟨_, rfl⟩
  obtain ⟨r, hr⟩ : ∃ r, twoC (holes D) (holes D') a b = r := ⟨_, rfl⟩
  rw [hr, hk0, hk0'] at hfe
  rw [hr, hk0, hk0'] at hz
  rw [hk0] at hk
  simp only [hk0'] at hk'
  rw [hr]
  obtain ⟨n, hN⟩ : ∃ n, D.length = n := ⟨_, rfl⟩
  obtain ⟨m, hM⟩ : ∃ n, D'.length = n := ⟨_, rfl⟩
  rw [hN] at hk ⊢
  simp only [hM] at hk' ⊢
  obtain ⟨i, hi⟩ : ∃ i, a.toNat = i := ⟨_, rfl⟩
  obtain ⟨j, hj⟩ : ∃ j, b.toNat = j := ⟨_, rfl⟩
  rw [hi, hj] at hk ⊢
  simp only [hi, hj] at hk'
  have HK := Lib.hid hk
  have HK' := Lib.hid hk'
  have HFE := Lib.hid hfe
  have HZ := Lib.hid hz
  have BW := Lib.hid b0
  clear hk hk' hfe hz hr hk0 hk0' b0 h h' hl hl' hcap hcap' hP hN hM hn hn' hi hj
  go_enter Tryd.func35, Tryd.ntmps35
  go_wp2_with fail
  refine HK.out.mono ?_
  rintro e w1 ⟨A1, n1, c1, rfl, hb1, h1⟩
  have B1 := Lib.hid (below_step BW.out hb1)
  have q0 := cell_kept p0 hb1
  have q1 := cell_kept p1 hb1
  have H1 := Lib.hid h1
  have HS1 := Lib.hid hb1.size
  clear hb1 h1 p0 p1 HK
  go_wp2_with fail
  refine (HK'.out w1 B1.out).mono ?_
  rintro e w2 ⟨A2, n2, c2, rfl, hb2, h2⟩
  have L2 := Lib.hid hb2
  have B2 := Lib.hid (below_step B1.out hb2)
  have H2 := Lib.hid h2
  clear hb2 h2 q0 q1
  have hfe := firstError_any (some ⟨w2.heap.size, 0, none⟩) 2 [k, k'] (w2.heap.size + 1) (w2.alloc (.cells #[.int .i64 k, .int .i64 k'] 2)) (fun _ => ⟨w2.heap.size, 0, rfl, by omega, fun x hx => by
    match x, hx with
    | 0, _ => simp [go_sem]
    | 1, _ => simp [go_sem]
    | x + 2, hx => exact absurd (show x + 2 < 2 from hx) (by omega)⟩) (by simp) (by simp)
  rw [← HFE.out] at hfe
  have HFC := Lib.hid hfe
  have B4 := Lib.hid (below_box w2 (.cells #[.int .i64 k, .int .i64 k'] 2))
  clear hfe
  go_wp2_with fail
  refine HFC.out.mono ?_
  rintro e w5 ⟨rfl, hb5⟩
  have L5 := Lib.hid (below_step B4.out hb5)
  have B5 := Lib.hid (below_step B2.out L5.out)
  clear hb5 HFC B4
  go_wp2
  go_ret3
  refine ⟨A1, n1, c1, A2, n2, c2, rfl, B5.out, fun h0 => ?_⟩
  obtain ⟨z1, z2⟩ := HZ.out h0
  obtain ⟨g, E, K, y1, y2, y3, y4, y5, y6⟩ := H1.out z1
  obtain ⟨g', E', K', x1, x2, x3, x4, x5, x6⟩ := H2.out z2
  have l1 := y6.later (below_step L2.out L5.out)
  have l2 := x6.later L5.out
  refine ⟨_, _, g, E, K, g', E', K', y1, y2, y3, x1, x2, x3, y4, x4, y5, l1, x5, l2, ?_⟩
  have hs1 := B1.out.size
  have hsw : (w.alloc (.cells #[.int .i64 a, .int .i64 b] 26)).heap.size ≤ w1.heap.size := HS1.out
  exact ((y6.cards.both L2.out x6.cards hsw).later L5.out).lower hsz0
end
end Go.Proofs.YtdakbbgbglgioaaDoor

/- impl.MergeDecks: a contract. -/
namespace Go.Proofs.YtdakbbgbglgioaaDoor
open Go.ChangeShapes Go.WideShapes Go.ChangeAt Go.RowKit

theorem wid_20 {H : List (List Int)} (hv : deckB H = true) : widthH H ≤ 20 := by
  unfold widthH
  split
  · exact Nat.le_refl _
  · rename_i h0
    obtain ⟨x, hx⟩ : ∃ x, H[0]? = some x := ⟨H[0]'(by omega), List.getElem?_eq_getElem _⟩
    have := (okB_parts (deck_width hv hx).1).2
    simpa [firstZ, hx] using this
/-- what the answers of a merge are, by cases -/
def MergeF (H G : List (List Int)) (a b : Int) (r : Int) (cl : Bool) (s1 s2 : Int) (X : List (List Int)) (Z : Int) : Prop :=
  (r ≠ 0 → Z = r ∧ X = []) ∧ (r = 0 → cl = true → Z = 9 ∧ X = []) ∧ (r = 0 → cl = false → ¬ (s1 < 0 ∧ s2 < 0) → Z = 6 ∧ X = []) ∧
  (r = 0 → cl = false → s1 < 0 → s2 < 0 → 40 < H.length + G.length → Z = 5 ∧ X = []) ∧ (r = 0 → cl = false → s1 < 0 → s2 < 0 → H.length + G.length ≤ 40 → Z = 0 ∧ mg a.toNat b.toNat H G = X)
theorem merge_f (H G : List (List Int)) (a b : Int) : MergeF H G a b (twoC H G a b) (clashB H G) (stepV H a.toNat b.toNat) (stepV G a.toNat b.toNat) (mergeA H G a b) (mergeC H G a b) := by
  unfold MergeF mergeA mergeC
  refine ⟨fun h => ?_, fun h hc => ?_, fun h hc hs => ?_, fun h hc h1 h2 hl => ?_, fun h hc h1 h2 hl => ?_⟩
  · rw [if_pos h, if_neg h]; exact ⟨rfl, rfl⟩
  · rw [if_neg (by simp [h]), if_pos hc]; exact ⟨rfl, rfl⟩
  · rw [if_neg (by simp [h]), if_neg (by simp [hc]), if_pos (by omega)]; exact ⟨rfl, rfl⟩
  · rw [if_neg (by simp [h]), if_neg (by simp [hc]), if_neg (by omega), if_pos hl]; exact ⟨rfl, rfl⟩
  · rw [if_neg (by simp [h]), if_neg (by simp [hc]), if_neg (by omega), if_neg (by omega)]; exact ⟨rfl, rfl⟩
theorem clash_f (H G : List (List Int)) : (H.length = 0 → clashB H G = false) ∧ (G.length = 0 → clashB H G = false) ∧ (0 < H.length → 0 < G.length → widthH H = widthH G → clashB H G = false) ∧ (0 < H.length → 0 < G.length → widthH H ≠ widthH G → clashB H G = true) := by
  unfold clashB
  refine ⟨fun h => ?_, fun h => ?_, fun h1 h2 h3 => ?_, fun h1 h2 h3 => ?_⟩
  · simp [h]
  · simp [h]
  · simp [h3]
  · simp [h1, h2, h3]
/-- a list of entries, as a slice -/
theorem own_eat2 {w : World} {base : Nat} {v : Value} {E K : List CardV} (h : w.ownsRow base 75 2 v E.length (enCells E K)) (hl : E.length = K.length) : ∃ A cap, v = .slice A E.length cap ∧ (0 < E.length → EAt w w.heap.size A E K) := by
  rcases own_eat h hl with ⟨rfl, rfl⟩ | ⟨A, cap, e, he⟩
  · exact ⟨none, 0, rfl, fun h => absurd h (by simp)⟩
  · exact ⟨A, cap, e, fun _ => he⟩
theorem EntsOf.ij20 {D E K : List CardV} {i j n : Nat} (h : EntsOf D i j n E K) : j - i ≤ 20 := by
  have := wid_20 h.ok
  have := h.le
  omega

section
variable (A A' : Option Addr) (c c' : Nat) (D D' : List CardV) (B B' : Nat) (a b : Int) (w : World) (h : Deck w B A D) (h' : Deck w B' A' D') (hB : B ≤ w.heap.size) (hB' : B' ≤ w.heap.size) (hn : D.length ≤ 1048576) (hn' : D'.length ≤ 1048576) (hl : ∀ d ∈ D, d.xs.length ≤ 1048576) (hl' : ∀ d ∈ D', d.xs.length ≤ 1048576)
include h h' hB hB' hn hn' hl hl'
set_option maxRecDepth 100000 in
set_option maxHeartbeats 4000000 in
theorem implMergeDecks_any (hcap : CapsOk D) (hcap' : CapsOk D') (hP : Places w) :
    Calls Tryd.prog 10 #[.slice A D.length c, .slice A' D'.length c', .agg #[.int .i64 a, .int .i64 b]] w (GivesDC (mergeA (holes D) (holes D') a b) (mergeC (holes D) (holes D') a b) w) := by
  obtain ⟨ic, hi0, hz0, hz1, hz2⟩ := info_parts info_card
  have b0 := below_box w (.cells #[.int .i64 a, .int .i64 b] 26)
  have hk := both_any A A' c c' D D' B B' a b (w.alloc (.cells #[.int .i64 a, .int .i64 b] 26)) (h.below (b0.mono hB)) (h'.below (b0.mono hB')) (by simp; omega) (by simp; omega) hn hn' hl hl' hcap hcap' (hP.below b0)
  have hw1 := fun W (hW : Below w.heap.size w W) => widthOf_any A c D B W (h.below (hW.mono hB)) hn hl
  have hw2 := fun W (hW : Below w.heap.size w W) => widthOf_any A' c' D' B' W (h'.below (hW.mono hB')) hn' hl'
  have hf := merge_f (holes D) (holes D') a b
  have hc := clash_f (holes D) (holes D')
  have hsz0 : w.heap.size ≤ (w.alloc (.cells #[.int .i64 a, .int .i64 b] 26)).heap.size := b0.size
  unfold GivesBoth at hk
  unfold MergeF at hf
  rw [holes_len, holes_len] at hf hc
  obtain ⟨r, hr⟩ : ∃ r, twoC (holes D) (holes D') a b = r := ⟨_, rfl⟩
  obtain ⟨cl, hcl⟩ : ∃ r, clashB (holes D) (holes D') = r := ⟨_, rfl⟩
  obtain ⟨x1, hx1⟩ : ∃ r, widthH (holes D) = r := ⟨_, rfl⟩
  obtain ⟨x2, hx2⟩ : ∃ r, widthH (holes D') = r := ⟨_, rfl⟩
  obtain ⟨X, hX⟩ : ∃ r, mergeA (holes D) (holes D') a b = r := ⟨_, rfl⟩
  obtain ⟨Z, hZ⟩ : ∃ r, mergeC (holes D) (holes D') a b = r := ⟨_, rfl⟩
  obtain ⟨n, hN⟩ : ∃ n, D.length = n := ⟨_, rfl⟩
  obtain ⟨m, hM⟩ : ∃ n, D'.length = n := ⟨_, rfl⟩
  rw [hr, hcl, hX, hZ, hN, hM] at hf
  rw [hcl, hx1, hx2, hN, hM] at hc
  rw [hr, hN, hM] at hk
  simp only [hx1, hN] at hw1
  simp only [hx2, hM] at hw2
  rw [hX, hZ, hN, hM]
  have HK := Lib.hid hk
  have HW1 := Lib.hid hw1
  have HW2 := Lib.hid hw2
  have HF := Lib.hid hf
  have HC := Lib.hid hc
  have BW := Lib.hid b0
  clear hk hw1 hw2 hf hc hr hcl hx1 hx2 hX hZ b0 h h' hl hl' hcap hcap' hP hN hM
  go_enter Tryd.func10, Tryd.ntmps10
  go_wp2_with fail
  refine HK.out.mono ?_
  rintro e w1 ⟨A1, n1, c1, A2, n2, c2, rfl, hb1, h1⟩
  have B1 := Lib.hid (below_step BW.out hb1)
  have L1 := Lib.hid hb1
  have H1 := Lib.hid h1
  clear hb1 h1 HK
  by_cases hr0 : r = 0
  case neg =>
    obtain ⟨z1, z2⟩ := HF.out.1 hr0
    subst z1 z2
    go_wp2
    go_ret2
    unfold GivesDC; exact ⟨none, 0, [], rfl, rfl, B1.out, DeckAt.nil (Nat.le_refl _)⟩
  subst hr0
  obtain ⟨lo, lo', g, E, K, g', E', K', rfl, rfl, rfl, rfl, rfl, rfl, hcE, hcE', hO, hE, hO', hE', hRR⟩ := H1.out rfl
  have HO := Lib.hid hO
  have HE := Lib.hid hE
  have HO' := Lib.hid hO'
  have HE' := Lib.hid hE'
  have HRR := Lib.hid (hRR.lower hsz0)
  have n40 := hO.n40
  have m40 := hO'.n40
  clear hO hE hO' hE' hRR H1 hcE hcE'
  go_upto_region 4 with fail
  go_cut [39] (fun s0 wx => s0 = .bool cl ∧ Below w1.heap.size w1 wx)
  case first =>
    by_cases hn0 : n = 0
    · have i0 : ¬ ((n : Int) > 0) := by omega
      have hz := HC.out.1 hn0
      subst hz
      have HZ0 := Lib.hid hn0
      clear hn0
      go_wp2
      go_meet
      exact ⟨rfl, Below.refl _ _⟩
    · have i0 : ((n : Int) > 0) := by omega
      by_cases hm0 : m = 0
      · have i1 : ¬ ((m : Int) > 0) := by omega
        have hz := HC.out.2.1 hm0
        subst hz
        have HZ0 := Lib.hid hm0
        clear hm0
        go_wp2
        go_meet
        exact ⟨rfl, Below.refl _ _⟩
      · have i1 : ((m : Int) > 0) := by omega
        go_wp2_with fail
        refine (HW1.out w1 B1.out).mono ?_
        rintro e w2 ⟨rfl, hb2⟩
        have L2 := Lib.hid hb2
        clear hb2
        go_wp2_with fail
        refine (HW2.out w2 (below_step B1.out L2.out)).mono ?_
        rintro e w3 ⟨rfl, hb3⟩
        have L3 := Lib.hid (below_step L2.out hb3)
        clear hb3
        by_cases hxx : x1 = x2
        · have hz := HC.out.2.2.1 (by omega) (by omega) hxx
          subst hz hxx
          go_wp2
          go_meet
          exact ⟨rfl, L3.out⟩
        · have hz := HC.out.2.2.2 (by omega) (by omega) hxx
          subst hz
          have HX := Lib.hid hxx
          clear hxx
          go_wp2
          go_meet
          exact ⟨by have := HX.out; rw [show ((x1 : Int) != (x2 : Int)) = true by simp; omega], L3.out⟩
  case rest =>
    obtain ⟨rfl, hb2⟩ := hcut
    rename World => w2
    have L2 := Lib.hid hb2
    clear hb2
    cases cl
    case true =>
      obtain ⟨z1, z2⟩ := HF.out.2.1 trivial rfl
      subst z1 z2
      go_wp2
      go_ret2
      unfold GivesDC; exact ⟨none, 0, [], rfl, rfl, below_step B1.out L2.out, DeckAt.nil (Nat.le_refl _)⟩
    have hq1 := fun W (hW : Below w1.heap.size w1 W) => inOrder_any (w := W) HO.out (HE.out.later hW)
    have hq2 := fun W (hW : Below w1.heap.size w1 W) => inOrder_any (w := W) HO'.out (HE'.out.later hW)
    obtain ⟨s1, hs1⟩ : ∃ s, stepV (holes D) a.toNat b.toNat = s := ⟨_, rfl⟩
    obtain ⟨s2, hs2⟩ : ∃ s, stepV (holes D') a.toNat b.toNat = s := ⟨_, rfl⟩
    simp only [hs1] at hq1
    simp only [hs2] at hq2
    rw [hs1, hs2] at HF
    have HQ1 := Lib.hid hq1
    have HQ2 := Lib.hid hq2
    clear hq1 hq2 hs1 hs2
    go_upto_region 6 with fail
    go_cut [47] (fun s0 wx => s0 = .bool (!(decide (s1 < 0) && decide (s2 < 0))) ∧ Below w1.heap.size w1 wx)
    case first =>
      go_wp2_with fail
      refine (HQ1.out w2 L2.out).mono ?_
      rintro e w3 ⟨rfl, hb3⟩
      have L3 := Lib.hid (below_step L2.out hb3)
      clear hb3
      by_cases h1 : s1 < 0
      · go_wp2_with fail
        refine (HQ2.out w3 L3.out).mono ?_
        rintro e w4 ⟨rfl, hb4⟩
        have L4 := Lib.hid (below_step L3.out hb4)
        clear hb4
        go_wp2
        go_meet
        exact ⟨by simp [h1], L4.out⟩
      · go_wp2
        go_meet
        exact ⟨by simp [h1], L3.out⟩
    case rest =>
      obtain ⟨rfl, hb3⟩ := hcut
      rename World => w3
      have L3 := Lib.hid hb3
      clear hb3 HQ1 HQ2
      by_cases hs : s1 < 0 ∧ s2 < 0
      case neg =>
        obtain ⟨z1, z2⟩ := HF.out.2.2.1 trivial rfl hs
        subst z1 z2
        have hsb : (!(decide (s1 < 0) && decide (s2 < 0))) = true := by
          rw [Bool.not_eq_true', Bool.and_eq_false_iff]
          simp only [decide_eq_false_iff_not]
          omega
        rw [hsb]
        go_wp2
        go_ret2
        unfold GivesDC; exact ⟨none, 0, [], rfl, rfl, below_step B1.out L3.out, DeckAt.nil (Nat.le_refl _)⟩
      have hsb : (!(decide (s1 < 0) && decide (s2 < 0))) = false := by simp [hs.1, hs.2]
      rw [hsb]
      by_cases h40 : 40 < n + m
      · obtain ⟨z1, z2⟩ := HF.out.2.2.2.1 trivial rfl hs.1 hs.2 h40
        subst z1 z2
        have i0 : (n : Int) + (m : Int) > 40 := by omega
        go_wp2
        go_ret2
        unfold GivesDC; exact ⟨none, 0, [], rfl, rfl, below_step B1.out L3.out, DeckAt.nil (Nat.le_refl _)⟩
      obtain ⟨z1, z2⟩ := HF.out.2.2.2.2 trivial rfl hs.1 hs.2 (by omega)
      subst z1
      have i0 : ¬ (n : Int) + (m : Int) > 40 := by omega
      have nm40 : n + m ≤ 40 := by omega
      have he1 := HE.out.later L3.out
      have he2 := HE'.out.later L3.out
      have hea1 := ents_at HO.out he1
      have hea2 := ents_at HO'.out he2
      have hmg := merge_any a.toNat b.toNat g 0 (some ⟨g', 0, none⟩) E K E' K' n m w3 hea1.1 hea2.1 hea1.2 hea2.2 HO.out.lenE HO'.out.lenE n40 m40 HO.out.ij20
      rw [HO.out.hE, HO'.out.hE, z2] at hmg
      have hrr := HRR.out.later L3.out
      have hEEl : (E ++ E').length = n + m := by rw [List.length_append, HO.out.lenE, HO'.out.lenE]
      have HMG := Lib.hid hmg
      have HR3 := Lib.hid hrr
      have HEL := Lib.hid hEEl
      have B3 := Lib.hid (below_step B1.out L3.out)
      clear he1 he2 hea1 hea2 hmg hrr z2 hEEl HF HC HW1 HW2
      go_wp2_with fail
      refine HMG.out.mono ?_
      rintro e w5 ⟨v, F, KF, rfl, hb5, hF, hperm, hlen, hrow⟩
      obtain ⟨AF, cF, hv, hEat⟩ := own_eat2 hrow hlen
      subst hv
      have B5 := Lib.hid (below_step B3.out hb5)
      have hfl : F.length = n + m := by rw [hperm.length_eq, HEL.out]
      have hnr := (HR3.out.later hb5).perm hperm
      have hsz5 : w.heap.size ≤ w5.heap.size := B5.out.size
      have hklen : KF.length = n + m := by rw [← hlen, hfl]
      rw [hfl] at hEat ⊢
      have HEA := Lib.hid hEat
      have HNR := Lib.hid hnr
      have HFX := Lib.hid hF
      have HFL := Lib.hid (And.intro hfl hklen)
      clear hb5 hF hperm hlen hrow hEat hnr HMG HR3 HEL hfl hklen
      go_wp2
      go_loopw [11, 58] (fun vo vi wr => ∃ t : Nat, ∃ vv : Value, t ≤ n + m ∧ vi = .int .i64 t ∧ vv = vo ∧ Hid (Below w5.heap.size w5 wr) ∧ Hid (wr.ownsRow w5.heap.size 36 1 vo (F.take t).length ((F.take t).map CardV.value))) (fun _ vi _ => n + m - (intOf vi).toNat)
      case atStart => exact ⟨0, _, Nat.zero_le _, rfl, rfl, Below.refl _ _, World.ownsRow_nil _ _ _ _⟩
      case round =>
        obtain ⟨t, vv, ht, rfl, rfl, HB, HR⟩ := hrel
        by_cases hlt : t < n + m
        · obtain ⟨bF, oF, rfl, hbF, hcell⟩ := HEA.out (by omega)
          obtain ⟨e, he⟩ : ∃ e, F[t]? = some e := ⟨F[t]'(by have := HFL.out.1; omega), List.getElem?_eq_getElem _⟩
          obtain ⟨q, hq⟩ : ∃ e, KF[t]? = some e := ⟨KF[t]'(by have := HFL.out.2; omega), List.getElem?_eq_getElem _⟩
          obtain ⟨c1, c2⟩ := hcell t e q he hq
          have c1 := cell_kept c1 HB.out
          have c2 := cell_kept c2 HB.out
          unfold CardV.value at c1 c2
          have hs : F.take (t + 1) = F.take t ++ [e] := by rw [List.take_add_one, he]; rfl
          have hlenX : (F.take t).length ≤ 40 := by have := List.length_take_le t F; omega
          obtain ⟨X0, hX0⟩ : ∃ X0, F.take t = X0 := ⟨_, rfl⟩
          have hrows : NewRows w5 w.heap.size (F.take (t + 1)) := ⟨fun x hx => HNR.out.each x (List.mem_of_mem_take hx), HNR.out.apart.sublist (List.take_sublist _ _)⟩
          rw [hs, hX0] at hrows
          rw [hX0] at HR hlenX hs
          have bx := below_box wr (.cells #[.slice e.at_ e.xs.length e.cap, .slice q.at_ q.xs.length q.cap] 75)
          have HBX := Lib.hid (below_step HB.out bx)
          have HRX : Hid ((wr.alloc (.cells #[.slice e.at_ e.xs.length e.cap, .slice q.at_ q.xs.length q.cap] 75)).ownsRow w5.heap.size 36 1 vv X0.length (X0.map CardV.value)) := HR.out.alloc _
          have HN3 := Lib.hid (hrows.later HBX.out)
          have HS := Lib.hid hs
          have t0 : (0 : Int) ≤ (t : Int) := Int.natCast_nonneg _
          have t1 : (t : Int) < (n : Int) + (m : Int) := by omega
          have hw3 : w5.heap.size ≤ (wr.alloc (.cells #[.slice e.at_ e.xs.length e.cap, .slice q.at_ q.xs.length q.cap] 75)).heap.size := HBX.out.size
          obtain ⟨le, hle⟩ : ∃ l, e.xs.length = l := ⟨_, rfl⟩
          obtain ⟨lq, hlq⟩ : ∃ l, q.xs.length = l := ⟨_, rfl⟩
          have HLE := Lib.hid hle
          rw [hle] at c1 HBX HRX HN3 hw3
          rw [hlq] at c2 HBX HRX HN3 hw3
          clear hs hX0 hrows bx hcell he hq hle hlq HR
          have hcn := card_news (wr.alloc (.cells #[.slice e.at_ le e.cap, .slice q.at_ lq q.cap] 75)) (.slice e.at_ le e.cap)
          rw [show (wr.alloc (.cells #[.slice e.at_ le e.cap, .slice q.at_ lq q.cap] 75)).heap.size = wr.heap.size + 1 by simp] at hcn
          have HCN := Lib.hid hcn
          clear hcn
          go_wp2_with (at_builtin; (refine wpList_append_own _ rfl _ _ 24 rfl w5.heap.size 36 ic (.agg #[.slice none 0 0]) 1 24 Tryd.underlying24 hi0 hz0 hz1 hz2 rfl (by decide) _ _ _ rfl (HRX.out.alloc _) ⟨wr.heap.size + 1, 0, none⟩ 1 1 [.slice e.at_ le e.cap] rfl rfl HCN.out ?c2 ?c3 ?c4 ?c5 ?_; rotate_left 4; intro v9 w9 hown hgrow hiff; have hv9 : v9 ≠ .slice none 0 0 := (fun ee => absurd (hiff.1 ee).2 (by decide)); obtain ⟨ho, hbb, hrr⟩ := own_card (x := e) (by unfold CardV.value; rw [HLE.out]; exact hown) (by unfold CardV.value; rw [HLE.out]; exact hgrow) HRX.out HBX.out (Nat.le_refl _) hw3 HN3.out; obtain ⟨g9, cap9, rfl⟩ := own_shape ho hv9; have HO9 := Lib.hid ho; have HB9 := Lib.hid hbb; clear hown hgrow hiff hv9 ho hbb hrr))
          case c2 => intro u hu; simp at hu; subst hu; rfl
          case c3 => unfold maxLen; omega
          case c4 => omega
          case c5 => have := HB.out.size; simp; omega
          go_roundw
          case rel => exact ⟨t + 1, _, by omega, by go_num, rfl, HB9, by rw [HS.out, List.length_append]; exact HO9.out⟩
          case measure => simp [intOf]; omega
        · obtain rfl : t = n + m := by omega
          have t1 : ¬ ((n + m : Nat) : Int) < (n : Int) + (m : Int) := by omega
          rw [show F.take (n + m) = F from List.take_of_length_le (by have := HFL.out.1; omega)] at HR
          obtain ⟨A9, c9, e9, hda⟩ := own_deckAt HR.out rfl (HNR.out.later HB.out) hsz5
          subst e9
          have HDA := Lib.hid hda
          have HB9 := Lib.hid (below_step B5.out HB.out)
          clear hda HR
          have hXl : X.length = F.length := by rw [← HFX.out, holes_len]
          go_wp2
          go_ret2
          unfold GivesDC
          exact ⟨A9, c9, F, by rw [hXl]; rfl, HFX.out, HB9.out, HDA.out⟩
end
end Go.Proofs.YtdakbbgbglgioaaDoor

/- spec.MergeDecks: a contract. -/
namespace Go.Proofs.YtdakbbgbglgioaaDoor
open Go.ChangeShapes Go.WideShapes Go.ChangeAt Go.RowKit

theorem key_deck {D : List CardV} {n : Nat} {a b : Int} (hn : D.length = n) (h : keysC (holes D) a b = 0) : KeyDeck D a.toNat b.toNat n := by
  obtain ⟨i, j, rfl, rfl, hij, hj, hv, hkb⟩ := keysC_zero h
  rw [Int.toNat_natCast, Int.toNat_natCast] at *
  exact ⟨hn, hv, hkb, hj, hij⟩
/-- the first card of a deck -/
theorem deck_first {w : World} {B : Nat} {A : Option Addr} {D : List CardV} (h : Deck w B A D) (h0 : 0 < D.length) : ∃ b off u c, A = some ⟨b, off, none⟩ ∧ w.cell? ⟨b, off, none⟩ = some (.slice u (widthH (holes D)) c) := by
  obtain ⟨b, off, rfl, _, hc⟩ := h h0
  obtain ⟨d, hd⟩ : ∃ d, D[0]? = some d := ⟨D[0]'h0, List.getElem?_eq_getElem _⟩
  have h1 := (hc 0 d hd).1
  have e : widthH (holes D) = d.xs.length := by
    rw [widthH, if_neg (by rw [holes_len]; omega)]
    simp [firstZ, holes, hd]
  exact ⟨b, off, d.at_, d.cap, rfl, by rw [e]; exact h1⟩

section
variable (A A' : Option Addr) (c : Nat) (D D' : List CardV) (B B' : Nat) (a b : Int) (w : World) (h : Deck w B A D) (h' : Deck w B' A' D') (hB : B ≤ w.heap.size) (hB' : B' ≤ w.heap.size) (hn : D.length ≤ 1048576) (hn' : D'.length ≤ 1048576) (hl : ∀ d ∈ D, d.xs.length ≤ 1048576) (hl' : ∀ d ∈ D', d.xs.length ≤ 1048576)
include h h' hB hB' hn hn' hl hl'
set_option maxRecDepth 100000 in
set_option maxHeartbeats 4000000 in
theorem specMergeDecks_any (hcap : CapsOk D) (hcap' : CapsOk D') :
    Calls Tryd.prog 13 #[.slice A D.length c, .slice A' D'.length D'.length, .agg #[.int .i64 a, .int .i64 b]] w (GivesDC (mergeA (holes D) (holes D') a b) (mergeC (holes D) (holes D') a b) w) := by
  have b0 := below_box w (.cells #[.int .i64 a, .int .i64 b] 26)
  have hk := l09Two_any A A' c D'.length D D' B B' a b (w.alloc (.cells #[.int .i64 a, .int .i64 b] 26)) (h.below (b0.mono hB)) (h'.below (b0.mono hB')) (by simp; omega) (by simp; omega) hn hn' hl hl' hcap hcap'
  have hw1 := fun W (hW : Below w.heap.size w W) => deck_first (h.below (hW.mono hB))
  have hw2 := fun W (hW : Below w.heap.size w W) => deck_first (h'.below (hW.mono hB'))
  have hf := merge_f (holes D) (holes D') a b
  have hc := clash_f (holes D) (holes D')
  have htz := fun (h0 : twoC (holes D) (holes D') a b = 0) => And.intro (key_deck (D := D) rfl (two_zero h0).1) (key_deck (D := D') rfl (two_zero h0).2)
  unfold GivesTwo at hk
  unfold MergeF at hf
  rw [holes_len, holes_len] at hf hc
  obtain ⟨r, hr⟩ : ∃ r, twoC (holes D) (holes D') a b = r := ⟨_, rfl⟩
  obtain ⟨cl, hcl⟩ : ∃ r, clashB (holes D) (holes D') = r := ⟨_, rfl⟩
  obtain ⟨x1, hx1⟩ : ∃ r, widthH (holes D) = r := ⟨_, rfl⟩
  obtain ⟨x2, hx2⟩ : ∃ r, widthH (holes D') = r := ⟨_, rfl⟩
  obtain ⟨X, hX⟩ : ∃ r, mergeA (holes D) (holes D') a b = r := ⟨_, rfl⟩
  obtain ⟨Z, hZ⟩ : ∃ r, mergeC (holes D) (holes D') a b = r := ⟨_, rfl⟩
  obtain ⟨n, hN⟩ : ∃ n, D.length = n := ⟨_, rfl⟩
  obtain ⟨m, hM⟩ : ∃ n, D'.length = n := ⟨_, rfl⟩
  rw [hr, hcl, hX, hZ, hN, hM] at hf
  rw [hcl, hx1, hx2, hN, hM] at hc
  rw [hr, hN, hM] at hk
  rw [hr, hN, hM] at htz
  simp only [hx1, hN] at hw1
  simp only [hx2, hM] at hw2
  rw [hX, hZ, hN, hM]
  have HK := Lib.hid hk
  have HW1 := Lib.hid hw1
  have HW2 := Lib.hid hw2
  have HF := Lib.hid hf
  have HC := Lib.hid hc
  have HTZ := Lib.hid htz
  have HA := Lib.hid h
  have HA' := Lib.hid h'
  have BW := Lib.hid b0
  clear hk hw1 hw2 hf hc htz hr hcl hx1 hx2 hX hZ b0 h h' hl hl' hcap hcap' hN hM
  go_enter Tryd.func13, Tryd.ntmps13
  go_wp2_with fail
  refine HK.out.mono ?_
  rintro e w1 ⟨A1, n1, c1, A2, n2, c2, rfl, hb1, h1⟩
  have B1 := Lib.hid (below_step BW.out hb1)
  have H1 := Lib.hid h1
  clear hb1 h1 HK
  by_cases hr0 : r = 0
  case neg =>
    obtain ⟨z1, z2⟩ := HF.out.1 hr0
    subst z1 z2
    go_wp2
    go_ret2
    unfold GivesDC; exact ⟨none, 0, [], rfl, rfl, B1.out, DeckAt.nil (Nat.le_refl _)⟩
  subst hr0
  obtain ⟨rfl, rfl, hK1, hK2⟩ := H1.out rfl
  obtain ⟨hkd1, hkd2⟩ := HTZ.out rfl
  have HK1 := Lib.hid hK1
  have HK2 := Lib.hid hK2
  have HD1 := Lib.hid hkd1
  have HD2 := Lib.hid hkd2
  clear hK1 hK2 hkd1 hkd2 H1 HTZ
  go_upto_region 4 with fail
  go_cut [42] (fun s0 wx => s0 = .bool cl ∧ Below w1.heap.size w1 wx)
  case first =>
    by_cases hn0 : n = 0
    · have i0 : decide (0 < n) = false := by simp; omega
      have hz := HC.out.1 hn0
      subst hz
      have HZ0 := Lib.hid hn0
      clear hn0
      go_quiet (fail)
      go_wp2
      go_meet
      exact ⟨rfl, below_drewN (Below.refl _ _) _⟩
    · by_cases hm0 : m = 0
      · have i0 : decide (0 < n) = true := by simp; omega
        have i1 : decide (0 < m) = false := by simp; omega
        have hz := HC.out.2.1 hm0
        subst hz
        have HZ0 := Lib.hid hm0
        clear hm0
        go_quiet (fail)
        go_wp2
        go_meet
        exact ⟨rfl, below_drewN (Below.refl _ _) _⟩
      · have i0 : decide (0 < n) = true := by simp; omega
        have i1 : decide (0 < m) = true := by simp; omega
        have i2 : (0 : Int) < (n : Int) := by omega
        have i3 : (0 : Int) < (m : Int) := by omega
        obtain ⟨b1, o1, u1, cc1, rfl, hc1⟩ := HW1.out w1 B1.out (by omega)
        obtain ⟨b2, o2, u2, cc2, rfl, hc2⟩ := HW2.out w1 B1.out (by omega)
        obtain ⟨q, hq⟩ : ∃ q, (!decide ((x1 : Int) = (x2 : Int))) = q := ⟨_, rfl⟩
        have hqc : cl = q := by
          rw [← hq]
          by_cases hxx : x1 = x2
          · rw [HC.out.2.2.1 (by omega) (by omega) hxx]; simp [hxx]
          · rw [HC.out.2.2.2 (by omega) (by omega) hxx]; simp; omega
        have HQ := Lib.hid hqc
        have HQ2 := Lib.hid hq
        clear hqc hq
        go_quiet (fail)
        go_wp2
        go_meet
        exact ⟨by rw [HQ.out, ← HQ2.out]; by_cases h : (x1 : Int) = (x2 : Int) <;> simp [h], below_drewN (Below.refl _ _) _⟩
  case rest =>
    obtain ⟨rfl, hb2⟩ := hcut
    rename World => w2
    have L2 := Lib.hid hb2
    clear hb2
    cases cl
    case true =>
      obtain ⟨z1, z2⟩ := HF.out.2.1 trivial rfl
      subst z1 z2
      go_wp2
      go_ret2
      unfold GivesDC; exact ⟨none, 0, [], rfl, rfl, below_step B1.out L2.out, DeckAt.nil (Nat.le_refl _)⟩
    have hq1 := fun W (hW : Below w1.heap.size w1 W) => l07Step_any A1 c1 D a.toNat b.toNat W (fun h0 => by obtain ⟨g, e1, e2, e3⟩ := HK1.out (by rw [← HD1.out.len]; exact h0); exact ⟨g, e1, Nat.lt_of_lt_of_le e2 hW.size, e3.later e2 hW⟩) HD1.out.ok HD1.out.keys HD1.out.lt HD1.out.le
    have hq2 := fun W (hW : Below w1.heap.size w1 W) => l07Step_any A2 c2 D' a.toNat b.toNat W (fun h0 => by obtain ⟨g, e1, e2, e3⟩ := HK2.out (by rw [← HD2.out.len]; exact h0); exact ⟨g, e1, Nat.lt_of_lt_of_le e2 hW.size, e3.later e2 hW⟩) HD2.out.ok HD2.out.keys HD2.out.lt HD2.out.le
    obtain ⟨s1, hs1⟩ : ∃ s, stepV (holes D) a.toNat b.toNat = s := ⟨_, rfl⟩
    obtain ⟨s2, hs2⟩ : ∃ s, stepV (holes D') a.toNat b.toNat = s := ⟨_, rfl⟩
    simp only [hs1, HD1.out.len] at hq1
    simp only [hs2, HD2.out.len] at hq2
    rw [hs1, hs2] at HF
    have HQ1 := Lib.hid hq1
    have HQ2 := Lib.hid hq2
    clear hq1 hq2 hs1 hs2
    go_upto_region 6 with fail
    go_cut [50] (fun s0 wx => s0 = .bool (!(decide (s1 < 0) && decide (s2 < 0))) ∧ Below w1.heap.size w1 wx)
    case first =>
      go_wp2_with fail
      refine (HQ1.out w2 L2.out).mono ?_
      rintro e w3 ⟨rfl, hb3⟩
      have L3 := Lib.hid (below_step L2.out hb3)
      clear hb3
      by_cases h1 : s1 < 0
      · have h2 : ¬ s1 ≥ 0 := by omega
        go_wp2_with fail
        refine (HQ2.out w3 L3.out).mono ?_
        rintro e w4 ⟨rfl, hb4⟩
        have L4 := Lib.hid (below_step L3.out hb4)
        clear hb4
        go_wp2
        go_meet
        refine ⟨?_, L4.out⟩
        by_cases h3 : s2 < 0
        · rw [decide_eq_true h1, decide_eq_true h3]; simp; omega
        · rw [decide_eq_true h1, decide_eq_false h3]; simp; omega
      · have h2 : s1 ≥ 0 := by omega
        go_wp2
        go_meet
        exact ⟨by simp [h1], L3.out⟩
    case rest =>
      obtain ⟨rfl, hb3⟩ := hcut
      rename World => w3
      have L3 := Lib.hid hb3
      clear hb3 HQ1 HQ2
      by_cases hs : s1 < 0 ∧ s2 < 0
      case neg =>
        obtain ⟨z1, z2⟩ := HF.out.2.2.1 trivial rfl hs
        subst z1 z2
        have hsb : (!(decide (s1 < 0) && decide (s2 < 0))) = true := by
          rw [Bool.not_eq_true', Bool.and_eq_false_iff]
          simp only [decide_eq_false_iff_not]
          omega
        rw [hsb]
        go_wp2
        go_ret2
        unfold GivesDC; exact ⟨none, 0, [], rfl, rfl, below_step B1.out L3.out, DeckAt.nil (Nat.le_refl _)⟩
      have hsb : (!(decide (s1 < 0) && decide (s2 < 0))) = false := by simp [hs.1, hs.2]
      rw [hsb]
      have n40 := HD1.out.n40
      have m40 := HD2.out.n40
      by_cases h40 : 40 < n + m
      · obtain ⟨z1, z2⟩ := HF.out.2.2.2.1 trivial rfl hs.1 hs.2 h40
        subst z1 z2
        have i0 : (n : Int) + (m : Int) > 40 := by omega
        go_wp2
        go_ret2
        unfold GivesDC; exact ⟨none, 0, [], rfl, rfl, below_step B1.out L3.out, DeckAt.nil (Nat.le_refl _)⟩
      obtain ⟨z1, z2⟩ := HF.out.2.2.2.2 trivial rfl hs.1 hs.2 (by omega)
      subst z1
      have i0 : ¬ (n : Int) + (m : Int) > 40 := by omega
      have B3 := Lib.hid (below_step B1.out L3.out)
      have hmg := l09Merge_any A A' A1 A2 c c1 c2 D D' B B' a.toNat b.toNat n m w3 (HA.out.below (B3.out.mono hB)) (HA'.out.below (B3.out.mono hB')) (Nat.le_trans hB B3.out.size) (Nat.le_trans hB' B3.out.size) HD1.out HD2.out
        (fun h0 => by obtain ⟨g, e1, e2, e3⟩ := HK1.out h0; exact ⟨g, e1, Nat.lt_of_lt_of_le e2 L3.out.size, e3.later e2 L3.out⟩) (fun h0 => by obtain ⟨g, e1, e2, e3⟩ := HK2.out h0; exact ⟨g, e1, Nat.lt_of_lt_of_le e2 L3.out.size, e3.later e2 L3.out⟩)
      rw [z2] at hmg
      have HMG := Lib.hid hmg
      clear hmg z2 HF HC HW1 HW2 HK1 HK2
      go_wp2_with fail
      refine HMG.out.mono ?_
      rintro e w5 ⟨A9, c9, E, rfl, hE, hb5, hda⟩
      have B5 := Lib.hid (below_step B3.out hb5)
      have HE := Lib.hid hE
      have HDA := Lib.hid (hda.widen B3.out.size (Nat.le_refl _) (Nat.le_refl _))
      clear hb5 hE hda HMG
      go_wp2
      go_ret2
      unfold GivesDC
      exact ⟨A9, c9, E, rfl, HE.out, B5.out, HDA.out⟩
end
end Go.Proofs.YtdakbbgbglgioaaDoor

/- impl.InsertCard and spec.InsertCard: contracts. -/
namespace Go.Proofs.YtdakbbgbglgioaaDoor
open Go.ChangeShapes Go.WideShapes Go.ChangeAt Go.RowKit

/-- a deck of one card, laid anew -/
theorem one_deck {w W : World} {BC : Nat} {C : CardV} (hI : Ints w BC C.at_ C.xs) (hBC : BC ≤ w.heap.size) (hW : Below w.heap.size w W) :
    Deck (W.alloc (.cells #[.slice C.at_ C.xs.length C.cap] 36)) (W.heap.size + 1) (some ⟨W.heap.size, 0, none⟩) [C] := fun _ =>
  ⟨W.heap.size, 0, rfl, by omega, fun i d hd => by
    match i, hd with
    | 0, hd =>
      obtain rfl : C = d := by simpa using hd
      refine ⟨by unfold CardV.value; simp, ?_⟩
      have h1 := hI.below (hW.mono hBC)
      exact (h1.below ((below_box W _).mono (Nat.le_trans hBC hW.size))).more (by have := hW.size; omega)
    | i + 1, hd => simp at hd⟩
theorem one_caps {C : CardV} (h : C.xs.length ≤ C.cap ∧ C.cap ≤ 9223372036854775807) : CapsOk [C] := fun d hd => by
  obtain rfl : d = C := by simpa using hd
  exact h
theorem one_len {C : CardV} (h : C.xs.length ≤ 1048576) : ∀ d ∈ [C], d.xs.length ≤ 1048576 := fun d hd => by
  obtain rfl : d = C := by simpa using hd
  exact h
theorem one_step (x : List Int) (i j : Nat) : stepV [x] i j < 0 := by
  unfold stepV
  simp [stepFrom]

section
variable (A : Option Addr) (c : Nat) (D : List CardV) (B : Nat) (C : CardV) (BC : Nat) (a b : Int) (w : World) (h : Deck w B A D) (hI : Ints w BC C.at_ C.xs) (hB : B ≤ w.heap.size) (hBC : BC ≤ w.heap.size) (hn : D.length ≤ 1048576) (hl : ∀ d ∈ D, d.xs.length ≤ 1048576) (hC : C.xs.length ≤ 1048576)
include h hI hB hBC hn hl hC

set_option maxRecDepth 100000 in
set_option maxHeartbeats 2000000 in
theorem implInsert_any (hcap : CapsOk D) (hcapC : C.xs.length ≤ C.cap ∧ C.cap ≤ 9223372036854775807) (hP : Places w) :
    Calls Tryd.prog 12 #[.slice A D.length c, .agg #[.slice C.at_ C.xs.length C.cap], .agg #[.int .i64 a, .int .i64 b]] w (GivesDC (mergeA (holes D) [C.xs] a b) (mergeC (holes D) [C.xs] a b) w) := by
  have b0 : Below w.heap.size w ((w.alloc (.cells #[.slice C.at_ C.xs.length C.cap] 36)).alloc (.cells #[.int .i64 a, .int .i64 b] 26)) := (below_box w _).alloc (by simp) _
  have hd := one_deck hI hBC b0
  have b1 := b0.alloc b0.size (.cells #[.slice C.at_ C.xs.length C.cap] 36)
  have hs : ((w.alloc (.cells #[.slice C.at_ C.xs.length C.cap] 36)).alloc (.cells #[.int .i64 a, .int .i64 b] 26)).heap.size = w.heap.size + 1 + 1 := by simp
  rw [hs] at hd
  have hk := implMergeDecks_any A (some ⟨w.heap.size + 1 + 1, 0, none⟩) c 1 D [C] B (w.heap.size + 1 + 1 + 1) a b _ (h.below (b1.mono hB)) hd (Nat.le_trans hB b1.size) (by simp) hn (by simp) hl (one_len hC) hcap (one_caps hcapC) (hP.below b1)
  unfold GivesDC at hk
  have HK := Lib.hid hk
  have B1 := Lib.hid b1
  clear hk b0 b1 hd h hI hl hcap hcapC hP hs
  obtain ⟨n, hN⟩ : ∃ n, D.length = n := ⟨_, rfl⟩
  rw [hN] at HK ⊢
  obtain ⟨l, hL⟩ : ∃ n, C.xs.length = n := ⟨_, rfl⟩
  rw [hL] at HK B1 ⊢
  clear hN hL
  go_enter Tryd.func12, Tryd.ntmps12
  go_wp2_with fail
  refine HK.out.mono ?_
  rintro e w1 ⟨A9, c9, E, rfl, hE, hb, hda⟩
  have HE := Lib.hid hE
  have BB := Lib.hid (below_step B1.out hb)
  have HDA := Lib.hid (hda.widen B1.out.size (Nat.le_refl _) (Nat.le_refl _))
  clear hE hb hda
  go_wp2
  go_ret2
  unfold GivesDC
  exact ⟨A9, c9, E, rfl, HE.out, BB.out, HDA.out⟩

end
end Go.Proofs.YtdakbbgbglgioaaDoor
