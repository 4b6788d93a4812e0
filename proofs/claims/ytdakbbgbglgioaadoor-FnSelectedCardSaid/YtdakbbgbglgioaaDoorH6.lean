/- Texts for a field: spec.l09Text, impl.keyOfText; and which error is told: slices.Index and slices.Contains at int64, impl.firstError: contracts. -/
import Derived.Test.YtdakbbgbglgioaaDoorH5
import Derived.Test.YtdakbbgbglgioaaDoorH1
import Derived.Test.YtdakbbgbglgioaaDoorH4
import Derived.Test.YtdakbbgbglgioaaDoorGrow
import Derived.OwnWalk
import Derived.Test.YtdakbbgbglgioaaDoorH2
namespace Go.Proofs.YtdakbbgbglgioaaDoor
open Go.ChangeShapes Go.WideShapes Go.ChangeAt Go.RowKit

def rankT (n : Nat) : Bool := let c := codeS (n : Int)
  if c < 0 then decide (rankS n = -1) else decide (0 ≤ rankS n) && decide (rkI c = rankS n)
theorem rankT_all : ∀ n : Fin 256, rankT n.val = true := by decide +kernel
theorem implRankT_any (n : Nat) (h : n ≤ 255) (w : World) (hP : Places w) : (codeS (n : Int) < 0 → Calls Tryd.prog 79 #[.int .u8 n] w fun e w' => e = .returned (.tuple #[.int .i64 0, .bool false]) ∧ w = w') ∧
    (¬ codeS (n : Int) < 0 → Calls Tryd.prog 79 #[.int .u8 n] w fun e w' => e = .returned (.tuple #[.int .i64 (rkI (codeS (n : Int))), .bool true]) ∧ w = w') := by
  have hb := rankT_all ⟨n, by omega⟩
  unfold rankT at hb
  simp only at hb
  refine ⟨fun hc => ?_, fun hc => ?_⟩
  · rw [if_pos hc] at hb
    have hr := of_decide_eq_true hb
    rcases rank_cases n h with ⟨_, _, h3⟩ | ⟨j, _, h2, _⟩
    · exact implRank_no n h h3 w hP
    · omega
  · rw [if_neg hc, Bool.and_eq_true, decide_eq_true_eq, decide_eq_true_eq] at hb
    rcases rank_cases n h with ⟨h1, _, _⟩ | ⟨j, hj, h2, _, _, h5, h6⟩
    · omega
    · rw [hb.2, h2]
      exact implRank_yes n j h5 hj h6 w hP

/-- the ranks of a text -/
def GivesKey (s : ByteArray) (w : World) (e : Ending) (w' : World) : Prop :=
  ∃ g, e = .returned (.tuple #[.slice (some ⟨g, 0, none⟩) s.size s.size, .int .i64 0]) ∧ w.heap.size ≤ g ∧ Below w.heap.size w w' ∧ Row w' g ((textCodes s).map rkI) []
theorem putTo_set (qs : List Int) (n k : Nat) (x : Int) (hk : k < n) (hl : qs.length = n) (hx : qs[k]?.getD 0 = x) : (qs.take k ++ List.replicate (n - k) 0).set k x = qs.take (k + 1) ++ List.replicate (n - (k + 1)) 0 := by
  have h1 : (qs.take k).length = k := by simp; omega
  rw [List.set_append, if_neg (by omega), h1, Nat.sub_self, show n - k = (n - (k + 1)) + 1 by omega, List.replicate_succ, List.set_cons_zero, List.take_add_one, List.append_assoc]
  congr 1
  have hq : qs[k]? = some (qs[k]'(by omega)) := List.getElem?_eq_getElem _
  rw [hq] at hx ⊢
  have hx' : qs[k]'(by omega) = x := hx
  rw [hx']
  rfl

set_option maxRecDepth 100000 in
set_option maxHeartbeats 1000000 in
theorem keyOfText_any (s : ByteArray) (hs : s.size ≤ 1048576) (a b : Int) (w : World) (hP : Places w) :
    Calls Tryd.prog 55 #[.string s, .agg #[.int .i64 a, .int .i64 b]] w fun e w' => (textC s (IntKind.i64.wrap (b - a)) ≠ 0 ∧ GivesNoList (textC s (IntKind.i64.wrap (b - a))) w e w') ∨ (textC s (IntKind.i64.wrap (b - a)) = 0 ∧ GivesKey s w e w') := by
  obtain ⟨l, hl⟩ : ∃ l, IntKind.i64.wrap (b - a) = l := ⟨_, rfl⟩
  rw [hl]
  have b0 := below_box w (.cells #[.int .i64 a, .int .i64 b] 26)
  have BW := Lib.hid b0
  have HPL := Lib.hid hP
  by_cases hz : (s.size : Int) = l
  · obtain ⟨r, hr⟩ : ∃ r, legalT s = r := ⟨_, rfl⟩
    have e0 : textC s l = if r = false then 7 else 0 := by
      unfold textC
      rw [if_neg (by simpa using hz), hr]
    rw [e0]
    have HR := Lib.hid hr
    have e1 : ((s.size : Int) != l) = false := by simpa using hz
    obtain ⟨n, hn⟩ : ∃ n, s.size = n := ⟨_, rfl⟩
    have hmk := run_make_row' (P := Tryd.prog) 34 2 (.int .i64 0) 8 Tryd.underlying34 info_int64 rfl .i64 .i64 n (by omega) (by omega)
    obtain ⟨qs, hq⟩ : ∃ qs, (textCodes s).map rkI = qs := ⟨_, rfl⟩
    have hql : qs.length = n := by rw [← hq, List.length_map, textCodes_length, hn]
    have hqg : ∀ k (h : k < s.size), qs[k]?.getD 0 = rkI (codeS ((s[k]'h).toNat : Int)) := fun k h => by
      rw [← hq, List.getElem?_map, textCodes_get s k h]
      rfl
    have HQL := Lib.hid hql
    have HQG := Lib.hid hqg
    have HQ := Lib.hid hq
    have HN := Lib.hid hn
    rw [hn] at e1
    clear e0 hr hz hql hqg hq b0 hP
    have hnn : s.size = n := HN.out
    go_enter Tryd.func55, Tryd.ntmps55
    go_wp2
    clear e1 hl hmk
    have R0 : Hid (Row ((w.alloc (.cells #[.int .i64 a, .int .i64 b] 26)).alloc (.cells (madeCells #[Value.int .i64 0] n) 2)) (w.heap.size + 1) (qs.take 0 ++ List.replicate (n - 0) 0) []) := by
      rw [madeCells_int]
      exact Row.new_at _ _ (by simp)
    have B0 : Hid (Below w.heap.size w ((w.alloc (.cells #[.int .i64 a, .int .i64 b] 26)).alloc (.cells (madeCells #[Value.int .i64 0] n) 2))) := (below_box w _).alloc (by simp) _
    go_loopw [23] (fun i wr => ∃ k : Nat, k ≤ n ∧ i = .int .i64 k ∧ Hid (legalTo s k) ∧ Hid (Below w.heap.size w wr) ∧ Hid (Row wr (w.heap.size + 1) (qs.take k ++ List.replicate (n - k) 0) [])) (fun i _ => n - (intOf i).toNat)
    case atStart => exact ⟨0, Nat.zero_le _, rfl, legalTo_zero s, B0, R0⟩
    case round =>
      obtain ⟨k, hk, rfl, HL, HB, HRW⟩ := hrel
      by_cases hlt : k < s.size
      · have hltn : k < n := by omega
        have hlt' : (k : Int) < (n : Int) := by omega
        obtain ⟨x, hx⟩ : ∃ x : Nat, (s[k]'hlt).toNat = x := ⟨_, rfl⟩
        have hxb : x ≤ 255 := by have := (s[k]'hlt).toNat_lt; omega
        obtain ⟨hr1, hr2⟩ := implRankT_any x hxb wr (HPL.out.below HB.out)
        have hqk := HQG.out k hlt
        have hlb := legalT_bad s k hlt
        have hls := fun h => legalTo_step HL.out hlt h
        rw [hx] at hqk hlb hls
        obtain ⟨y, hy⟩ : ∃ y, codeS (x : Int) = y := ⟨_, rfl⟩
        rw [hy] at hr1 hr2 hqk hlb hls
        have hk0 : (0 : Int) ≤ (k : Int) := Int.natCast_nonneg _
        have c1 := HRW.out.cell (i := k) (by simp [HQL.out]; omega)
        have f1 := HRW.out.frozen k
        have HQK := Lib.hid hqk
        clear hy hqk
        by_cases hneg : y < 0
        · obtain rfl : r = false := by rw [← HR.out]; exact hlb hneg
          have HX := Lib.hid (hr1 hneg)
          clear hr1 hr2 hlb hls c1 f1
          go_wp2_with (go_at_call 79; refine HX.out.mono ?_; rintro e w' ⟨rfl, rfl⟩)
          go_ret2
          first | exact ⟨rfl, HB.out⟩ | exact Or.inl ⟨by decide, rfl, HB.out⟩
        · have HX := Lib.hid (hr2 hneg)
          have HL1 : Hid (legalTo s (k + 1)) := hls (by omega)
          obtain ⟨z, hz⟩ : ∃ z, rkI y = z := ⟨_, rfl⟩
          rw [hz] at HX HQK
          clear hr1 hr2 hlb hls hz
          go_wp2_with (go_at_call 79; refine HX.out.mono ?_; rintro e w' ⟨rfl, rfl⟩)
          go_roundw
          case rel =>
            refine ⟨k + 1, by omega, by go_num, HL1, HB.out.setCell (by simp) _, ?_⟩
            have := HRW.out.set (i := k) (by simp [HQL.out]; omega) z
            rw [putTo_set qs n k z hltn HQL.out HQK.out] at this
            exact this
          case measure => simp [intOf]; omega
      · have hkn : k = n := by omega
        have hlt' : ¬ (k : Int) < (n : Int) := by omega
        obtain rfl : r = true := by
          rw [← HR.out]
          have := HL.out
          rw [show k = s.size by omega] at this
          exact legalT_all this
        have hrow := HRW.out
        rw [hkn, Nat.sub_self, List.replicate_zero, List.append_nil, List.take_of_length_le (by rw [HQL.out]; omega)] at hrow
        have HROW := Lib.hid hrow
        clear hkn hrow
        go_wp2
        go_ret2
        have e := HQ.out
        first | exact ⟨_, by rw [HN.out]; rfl, by omega, HB.out, by rw [e]; exact HROW.out⟩ | exact Or.inr ⟨by simp, _, by rw [HN.out]; rfl, by omega, HB.out, by rw [e]; exact HROW.out⟩
  · have e0 : textC s l = 2 := by
      unfold textC
      rw [if_pos hz]
    rw [e0]
    have e1 : ((s.size : Int) != l) = true := by simpa using hz
    clear e0 hz b0 hP
    go_enter Tryd.func55, Tryd.ntmps55
    go_wp2
    go_ret2
    first | exact ⟨rfl, BW.out⟩ | exact Or.inl ⟨by decide, rfl, BW.out⟩

theorem indexI_any (A : Option Addr) (c : Nat) (L : List Int) (B : Nat) (x : Int) (w : World) (h : Ints w B A L) (hn : L.length ≤ 1048576) :
    Calls Tryd.prog 89 #[.slice A L.length c, .int .i64 x] w fun e w' => ∃ r : Int, e = .returned (.int .i64 r) ∧ (0 ≤ r ↔ x ∈ L) ∧ w = w' := by
  obtain ⟨n, hN⟩ : ∃ n, L.length = n := ⟨_, rfl⟩
  rw [hN] at hn ⊢
  have H := Lib.hid h
  have HN := Lib.hid hN
  clear h hN
  go_enter Tryd.func89, Tryd.ntmps89
  go_wp2
  go_loop [8] (fun i => ∃ k : Nat, k ≤ n ∧ i = .int .i64 k ∧ Hid (x ∉ L.take k)) (fun i => n - (intOf i).toNat)
  case atStart => exact ⟨0, Nat.zero_le _, rfl, by show _ ∉ _; simp⟩
  case round =>
    obtain ⟨k, hk, rfl, HX⟩ := hrel
    by_cases hlt : k < n
    · obtain ⟨b, off, rfl, hb, hcell⟩ := H.out (by rw [HN.out]; omega)
      have c1 := hcell k (by rw [HN.out]; exact hlt)
      obtain ⟨y, hy⟩ : ∃ y, L[k]? = some y := ⟨L[k]'(by rw [HN.out]; exact hlt), List.getElem?_eq_getElem _⟩
      rw [hy] at c1
      have c2 : w.cell? ⟨b, off + k, none⟩ = some (.int .i64 y) := c1
      have HY := Lib.hid hy
      have k0 : (0 : Int) ≤ (k : Int) := Int.natCast_nonneg _
      have k1 : (k : Int) < (n : Int) := by omega
      clear c1 hcell hy H
      by_cases hxy : x = y
      · have hm : decide (x ∈ L) = true := by rw [decide_eq_true_eq, hxy]; exact List.mem_of_getElem? HY.out
        have HM := Lib.hid hm
        subst hxy
        clear hm
        go_wp2
        go_ret
        exact ⟨k, rfl, ⟨fun _ => of_decide_eq_true HM.out, fun _ => Int.natCast_nonneg _⟩, rfl⟩
      · have hne : (x == y) = false := by simpa using hxy
        have HX1 : Hid (x ∉ L.take (k + 1)) := by
          show _ ∉ _
          rw [List.take_add_one, HY.out, List.mem_append]
          rintro (h | h)
          · exact HX.out h
          · exact hxy (by simpa using h)
        clear hxy
        go_wp2
        go_round
        case rel => exact ⟨k + 1, by omega, by go_num, HX1⟩
        case measure => simp [intOf]; omega
    · have k1 : ¬ (k : Int) < (n : Int) := by omega
      have hm : decide (x ∈ L) = false := by
        have := HX.out
        rw [List.take_of_length_le (by rw [HN.out]; omega)] at this
        simpa using this
      have HM := Lib.hid hm
      clear hm
      go_wp2
      go_ret
      exact ⟨-1, rfl, ⟨fun h => absurd h (by decide), fun h => absurd h (of_decide_eq_false HM.out)⟩, rfl⟩
theorem containsI_any (A : Option Addr) (c : Nat) (L : List Int) (B : Nat) (x : Int) (w : World) (h : Ints w B A L) (hn : L.length ≤ 1048576) :
    Calls Tryd.prog 80 #[.slice A L.length c, .int .i64 x] w fun e w' => e = .returned (.bool (decide (x ∈ L))) ∧ w = w' := by
  have HI := Lib.hid (indexI_any A c L B x w h hn)
  obtain ⟨n, hN⟩ : ∃ n, L.length = n := ⟨_, rfl⟩
  obtain ⟨r, hr⟩ : ∃ r, decide (x ∈ L) = r := ⟨_, rfl⟩
  rw [hN] at HI
  rw [hr, hN]
  have HR := Lib.hid hr
  clear h hN hn hr
  go_enter Tryd.func80, Tryd.ntmps80
  go_wp2_with (go_at_call 89; refine HI.out.mono ?_; rintro e w' ⟨q, rfl, hq, rfl⟩)
  go_ret
  exact ⟨by rw [← HR.out]; rfl, rfl⟩

def errsL : List Int := [1, 2, 7, 8]
theorem firstC_at {L : List Int} {k : Nat} {x : Int} (hk : errsL[k]? = some x) (hx : x ∈ L) (h : ∀ y ∈ errsL.take k, y ∉ L) : firstC L = x := by
  match k, hk with
  | 0, hk => obtain rfl : (1 : Int) = x := by simpa [errsL] using hk
             unfold firstC; rw [if_pos hx]
  | 1, hk => obtain rfl : (2 : Int) = x := by simpa [errsL] using hk
             have h1 := h 1 (by simp [errsL])
             unfold firstC; rw [if_neg h1, if_pos hx]
  | 2, hk => obtain rfl : (7 : Int) = x := by simpa [errsL] using hk
             have h1 := h 1 (by simp [errsL])
             have h2 := h 2 (by simp [errsL])
             unfold firstC; rw [if_neg h1, if_neg h2, if_pos hx]
  | 3, hk => obtain rfl : (8 : Int) = x := by simpa [errsL] using hk
             have h1 := h 1 (by simp [errsL])
             have h2 := h 2 (by simp [errsL])
             have h3 := h 7 (by simp [errsL])
             unfold firstC; rw [if_neg h1, if_neg h2, if_neg h3, if_pos hx]
  | k + 4, hk => simp [errsL] at hk
theorem firstC_none {L : List Int} (h : ∀ y ∈ errsL, y ∉ L) : firstC L = 0 := by
  have h1 := h 1 (by simp [errsL])
  have h2 := h 2 (by simp [errsL])
  have h3 := h 7 (by simp [errsL])
  have h4 := h 8 (by simp [errsL])
  unfold firstC
  rw [if_neg h1, if_neg h2, if_neg h3, if_neg h4]

set_option maxHeartbeats 1000000 in
theorem firstError_any (A : Option Addr) (c : Nat) (L : List Int) (B : Nat) (w : World) (h : Ints w B A L) (hB : B ≤ w.heap.size) (hn : L.length ≤ 1048576) :
    Calls Tryd.prog 56 #[.slice A L.length c] w fun e w' => e = .returned (.int .i64 (firstC L)) ∧ Below w.heap.size w w' := by
  have hc := fun x W (hW : Below w.heap.size w W) => containsI_any A c L B x W (h.below (hW.mono hB)) hn
  obtain ⟨n, hN⟩ : ∃ n, L.length = n := ⟨_, rfl⟩
  obtain ⟨r, hr⟩ : ∃ r, firstC L = r := ⟨_, rfl⟩
  simp only [hN] at hc
  rw [hN, hr]
  have HC := Lib.hid hc
  have HR := Lib.hid hr
  have B0 := Lib.hid (below_box w (.cells #[.int .i64 1, .int .i64 2, .int .i64 7, .int .i64 8] 2))
  have hcell : ∀ k x, errsL[k]? = some x → (w.alloc (.cells #[.int .i64 1, .int .i64 2, .int .i64 7, .int .i64 8] 2)).cell? ⟨w.heap.size, k, none⟩ = some (.int .i64 x) := fun k x hk => by
    match k, hk with
    | 0, hk => obtain rfl : (1 : Int) = x := by simpa [errsL] using hk
               simp
    | 1, hk => obtain rfl : (2 : Int) = x := by simpa [errsL] using hk
               simp
    | 2, hk => obtain rfl : (7 : Int) = x := by simpa [errsL] using hk
               simp
    | 3, hk => obtain rfl : (8 : Int) = x := by simpa [errsL] using hk
               simp
    | k + 4, hk => simp [errsL] at hk
  have HCL := Lib.hid hcell
  clear h hc hN hn hr hcell
  go_enter Tryd.func56, Tryd.ntmps56
  go_wp2
  obtain ⟨W1, hW1⟩ : ∃ W1, w.alloc (.cells #[.int .i64 1, .int .i64 2, .int .i64 7, .int .i64 8] 2) = W1 := ⟨_, rfl⟩
  rw [hW1] at B0 HCL ⊢
  clear hW1
  go_loop [7] (fun i => ∃ k : Nat, k ≤ 4 ∧ i = .int .i64 k ∧ Hid (∀ y ∈ errsL.take k, y ∉ L)) (fun i => 4 - (intOf i).toNat)
  case atStart => exact ⟨0, Nat.zero_le _, rfl, by intro y hy; simp at hy⟩
  case round =>
    obtain ⟨k, hk, rfl, HX⟩ := hrel
    by_cases hlt : k < 4
    · obtain ⟨x, hx⟩ : ∃ x, errsL[k]? = some x := ⟨errsL[k]'(by simp [errsL]; omega), List.getElem?_eq_getElem _⟩
      have c1 := HCL.out k x hx
      have hcx := HC.out x _ B0.out
      obtain ⟨u, hu⟩ : ∃ u, decide (x ∈ L) = u := ⟨_, rfl⟩
      rw [hu] at hcx
      have HK := Lib.hid hcx
      have k0 : (0 : Int) ≤ (k : Int) := Int.natCast_nonneg _
      have k1 : (k : Int) < 4 := by omega
      have HXX := Lib.hid hx
      have HU := Lib.hid hu
      clear hx hcx hu
      cases u
      · have HX1 : Hid (∀ y ∈ errsL.take (k + 1), y ∉ L) := fun y hy => by
          rw [List.take_add_one, HXX.out, List.mem_append] at hy
          rcases hy with hy | hy
          · exact HX.out y hy
          · obtain rfl : y = x := by simpa using hy
            exact of_decide_eq_false HU.out
        go_wp2_with (go_at_call 80; refine HK.out.mono ?_; rintro e w' ⟨rfl, rfl⟩)
        go_round
        case rel => exact ⟨k + 1, by omega, by go_num, HX1⟩
        case measure => simp [intOf]; omega
      · obtain rfl : r = x := by rw [← HR.out]; exact firstC_at HXX.out (of_decide_eq_true HU.out) HX.out
        go_wp2_with (go_at_call 80; refine HK.out.mono ?_; rintro e w' ⟨rfl, rfl⟩)
        go_ret
        exact ⟨rfl, B0.out⟩
    · obtain rfl : r = 0 := by
        rw [← HR.out]
        refine firstC_none ?_
        have := HX.out
        rwa [List.take_of_length_le (by simp [errsL]; omega)] at this
      have k1 : ¬ (k : Int) < 4 := by omega
      go_wp2
      go_ret
      exact ⟨rfl, B0.out⟩
end Go.Proofs.YtdakbbgbglgioaaDoor

/- spec.l09Ask tells the texts of a field of a deck, or the error that is told where texts are asked for: a contract. -/
namespace Go.Proofs.YtdakbbgbglgioaaDoor
open Go.ChangeShapes Go.WideShapes Go.ChangeAt Go.RowKit

theorem firstC_one (cs : List Int) : firstC (1 :: cs) = 1 := by unfold firstC; rw [if_pos (by simp)]
theorem firstC_two {cs : List Int} (h : 1 ∉ cs) : firstC (2 :: cs) = 2 := by unfold firstC; rw [if_neg (by simp [h]), if_pos (by simp)]
theorem firstC_cs2 {k : Int} {cs : List Int} (hk : k = 0 ∨ k = 8) (h1 : 1 ∉ cs) (h : 2 ∈ cs) : firstC (k :: cs) = 2 := by
  unfold firstC
  rw [if_neg (by rcases hk with rfl | rfl <;> simp [h1]), if_pos (by simp [h])]
theorem firstC_cs7 {k : Int} {cs : List Int} (hk : k = 0 ∨ k = 8) (h1 : 1 ∉ cs) (h2 : 2 ∉ cs) (h : 7 ∈ cs) : firstC (k :: cs) = 7 := by
  unfold firstC
  rw [if_neg (by rcases hk with rfl | rfl <;> simp [h1]), if_neg (by rcases hk with rfl | rfl <;> simp [h2]), if_pos (by simp [h])]
theorem firstC_cs0 {k : Int} {cs : List Int} (hk : k = 0 ∨ k = 8) (h1 : 1 ∉ cs) (h2 : 2 ∉ cs) (h : 7 ∉ cs) (h8 : 8 ∉ cs) : firstC (k :: cs) = k := by
  unfold firstC
  rw [if_neg (by rcases hk with rfl | rfl <;> simp [h1]), if_neg (by rcases hk with rfl | rfl <;> simp [h2]), if_neg (by rcases hk with rfl | rfl <;> simp [h])]
  rcases hk with rfl | rfl <;> simp [h8]
theorem texts_not {T : List ByteArray} {l x : Int} (h1 : x ≠ 2) (h2 : x ≠ 7) (h3 : x ≠ 0) : x ∉ T.map fun s => textC s l := by
  intro h
  obtain ⟨s, _, e⟩ := List.mem_map.1 h
  rcases textC_vals s l with h | h | h <;> omega

/-- the worst so far -/
def worstV (cs : List Int) : Int := if 7 ∈ cs then 7 else 0
theorem worst_more {cs : List Int} {k : Nat} {c : Int} (hc : cs[k]? = some c) (h2 : 2 ∉ cs.take k) (hn : c ≠ 2) : 2 ∉ cs.take (k + 1) ∧ worstV (cs.take (k + 1)) = if c = 7 then 7 else worstV (cs.take k) := by
  rw [List.take_add_one, hc]
  refine ⟨by simp [h2]; omega, ?_⟩
  unfold worstV
  by_cases h : c = 7
  · rw [if_pos h, if_pos (by simp [h])]
  · rw [if_neg h]
    by_cases h7 : 7 ∈ cs.take k
    · rw [if_pos h7, if_pos (by simp [h7])]
    · rw [if_neg h7, if_neg (by simp [h7]; omega)]

section
variable (A : Option Addr) (c : Nat) (D : List CardV) (B : Nat) (a b : Int) (w : World) (h : Deck w B A D) (hB : B ≤ w.heap.size) (hn : D.length ≤ 1048576) (hl : ∀ d ∈ D, d.xs.length ≤ 1048576)
end
end Go.Proofs.YtdakbbgbglgioaaDoor
/- spec.SequenceErrors, spec.l09Groups and spec.GroupsOf tell the places of a deck where a card is less than, or differs from, the one before it: contracts. -/
namespace Go.Proofs.YtdakbbgbglgioaaDoor
open Go.ChangeShapes Go.WideShapes Go.ChangeAt Go.RowKit

theorem keyOf_at {D : List CardV} {i j n kg : Nat} {w : World} (hrow : KeyRow w kg D i j) (hv : deckB (holes D) = true) (hkb : keysB (holes D) i j = true) (hj : j ≤ widthH (holes D)) (hN : D.length = n) {p : Nat} (hp : p < n) :
    ∃ d, D[p]? = some d ∧ w.cell? ⟨kg, p, none⟩ = some (.string (textS (partOf d.xs i j))) ∧ (partOf d.xs i j).length = j - i ∧ textOk (partOf d.xs i j) = true ∧ j - i ≤ 20 ∧ (textS (partOf d.xs i j)).size = j - i := by
  obtain ⟨d, hd⟩ : ∃ d, D[p]? = some d := ⟨D[p]'(by omega), List.getElem?_eq_getElem _⟩
  obtain ⟨g1, g2⟩ := deck_width hv (holes_at hd)
  have l1 := partOf_length d.xs i j (by rw [g2]; exact hj)
  have h20 := (okB_parts g1).2
  exact ⟨d, hd, hrow p d hd, l1, keysB_at (holes_at hd) hkb, by omega, by rw [← l1]; exact textL_length _⟩
theorem texts_ne {x y : ByteArray} (h : x ≠ y) : (x.toList == y.toList) = false := by
  rw [beq_eq_false_iff_ne]
  intro hh
  apply h
  rw [ByteArray.toList_eq, ByteArray.toList_eq] at hh
  obtain ⟨⟨x⟩⟩ := x
  obtain ⟨⟨y⟩⟩ := y
  simpa using hh
theorem seqQ_zero (H : List (List Int)) (i j : Nat) : seqQ H i j 0 = false := by simp [seqQ]
theorem seqQ_succ (H : List (List Int)) (i j t : Nat) : seqQ H i j (t + 1) = decide (cmpK H i j (t + 1) t < 0) := by simp [seqQ]
theorem grpQ_zero (H : List (List Int)) (i j : Nat) : grpQ H i j 0 = true := by simp [grpQ]
theorem grpQ_succ (H : List (List Int)) (i j t : Nat) : grpQ H i j (t + 1) = !decide (cmpK H i j (t + 1) t = 0) := by simp [grpQ]
theorem empty_ints (w : World) : (w.alloc (.cells #[] 2)).ownsRow w.heap.size 2 1 (.slice (some ⟨w.heap.size, 0, none⟩) 0 0) 0 [] :=
  ⟨rfl, Or.inr ⟨w.heap.size, 0, #[], rfl, Nat.le_refl _, heap_alloc_new w _, Nat.le_refl _, Nat.zero_le _, rfl, rfl⟩⟩
theorem int_news (W : World) (x : Value) : ∀ j u, [x][j]? = some u → (W.alloc (.cells #[x] 2)).cell? ((⟨W.heap.size, 0, none⟩ : Addr).add j) = some u := by
  intro j u hj
  match j, hj with
  | 0, hj => simp at hj; subst hj; simp [Addr.add]

section
variable (A : Option Addr) (c : Nat) (D : List CardV) (B : Nat) (a b : Int) (w : World) (h : Deck w B A D) (hB : B ≤ w.heap.size) (hn : D.length ≤ 1048576) (hl : ∀ d ∈ D, d.xs.length ≤ 1048576)
include h hB hn hl

end

section
variable (A : Option Addr) (c : Nat) (D : List CardV) (B : Nat) (a b : Int) (w : World) (h : Deck w B A D) (hB : B ≤ w.heap.size) (hn : D.length ≤ 1048576) (hl : ∀ d ∈ D, d.xs.length ≤ 1048576)
end
end Go.Proofs.YtdakbbgbglgioaaDoor
/- impl.cardsWhere at the closure of impl.SelectBetween, impl.SelectBetween and impl.SelectEqual: contracts. -/
namespace Go.Proofs.YtdakbbgbglgioaaDoor
open Go.ChangeShapes Go.WideShapes Go.ChangeAt Go.RowKit

/-- the cards ahead of place n for which q holds -/
def cardsE (q : Nat → Bool) (E : List CardV) : Nat → List CardV
  | 0 => []
  | n + 1 => if q n = true then cardsE q E n ++ (E[n]?).toList else cardsE q E n
theorem cardsE_yes {q : Nat → Bool} {E : List CardV} {n : Nat} {e : CardV} (h : q n = true) (hn : E[n]? = some e) : cardsE q E (n + 1) = cardsE q E n ++ [e] := by
  rw [cardsE, if_pos h, hn]
  rfl
theorem cardsE_no {q : Nat → Bool} {E : List CardV} {n : Nat} (h : q n = false) : cardsE q E (n + 1) = cardsE q E n := if_neg (by simp [h])
theorem cardsE_holes (q : Nat → Bool) (E : List CardV) : ∀ n, n ≤ E.length → holes (cardsE q E n) = cardsPl q (holes E) n
  | 0, _ => rfl
  | n + 1, h => by
    have ih := cardsE_holes q E n (by omega)
    have he : E[n]? = some (E[n]'(by omega)) := List.getElem?_eq_getElem _
    unfold cardsE cardsPl
    rw [holes_at he, he]
    split
    · simp only [holes, List.map_append] at ih ⊢
      rw [ih]
      rfl
    · exact ih
theorem cardsE_sub (q : Nat → Bool) (E : List CardV) : ∀ n, (cardsE q E n).Sublist (E.take n)
  | 0 => by simp [cardsE]
  | n + 1 => by
    have ih := cardsE_sub q E n
    unfold cardsE
    rw [List.take_add_one]
    split
    · exact ih.append (List.Sublist.refl _)
    · exact ih.trans (List.sublist_append_left _ _)
theorem NewRows.sub {w : World} {lo : Nat} {E F : List CardV} (h : NewRows w lo E) (hs : F.Sublist E) : NewRows w lo F :=
  ⟨fun e he => h.each e (hs.subset he), h.apart.sublist hs⟩
theorem cardsE_rows {w : World} {lo n : Nat} {q : Nat → Bool} {E : List CardV} (h : NewRows w lo E) : NewRows w lo (cardsE q E n) := h.sub ((cardsE_sub q E n).trans (List.take_sublist _ _))
theorem cardsE_len (q : Nat → Bool) (E : List CardV) (n : Nat) : (cardsE q E n).length ≤ n := by
  have h1 := (cardsE_sub q E n).length_le
  have h2 := List.length_take_le n E
  omega
/-- a list of the cards for which q holds, in the memory of these -/
def GivesSel (q : Nat → Bool) (E : List CardV) (n lo : Nat) (w : World) (e : Ending) (w' : World) : Prop :=
  ∃ A cap, e = .returned (.slice A (cardsE q E n).length cap) ∧ Below w.heap.size w w' ∧ DeckAt w' lo w'.heap.size A (cardsE q E n)

set_option maxRecDepth 100000 in
set_option maxHeartbeats 2000000 in
theorem cardsBet_any {D E K : List CardV} {i j n g lo : Nat} {w : World} (p1 p2 : Nat) (q : Nat → Bool) (hO : EntsOf D i j n E K) (he : Ents w lo g E K n) (hlo : lo ≤ w.heap.size)
    (hkeep : ∀ (k : Nat) (e p : CardV) (W : World), k < n → E[k]? = some e → K[k]? = some p → Below w.heap.size w W → Calls Tryd.prog 58 #[.agg #[e.value, p.value], .pointer (some ⟨p1, 0, none⟩), .pointer (some ⟨p2, 0, none⟩)] W fun en W' => en = .returned (.bool (q k)) ∧ Below W.heap.size W W') :
    Calls Tryd.prog 57 #[.slice (some ⟨g, 0, none⟩) n n, .func (.func 58) #[] #[.pointer (some ⟨p1, 0, none⟩), .pointer (some ⟨p2, 0, none⟩)]] w (GivesSel q E n lo w) := by
  obtain ⟨i0, hi0, hz0, hz1, hz2⟩ := info_parts info_card
  have hn40 := hO.n40
  have HE := Lib.hid he
  have HO := Lib.hid hO
  have HK := Lib.hid hkeep
  clear he hO hkeep
  go_enter Tryd.func57, Tryd.ntmps57
  go_wp2
  go_loopw [5, 10] (fun vo vi wr => ∃ t : Nat, ∃ vv : Value, t ≤ n ∧ vi = .int .i64 t ∧ vv = vo ∧ Hid (Below w.heap.size w wr) ∧ Hid (wr.ownsRow w.heap.size 36 1 vo (cardsE q E t).length ((cardsE q E t).map CardV.value))) (fun _ vi _ => n - (intOf vi).toNat)
  case atStart => exact ⟨0, _, Nat.zero_le _, rfl, rfl, Below.refl _ _, World.ownsRow_nil _ _ _ _⟩
  case round =>
    obtain ⟨t, vv, ht, rfl, rfl, HB, HR⟩ := hrel
    by_cases hlt : t < n
    · obtain ⟨d, e, p, hd, he, hp, _⟩ := HO.out.at_ hlt
      have hE := HE.out.later HB.out
      have c1 := hE.card (by rw [HO.out.lenE, HO.out.lenK]; omega) he
      have c2 := hE.key (by rw [HO.out.lenE]; exact hlt) hp
      unfold CardV.value at c1 c2
      have bx := below_box wr (.cells #[.slice e.at_ e.xs.length e.cap, .slice p.at_ p.xs.length p.cap] 75)
      have hk := HK.out t e p _ hlt he hp (below_step HB.out bx)
      unfold CardV.value at hk
      have p0 : (wr.alloc (.cells #[.slice e.at_ e.xs.length e.cap, .slice p.at_ p.xs.length p.cap] 75)).cell? ⟨wr.heap.size, 0, none⟩ = some (.slice e.at_ e.xs.length e.cap) := by simp
      have p1 : (wr.alloc (.cells #[.slice e.at_ e.xs.length e.cap, .slice p.at_ p.xs.length p.cap] 75)).cell? ⟨wr.heap.size, 1, none⟩ = some (.slice p.at_ p.xs.length p.cap) := by simp
      obtain ⟨r, hr⟩ : ∃ r, q t = r := ⟨_, rfl⟩
      rw [hr] at hk
      have HKP := Lib.hid hk
      have HQ := Lib.hid hr
      have HX := Lib.hid he
      have HBX := Lib.hid (below_step HB.out bx)
      have HRX : Hid ((wr.alloc (.cells #[.slice e.at_ e.xs.length e.cap, .slice p.at_ p.xs.length p.cap] 75)).ownsRow w.heap.size 36 1 vv (cardsE q E t).length ((cardsE q E t).map CardV.value)) := HR.out.alloc _
      have hlen := cardsE_len q E t
      obtain ⟨W1, hW1⟩ : ∃ W1, wr.alloc (.cells #[.slice e.at_ e.xs.length e.cap, .slice p.at_ p.xs.length p.cap] 75) = W1 := ⟨_, rfl⟩
      rw [hW1] at HKP p0 p1 HBX HRX
      have hsz : w.heap.size ≤ W1.heap.size := HBX.out.size
      have t0 : (0 : Int) ≤ (t : Int) := Int.natCast_nonneg _
      have t1 : (t : Int) < (n : Int) := by omega
      obtain ⟨le, hle⟩ : ∃ l, e.xs.length = l := ⟨_, rfl⟩
      obtain ⟨lp, hlp⟩ : ∃ l, p.xs.length = l := ⟨_, rfl⟩
      have HLE := Lib.hid hle
      rw [hle] at p0 c1 HKP hW1
      rw [hlp] at p1 c2 HKP hW1
      clear hE hk hr he hp hd bx hle hlp HR
      cases r
      · have hs := cardsE_no (E := E) HQ.out
        have HS := Lib.hid hs
        clear hs
        go_wp2_with (go_at_call 58; refine HKP.out.mono ?_; rintro en w3 ⟨rfl, hb3⟩; have HB3 := Lib.hid (below_step HBX.out hb3); have HR3 : Hid (w3.ownsRow w.heap.size 36 1 vv (cardsE q E t).length ((cardsE q E t).map CardV.value)) := own_moved HRX.out (fun i _ hi => hb3.block i hi); clear hb3)
        go_roundw
        case rel => exact ⟨t + 1, _, by omega, by go_num, rfl, HB3, by rw [HS.out]; exact HR3⟩
        case measure => simp [intOf]; omega
      · have hs := cardsE_yes HQ.out HX.out
        obtain ⟨X, hX⟩ : ∃ X, cardsE q E t = X := ⟨_, rfl⟩
        rw [hX] at HRX hlen hs
        have hrows := cardsE_rows (q := q) (n := t + 1) HE.out.cards
        rw [hs] at hrows
        have HS := Lib.hid hs
        have HRW := Lib.hid hrows
        clear hs hX hrows
        go_wp2_with (first
          | (go_at_call 58; refine HKP.out.mono ?_; rintro en w3 ⟨rfl, hb3⟩; have HB3 := Lib.hid (below_step HBX.out hb3); have HR3 : Hid (w3.ownsRow w.heap.size 36 1 vv X.length (X.map CardV.value)) := own_moved HRX.out (fun i _ hi => hb3.block i hi); have q0 := cell_kept p0 hb3; have hw3 : w.heap.size ≤ w3.heap.size := HB3.out.size; have HN3 := Lib.hid (HRW.out.later HB3.out); clear hb3)
          | (at_builtin; refine wpList_append_own _ rfl _ _ 24 rfl w.heap.size 36 i0 (.agg #[.slice none 0 0]) 1 24 Tryd.underlying24 hi0 hz0 hz1 hz2 rfl (by decide) _ _ _ rfl (HR3.out.alloc _) ⟨w3.heap.size, 0, none⟩ 1 1 [.slice e.at_ le e.cap] rfl rfl (card_news w3 _) ?c2 ?c3 ?c4 ?c5 ?_; rotate_left 4; intro v9 w9 hown hgrow hiff; have hv9 : v9 ≠ .slice none 0 0 := (fun ee => absurd (hiff.1 ee).2 (by decide)); obtain ⟨ho, hbb, hrr⟩ := own_card (x := e) (by unfold CardV.value; rw [HLE.out]; exact hown) (by unfold CardV.value; rw [HLE.out]; exact hgrow) HR3.out HB3.out (Nat.le_refl _) hw3 HN3.out; obtain ⟨g9, cap9, rfl⟩ := own_shape ho hv9; have HO9 := Lib.hid ho; have HB9 := Lib.hid hbb; clear hown hgrow hiff hv9 ho hbb hrr))
        case c2 => intro u hu; simp at hu; subst hu; rfl
        case c3 => unfold maxLen; omega
        case c4 => omega
        case c5 => simp; omega
        go_roundw
        case rel => exact ⟨t + 1, _, by omega, by go_num, rfl, HB9, by rw [HS.out, List.length_append]; exact HO9.out⟩
        case measure => simp [intOf]; omega
    · obtain rfl : t = n := by omega
      have t1 : ¬ (t : Int) < (t : Int) := by omega
      obtain ⟨A9, c9, e9, hda⟩ := own_deckAt HR.out rfl ((cardsE_rows HE.out.cards).later HB.out) hlo
      subst e9
      have HDA := Lib.hid hda
      clear hda HR
      go_wp2
      go_ret
      exact ⟨A9, c9, rfl, HB.out, HDA.out⟩

set_option maxHeartbeats 1000000 in
theorem selKeep_any (a1 A : Option Addr) (l1 c1 c : Nat) (p1 p2 : Nat) (A1 A2 : Option Addr) (z1 z2 : Nat) (xs ys zs : List Int) (n B B1 B2 : Nat) (w : World) (h : Ints w B A (xs.map rkI)) (h1 : Ints w B1 A1 (ys.map rkI)) (h2 : Ints w B2 A2 (zs.map rkI)) (hB : B ≤ w.heap.size) (hB1 : B1 ≤ w.heap.size) (hB2 : B2 ≤ w.heap.size)
    (hx : xs.length = n) (hy : ys.length = n) (hz : zs.length = n) (hn : n ≤ 1048576) (q1 : w.cell? ⟨p1, 0, none⟩ = some (.slice A1 n z1)) (q2 : w.cell? ⟨p2, 0, none⟩ = some (.slice A2 n z2)) :
    Calls Tryd.prog 58 #[.agg #[.slice a1 l1 c1, .slice A n c], .pointer (some ⟨p1, 0, none⟩), .pointer (some ⟨p2, 0, none⟩)] w fun e w' => e = .returned (.bool (decide (0 ≤ cmpTo xs ys n) && decide (cmpTo xs zs n ≤ 0))) ∧ Below w.heap.size w w' := by
  have b0 := below_box w (.cells #[.slice a1 l1 c1, .slice A n c] 75)
  have k1 := slicesCompare_any A1 A z1 c ys xs n B1 B _ (h1.below (b0.mono hB1)) (h.below (b0.mono hB)) hy hx hn
  have k2 := slicesCompare_any A A2 c z2 xs zs n B B2 _ (h.below (b0.mono hB)) (h2.below (b0.mono hB2)) hx hz hn
  have r1 := cell_kept q1 b0
  have r2 := cell_kept q2 b0
  have hneg : decide (0 ≤ cmpTo xs ys n) = decide (cmpTo ys xs n ≤ 0) := by
    rw [cmpTo_neg xs ys n, decide_eq_decide]
    omega
  rw [hneg]
  obtain ⟨u, hu⟩ : ∃ u, cmpTo ys xs n = u := ⟨_, rfl⟩
  obtain ⟨v, hv⟩ : ∃ v, cmpTo xs zs n = v := ⟨_, rfl⟩
  rw [hu] at k1
  rw [hv] at k2
  rw [hu, hv]
  have K1 := Lib.hid k1
  have K2 := Lib.hid k2
  have B0 := Lib.hid b0
  clear k1 k2 b0 h h1 h2 hx hy hz hu hv hneg q1 q2
  by_cases hu0 : u ≤ 0
  · go_enter Tryd.func58, Tryd.ntmps58
    go_wp2_with fail
    refine K1.out.mono ?_
    rintro e w' ⟨rfl, rfl⟩
    go_wp2_with fail
    refine K2.out.mono ?_
    rintro e w' ⟨rfl, rfl⟩
    go_wp2
    go_ret
    exact ⟨by simp [hu0], B0.out⟩
  · go_enter Tryd.func58, Tryd.ntmps58
    go_wp2_with fail
    refine K1.out.mono ?_
    rintro e w' ⟨rfl, rfl⟩
    go_wp2
    go_ret
    exact ⟨by rw [decide_eq_false (show ¬ u ≤ 0 by omega)]; rfl, B0.out⟩

theorem entriesU_any (A : Option Addr) (c : Nat) (D : List CardV) (B : Nat) (a b : Int) (w : World) (h : Deck w B A D) (hB : B ≤ w.heap.size) (hn : D.length ≤ 1048576) (hl : ∀ d ∈ D, d.xs.length ≤ 1048576) (hcap : CapsOk D) (hP : Places w) :
    Calls Tryd.prog 54 #[.slice A D.length c, .agg #[.int .i64 a, .int .i64 b]] w fun e w' => ∃ A' nn cap, e = .returned (.tuple #[.slice A' nn cap, .int .i64 (keysC (holes D) a b)]) ∧ Below w.heap.size w w' ∧ (keysC (holes D) a b = 0 → ∃ g E K, A' = some ⟨g, 0, none⟩ ∧ D.length = nn ∧ D.length = cap ∧ CapsOk E ∧ EntsOf D a.toNat b.toNat D.length E K ∧ Ents w' w.heap.size g E K D.length) := by
  refine (entriesOf_any A c D B a b w h hB hn hl hcap hP).mono ?_
  rintro e w' (⟨h1, rfl, hb⟩ | ⟨h0, g, E, K, rfl, hb, hE, hC, hK, hEn⟩)
  · exact ⟨none, 0, 0, rfl, hb, fun h => absurd h h1⟩
  · refine ⟨_, _, _, by rw [h0], hb, fun _ => ⟨g, E, K, rfl, rfl, rfl, hC, ?_, hEn⟩⟩
    obtain ⟨i, j, rfl, rfl, hij, hj, hv, hkb⟩ := keysC_zero h0
    rw [Int.toNat_natCast, Int.toNat_natCast] at *
    exact ⟨rfl, hE, hK, hv, hkb, hij, hj⟩
theorem keyTextU_any (s : ByteArray) (hs : s.size ≤ 1048576) (a b : Int) (w : World) (hP : Places w) :
    Calls Tryd.prog 55 #[.string s, .agg #[.int .i64 a, .int .i64 b]] w fun e w' => ∃ A' nn cap, e = .returned (.tuple #[.slice A' nn cap, .int .i64 (textC s (IntKind.i64.wrap (b - a)))]) ∧ Below w.heap.size w w' ∧ (textC s (IntKind.i64.wrap (b - a)) = 0 → ∃ g, A' = some ⟨g, 0, none⟩ ∧ nn = s.size ∧ cap = s.size ∧ Row w' g ((textCodes s).map rkI) []) := by
  refine (keyOfText_any s hs a b w hP).mono ?_
  rintro e w' (⟨h1, rfl, hb⟩ | ⟨h0, g, rfl, _, hb, hr⟩)
  · exact ⟨none, 0, 0, rfl, hb, fun h => absurd h h1⟩
  · exact ⟨_, _, _, by rw [h0], hb, fun _ => ⟨g, rfl, rfl, rfl, hr⟩⟩

theorem firstC_mem {L : List Int} (h : firstC L = 0) {x : Int} (hx : x ∈ L) : x ≠ 1 ∧ x ≠ 2 ∧ x ≠ 7 ∧ x ≠ 8 := by
  unfold firstC at h
  by_cases h1 : 1 ∈ L
  · rw [if_pos h1] at h; exact absurd h (by decide)
  rw [if_neg h1] at h
  by_cases h2 : 2 ∈ L
  · rw [if_pos h2] at h; exact absurd h (by decide)
  rw [if_neg h2] at h
  by_cases h7 : 7 ∈ L
  · rw [if_pos h7] at h; exact absurd h (by decide)
  rw [if_neg h7] at h
  by_cases h8 : 8 ∈ L
  · rw [if_pos h8] at h; exact absurd h (by decide)
  exact ⟨fun e => h1 (e ▸ hx), fun e => h2 (e ▸ hx), fun e => h7 (e ▸ hx), fun e => h8 (e ▸ hx)⟩
theorem ask_zero {H : List (List Int)} {a b : Int} {T : List ByteArray} (h : askC H a b T = 0) : keysC H a b = 0 ∧ ∀ s ∈ T, textC s (IntKind.i64.wrap (b - a)) = 0 := by
  unfold askC at h
  refine ⟨?_, fun s hs => ?_⟩
  · have := firstC_mem h (List.mem_cons_self)
    rcases keysC_vals H a b with e | e | e | e <;> omega
  · have := firstC_mem h (List.mem_cons_of_mem _ (List.mem_map_of_mem hs))
    rcases textC_vals s (IntKind.i64.wrap (b - a)) with e | e | e <;> omega
/-- what is known of a text for a field -/
theorem text_zero {s : ByteArray} {i j : Nat} (hij : i < j) (hj : j ≤ 20) (h : textC s (IntKind.i64.wrap ((j : Int) - (i : Int))) = 0) : s.size = j - i ∧ legalT s = true ∧ (textCodes s).length = j - i ∧ textOk (textCodes s) = true ∧ textS (textCodes s) = s := by
  have hw : IntKind.i64.wrap ((j : Int) - (i : Int)) = (j : Int) - (i : Int) := IntWalk.i64_in _ (by omega)
  rw [hw] at h
  unfold textC at h
  by_cases h1 : (s.size : Int) ≠ (j : Int) - (i : Int)
  · rw [if_pos h1] at h; exact absurd h (by decide)
  · rw [if_neg h1] at h
    cases hl : legalT s with
    | false => rw [hl] at h; exact absurd h (by decide)
    | true =>
      obtain ⟨y1, y2⟩ := text_back hl
      exact ⟨by omega, rfl, by rw [textCodes_length]; omega, y1, y2⟩
theorem betA_facts {H : List (List Int)} {a b : Int} {s t : ByteArray} (h : askC H a b [s, t] = 0) : ∃ i j : Nat, a = i ∧ b = j ∧ i < j ∧ j ≤ widthH H ∧ j ≤ 20 ∧ deckB H = true ∧ keysB H i j = true ∧ betA H a b s t = cardsPl (betQ H i j (textCodes s) (textCodes t)) H H.length ∧
    (s.size = j - i ∧ legalT s = true ∧ (textCodes s).length = j - i ∧ textOk (textCodes s) = true ∧ textS (textCodes s) = s) ∧ (t.size = j - i ∧ legalT t = true ∧ (textCodes t).length = j - i ∧ textOk (textCodes t) = true ∧ textS (textCodes t) = t) := by
  obtain ⟨h1, h2⟩ := ask_zero h
  have hf := h1
  unfold keysC at hf
  obtain ⟨i, j, rfl, rfl, hij, hj, hv, hkb⟩ := keysC_zero h1
  have h20 : j ≤ 20 := by
    rcases keysC_cases H (i : Int) (j : Int) with ⟨e, _⟩ | ⟨e, _⟩ | ⟨_, _, _, _, _, hjw, _, _⟩
    · rw [e] at h1; exact absurd h1 (by decide)
    · rw [e] at h1; exact absurd h1 (by decide)
    · by_cases h0 : H.length = 0
      · have : widthH H = 20 := by simp [widthH, h0]
        omega
      · have hx : H[0]? = some (H[0]'(by omega)) := List.getElem?_eq_getElem _
        obtain ⟨y1, y2⟩ := deck_width hv hx
        have := (okB_parts y1).2
        omega
  refine ⟨i, j, rfl, rfl, hij, hj, h20, hv, hkb, ?_, text_zero hij h20 (h2 s (by simp)), text_zero hij h20 (h2 t (by simp))⟩
  unfold betA
  rw [if_pos h, Int.toNat_natCast, Int.toNat_natCast]

section
variable (A : Option Addr) (c : Nat) (D : List CardV) (B : Nat) (a b : Int) (w : World) (h : Deck w B A D) (hB : B ≤ w.heap.size) (hn : D.length ≤ 1048576) (hl : ∀ d ∈ D, d.xs.length ≤ 1048576)
include h hB hn hl
set_option maxRecDepth 100000 in
set_option maxHeartbeats 4000000 in
theorem implBetween_any (hcap : CapsOk D) (hP : Places w) (s t : ByteArray) (hs : s.size ≤ 1048576) (ht : t.size ≤ 1048576) :
    Calls Tryd.prog 21 #[.slice A D.length c, .agg #[.int .i64 a, .int .i64 b], .string s, .string t] w (GivesDC (betA (holes D) a b s t) (askC (holes D) a b [s, t]) w) := by
  have b0 := below_box w (.cells #[.int .i64 a, .int .i64 b] 26)
  have hk := entriesU_any A c D B a b (w.alloc (.cells #[.int .i64 a, .int .i64 b] 26)) (h.below (b0.mono hB)) (by simp; omega) hn hl hcap (hP.below b0)
  have p0 : (w.alloc (.cells #[.int .i64 a, .int .i64 b] 26)).cell? ⟨w.heap.size, 0, none⟩ = some (.int .i64 a) := by simp
  have p1 : (w.alloc (.cells #[.int .i64 a, .int .i64 b] 26)).cell? ⟨w.heap.size, 1, none⟩ = some (.int .i64 b) := by simp
  have hks := fun W (hW : Below w.heap.size w W) => keyTextU_any s hs a b W (hP.below hW)
  have hkt := fun W (hW : Below w.heap.size w W) => keyTextU_any t ht a b W (hP.below hW)
  have hfacts := fun (h0 : askC (holes D) a b [s, t] = 0) => And.intro (betA_facts h0) (ask_zero h0)
  have hnil : askC (holes D) a b [s, t] ≠ 0 → betA (holes D) a b s t = [] := fun h0 => by
    unfold betA
    rw [if_neg h0]
  have hsz0 : w.heap.size ≤ (w.alloc (.cells #[.int .i64 a, .int .i64 b] 26)).heap.size := b0.size
  have hfe : askC (holes D) a b [s, t] = firstC [keysC (holes D) a b, textC s (IntKind.i64.wrap (b - a)), textC t (IntKind.i64.wrap (b - a))] := rfl
  obtain ⟨k, hk0⟩ : ∃ k, keysC (holes D) a b = k := ⟨_, rfl⟩
  obtain ⟨cs, hcs⟩ : ∃ x, textC s (IntKind.i64.wrap (b - a)) = x := ⟨_, rfl⟩
  obtain ⟨ct, hct⟩ : ∃ x, textC t (IntKind.i64.wrap (b - a)) = x := ⟨_, rfl⟩
  obtain ⟨r, hr⟩ : ∃ r, askC (holes D) a b [s, t] = r := ⟨_, rfl⟩
  obtain ⟨X, hX⟩ : ∃ X, betA (holes D) a b s t = X := ⟨_, rfl⟩
  rw [hr, hk0, hcs, hct] at hfe
  simp only [hcs] at hks
  simp only [hct] at hkt
  simp only [hr, hk0, hX] at hfacts
  rw [hr, hX] at hnil
  have hzs : (r = 0 → cs = 0 ∧ ct = 0) := fun h0 => by
    obtain ⟨_, _, h3⟩ := hfacts h0
    exact ⟨by rw [← hcs]; exact h3 s (by simp), by rw [← hct]; exact h3 t (by simp)⟩
  rw [hr, hX]
  rw [hk0] at hk
  obtain ⟨n, hN⟩ : ∃ n, D.length = n := ⟨_, rfl⟩
  rw [hN] at hk ⊢
  have HK := Lib.hid hk
  have HKS := Lib.hid hks
  have HKT := Lib.hid hkt
  have HF := Lib.hid hfacts
  have HNIL := Lib.hid hnil
  have HZS := Lib.hid hzs
  have HFE := Lib.hid hfe
  have BW := Lib.hid b0
  have HN := Lib.hid hN
  clear hk hks hkt hfacts hnil hfe hzs hr hX hcs hct hk0 b0 h hl hcap hP hN
  go_enter Tryd.func21, Tryd.ntmps21
  go_wp2_with fail
  refine HK.out.mono ?_
  rintro e w1 ⟨A1, n1, c1, rfl, hb1, h1⟩
  have B1 := Lib.hid (below_step BW.out hb1)
  have q0 := cell_kept p0 hb1
  have q1 := cell_kept p1 hb1
  have H1 := Lib.hid h1
  have hs1 := hb1.size
  clear hb1 h1 p0 p1 HK
  go_wp2_with fail
  refine (HKS.out w1 B1.out).mono ?_
  rintro e w2 ⟨A2, n2, c2, rfl, hb2, h2⟩
  have L2 := Lib.hid (hb2.trans ((below_box w2 (.cells #[.slice A2 n2 c2] 34)).mono hb2.size))
  have B2 := Lib.hid (below_step B1.out L2.out)
  have x0 : (w2.alloc (.cells #[.slice A2 n2 c2] 34)).cell? ⟨w.heap.size, 0, none⟩ = some (.int .i64 a) := cell_kept q0 L2.out
  have x1 : (w2.alloc (.cells #[.slice A2 n2 c2] 34)).cell? ⟨w.heap.size, 1, none⟩ = some (.int .i64 b) := cell_kept q1 L2.out
  have y2 : (w2.alloc (.cells #[.slice A2 n2 c2] 34)).cell? ⟨w2.heap.size, 0, none⟩ = some (.slice A2 n2 c2) := by simp
  have H2 := Lib.hid h2
  have M2 := Lib.hid (below_box w2 (.cells #[.slice A2 n2 c2] 34))
  clear hb2 h2 q0 q1
  go_wp2_with fail
  refine (HKT.out _ B2.out).mono ?_
  rintro e w3 ⟨A3, n3, c3, rfl, hb3, h3⟩
  have L3 := Lib.hid (hb3.trans ((below_box w3 (.cells #[.slice A3 n3 c3] 34)).mono hb3.size))
  have y2' := cell_kept y2 L3.out
  have y3 : (w3.alloc (.cells #[.slice A3 n3 c3] 34)).cell? ⟨w3.heap.size, 0, none⟩ = some (.slice A3 n3 c3) := by simp
  have M3 := Lib.hid (below_box w3 (.cells #[.slice A3 n3 c3] 34))
  have H3 := Lib.hid h3
  clear hb3 h3 x0 x1 y2
  have hfe := firstError_any (some ⟨w3.heap.size + 1, 0, none⟩) 3 [k, cs, ct] (w3.heap.size + 2) ((w3.alloc (.cells #[.slice A3 n3 c3] 34)).alloc (.cells #[.int .i64 k, .int .i64 cs, .int .i64 ct] 2)) (fun _ => ⟨w3.heap.size + 1, 0, rfl, by omega, fun x hx => by
    match x, hx with
    | 0, _ => simp [go_sem]
    | 1, _ => simp [go_sem]
    | 2, _ => simp [go_sem]
    | x + 3, hx => exact absurd (show x + 3 < 3 from hx) (by omega)⟩) (by simp) (by simp)
  rw [← HFE.out] at hfe
  have HFC := Lib.hid hfe
  have B4 := Lib.hid (below_box (w3.alloc (.cells #[.slice A3 n3 c3] 34)) (.cells #[.int .i64 k, .int .i64 cs, .int .i64 ct] 2))
  have z2 := cell_kept y2' B4.out
  have z3 := cell_kept y3 B4.out
  clear hfe y2' y3
  go_wp2_with fail
  refine HFC.out.mono ?_
  rintro e w5 ⟨rfl, hb5⟩
  have v2 := cell_kept z2 hb5
  have v3 := cell_kept z3 hb5
  have L5 := Lib.hid (below_step B4.out hb5)
  have B5 := Lib.hid (below_step B2.out (below_step L3.out L5.out))
  clear hb5 z2 z3 HFC B4
  by_cases hr0 : r = 0
  · obtain ⟨⟨i, j, rfl, rfl, hij, hj, h20, hv, hkb, hX, hS, hT⟩, hk0, _⟩ := HF.out hr0
    obtain ⟨g, E, K, rfl, rfl, rfl, hCE, hEO, hEn⟩ := H1.out hk0
    obtain ⟨g2, rfl, rfl, rfl, hr2⟩ := H2.out (HZS.out hr0).1
    obtain ⟨g3, rfl, rfl, rfl, hr3⟩ := H3.out (HZS.out hr0).2
    rw [Int.toNat_natCast, Int.toNat_natCast] at hEO
    have hEn5 := hEn.later (below_step L2.out (below_step L3.out L5.out))
    have row2 := hr2.later (below_step M2.out (below_step L3.out L5.out))
    have row3 := hr3.later (below_step M3.out L5.out)
    have hg0 : (w.alloc (.cells #[.int .i64 (i : Int), .int .i64 (j : Int)] 26)).heap.size ≤ w5.heap.size := Nat.le_trans hs1 (Nat.le_trans L2.out.size (Nat.le_trans L3.out.size L5.out.size))
    have hcw := cardsBet_any w2.heap.size w3.heap.size (betQ (holes D) i j (textCodes s) (textCodes t)) hEO hEn5 hg0 (fun k e p W hk he hp hW => by
      obtain ⟨d, e', p', hd, he', hp', x1, x2, x3, x4, x5, x6, x7⟩ := hEO.at_ hk
      obtain rfl : e = e' := Option.some.inj (he.symm.trans he')
      obtain rfl : p = p' := Option.some.inj (hp.symm.trans hp')
      obtain ⟨gp, exp, e1, rp⟩ := hEn5.keys p (List.mem_of_getElem? hp)
      have ip := (rp.later hW).ints
      rw [x2] at ip
      have i2 := (row2.later hW).ints
      have i3 := (row3.later hW).ints
      have l1 := (rp.later hW).lt
      have l2 := (row2.later hW).lt
      have l3 := (row3.later hW).lt
      have hpl : p.xs.length = j - i := by rw [x2, List.length_map, x3]
      have key := selKeep_any e.at_ (some ⟨gp, 0, none⟩) e.xs.length e.cap p.cap w2.heap.size w3.heap.size (some ⟨g2, 0, none⟩) (some ⟨g3, 0, none⟩) s.size t.size (partOf d.xs i j) (textCodes s) (textCodes t) (j - i) _ _ _ W ip i2 i3 (by omega) (by omega) (by omega) x3 hS.2.2.1 hT.2.2.1 (by omega) (by rw [← hS.1]; exact cell_kept v2 hW) (by rw [← hT.1]; exact cell_kept v3 hW)
      have hb : betQ (holes D) i j (textCodes s) (textCodes t) k = (decide (0 ≤ cmpTo (partOf d.xs i j) (textCodes s) (j - i)) && decide (cmpTo (partOf d.xs i j) (textCodes t) (j - i) ≤ 0)) := by
        unfold betQ
        rw [holes_at hd]
        rfl
      rw [hb]
      unfold CardV.value
      rw [e1, hpl]
      exact key)
    have HCW := Lib.hid hcw
    have hfin : holes (cardsE (betQ (holes D) i j (textCodes s) (textCodes t)) E n) = X := by
      rw [cardsE_holes _ _ _ (by rw [hEO.lenE]; omega), hEO.hE, hX, holes_len, HN.out]
    obtain ⟨Y, hY⟩ : ∃ Y, cardsE (betQ (holes D) i j (textCodes s) (textCodes t)) E n = Y := ⟨_, rfl⟩
    unfold GivesSel at HCW
    rw [hY] at HCW hfin
    have HFIN := Lib.hid hfin
    have hlen : X.length = Y.length := by rw [← hfin, holes_len]
    have HLEN := Lib.hid hlen
    subst hr0
    clear hcw hfin hlen hY hX hS hT row2 row3 hr2 hr3 hEn hEn5 hEO hCE hv hkb v2 v3 H1 H2 H3 HF HNIL HZS
    go_wp2_with fail
    refine HCW.out.mono ?_
    rintro e w6 ⟨A9, c9, rfl, hb6, hda⟩
    have B6 := Lib.hid (below_step B5.out hb6)
    have HDA := Lib.hid (hda.widen hsz0 (Nat.le_refl _) (Nat.le_refl _))
    clear hb6 hda HCW
    go_wp2
    go_ret2
    exact ⟨A9, c9, Y, by rw [HLEN.out]; rfl, HFIN.out, B6.out, HDA.out⟩
  · have hr1 : (r != 0) = true := by simpa using hr0
    have hX := HNIL.out hr0
    subst hX
    go_wp2
    go_ret2
    exact ⟨none, 0, [], rfl, rfl, B5.out, DeckAt.nil (Nat.le_refl _)⟩
end

theorem ask_two (H : List (List Int)) (a b : Int) (s : ByteArray) : askC H a b [s, s] = askC H a b [s] := by
  unfold askC firstC
  simp only [List.map_cons, List.map_nil, List.mem_cons, List.not_mem_nil, or_false, or_self]
theorem bet_two (H : List (List Int)) (a b : Int) (s : ByteArray) : betA H a b s s = eqA H a b s := by
  unfold betA eqA
  rw [ask_two]
section
variable (A : Option Addr) (c : Nat) (D : List CardV) (B : Nat) (a b : Int) (w : World) (h : Deck w B A D) (hB : B ≤ w.heap.size) (hn : D.length ≤ 1048576) (hl : ∀ d ∈ D, d.xs.length ≤ 1048576)
include h hB hn hl
theorem implEqual_any (hcap : CapsOk D) (hP : Places w) (s : ByteArray) (hs : s.size ≤ 1048576) :
    Calls Tryd.prog 20 #[.slice A D.length c, .agg #[.int .i64 a, .int .i64 b], .string s] w (GivesDC (eqA (holes D) a b s) (askC (holes D) a b [s]) w) := by
  have b0 := below_box w (.cells #[.int .i64 a, .int .i64 b] 26)
  have hk := implBetween_any A c D B a b _ (h.below (b0.mono hB)) (by simp; omega) hn hl hcap (hP.below b0) s s hs hs
  rw [ask_two, bet_two] at hk
  have hsz0 : w.heap.size ≤ (w.alloc (.cells #[.int .i64 a, .int .i64 b] 26)).heap.size := b0.size
  have BW := Lib.hid b0
  obtain ⟨L, hL⟩ : ∃ L, eqA (holes D) a b s = L := ⟨_, rfl⟩
  obtain ⟨k, hk0⟩ : ∃ k, askC (holes D) a b [s] = k := ⟨_, rfl⟩
  obtain ⟨n, hN⟩ : ∃ n, D.length = n := ⟨_, rfl⟩
  rw [hL, hk0, hN] at hk
  rw [hL, hk0, hN]
  have HK := Lib.hid hk
  clear hk h hl hcap b0 hP hL hk0 hN hn
  go_enter Tryd.func20, Tryd.ntmps20
  go_wp2_with fail
  refine HK.out.mono ?_
  rintro e w1 ⟨A1, c1, E, rfl, hE, hb, hi⟩
  have B1 := Lib.hid (below_step BW.out hb)
  have HI := Lib.hid (hi.widen hsz0 (Nat.le_refl _) (Nat.le_refl _))
  have HE := Lib.hid hE
  clear hb hi HK hE
  go_wp2
  go_ret2
  exact ⟨A1, c1, E, rfl, HE.out, B1.out, HI.out⟩
end
end Go.Proofs.YtdakbbgbglgioaaDoor

/- spec.SelectBetween and spec.SelectEqual answer the cards whose field lies between two texts, or has one: contracts. -/
namespace Go.Proofs.YtdakbbgbglgioaaDoor
open Go.ChangeShapes Go.WideShapes Go.ChangeAt Go.RowKit

theorem betQ_at {D : List CardV} {i j k : Nat} {d : CardV} (hd : D[k]? = some d) (x y : List Int) : betQ (holes D) i j x y k = (decide (0 ≤ cmpTo (partOf d.xs i j) x (j - i)) && decide (cmpTo (partOf d.xs i j) y (j - i) ≤ 0)) := by
  unfold betQ
  rw [holes_at hd]
  rfl
theorem keyText_any {D : List CardV} {i j n kg p : Nat} {w : World} {s : ByteArray} (hrow : KeyRow w kg D i j) (hv : deckB (holes D) = true) (hkb : keysB (holes D) i j = true) (hj : j ≤ widthH (holes D)) (hN : D.length = n) (hp : p < n) (hS : s.size = j - i ∧ legalT s = true ∧ (textCodes s).length = j - i ∧ textOk (textCodes s) = true ∧ textS (textCodes s) = s) :
    ∃ d S, D[p]? = some d ∧ w.cell? ⟨kg, p, none⟩ = some (.string S) ∧ textS (partOf d.xs i j) = S ∧ ∀ W, Calls Tryd.prog 49 #[.string S, .string s] W fun e w' => e = .returned (.int .i64 (cmpTo (partOf d.xs i j) (textCodes s) (j - i))) ∧ w' = W := by
  obtain ⟨d, hd, c1, l1, o1, h20, z1⟩ := keyOf_at hrow hv hkb hj hN hp
  refine ⟨d, _, hd, c1, rfl, fun W => ?_⟩
  have := l03Compare_any (textS (partOf d.xs i j)) (textS (textCodes s)) (partOf d.xs i j) (textCodes s) (j - i) z1 (by rw [hS.2.2.2.2]; exact hS.1) l1 hS.2.2.1 (fun k h => textS_get _ k h) (fun k h => textS_get _ k h) o1 hS.2.2.2.1 (by omega) W
  rw [hS.2.2.2.2] at this
  exact this.mono fun _ _ hh => ⟨hh.1, hh.2.symm⟩

theorem keyEq_any {D : List CardV} {i j n kg p : Nat} {w : World} {s : ByteArray} (hrow : KeyRow w kg D i j) (hv : deckB (holes D) = true) (hkb : keysB (holes D) i j = true) (hj : j ≤ widthH (holes D)) (hN : D.length = n) (hp : p < n) (hS : s.size = j - i ∧ legalT s = true ∧ (textCodes s).length = j - i ∧ textOk (textCodes s) = true ∧ textS (textCodes s) = s) :
    ∃ d S, D[p]? = some d ∧ w.cell? ⟨kg, p, none⟩ = some (.string S) ∧ (S = s → betQ (holes D) i j (textCodes s) (textCodes s) p = true) ∧ (¬ S = s → betQ (holes D) i j (textCodes s) (textCodes s) p = false) := by
  obtain ⟨d, hd, c1, l1, o1, _, _⟩ := keyOf_at hrow hv hkb hj hN hp
  have hz := cmpTo_zero l1 hS.2.2.1 o1 hS.2.2.2.1
  have ho := textS_one o1 hS.2.2.2.1
  rw [hS.2.2.2.2] at ho
  refine ⟨d, _, hd, c1, fun e => ?_, fun e => ?_⟩
  · rw [betQ_at hd, hz.2 (ho.1 e)]
    rfl
  · rw [betQ_at hd]
    have : ¬ cmpTo (partOf d.xs i j) (textCodes s) (j - i) = 0 := fun h => e (ho.2 (hz.1 h))
    rw [Bool.and_eq_false_iff, decide_eq_false_iff_not, decide_eq_false_iff_not]
    omega

section
variable (A : Option Addr) (c : Nat) (D : List CardV) (B : Nat) (a b : Int) (w : World) (h : Deck w B A D) (hB : B ≤ w.heap.size) (hn : D.length ≤ 1048576) (hl : ∀ d ∈ D, d.xs.length ≤ 1048576)
end
end Go.Proofs.YtdakbbgbglgioaaDoor
/- spec.FindCards and impl.FindCards tell where the cards with a text are in a sorted deck: contracts. -/
namespace Go.Proofs.YtdakbbgbglgioaaDoor
open Go.ChangeShapes Go.WideShapes Go.ChangeAt Go.RowKit

/-- how many places below n there are for which q holds -/
def countB (q : Nat → Bool) : Nat → Nat
  | 0 => 0
  | n + 1 => if q n = true then countB q n + 1 else countB q n
theorem countB_yes {q : Nat → Bool} {n : Nat} (h : q n = true) : countB q (n + 1) = countB q n + 1 := if_pos h
theorem countB_no {q : Nat → Bool} {n : Nat} (h : q n = false) : countB q (n + 1) = countB q n := if_neg (by simp [h])
theorem countB_le (q : Nat → Bool) : ∀ n, countB q n ≤ n
  | 0 => Nat.le_refl _
  | n + 1 => by
    have := countB_le q n
    unfold countB
    split <;> omega
def cmpX (H : List (List Int)) (i j : Nat) (x : List Int) (k : Nat) : Int := cmpTo (partOf (H[k]?.getD []) i j) x (j - i)
def lessX (H : List (List Int)) (i j : Nat) (x : List Int) (k : Nat) : Bool := decide (cmpX H i j x k < 0)
def sameX (H : List (List Int)) (i j : Nat) (x : List Int) (k : Nat) : Bool := decide (cmpX H i j x k = 0)
def findC (H : List (List Int)) (a b : Int) (s : ByteArray) : Int := if askC H a b [s] ≠ 0 then askC H a b [s] else if 0 ≤ stepV H a.toNat b.toNat then 6 else 0
def findL (H : List (List Int)) (a b : Int) (s : ByteArray) : Int := if findC H a b s = 0 then (countB (lessX H a.toNat b.toNat (textCodes s)) H.length : Nat) else 0
def findN (H : List (List Int)) (a b : Int) (s : ByteArray) : Int := if findC H a b s = 0 then (countB (sameX H a.toNat b.toNat (textCodes s)) H.length : Nat) else 0
theorem cmpX_at {D : List CardV} {i j k : Nat} {d : CardV} (hd : D[k]? = some d) (x : List Int) : cmpX (holes D) i j x k = cmpTo (partOf d.xs i j) x (j - i) := by
  unfold cmpX
  rw [holes_at hd]
  rfl
/-- one card's share in both counts -/
theorem count_step {H : List (List Int)} {i j k : Nat} {x : List Int} {v : Int} (hv : cmpX H i j x k = v) :
    countB (lessX H i j x) (k + 1) = (if v < 0 then countB (lessX H i j x) k + 1 else countB (lessX H i j x) k) ∧ countB (sameX H i j x) (k + 1) = (if v = 0 then countB (sameX H i j x) k + 1 else countB (sameX H i j x) k) := by
  constructor
  · by_cases h : v < 0
    · rw [if_pos h]; exact countB_yes (by unfold lessX; rw [hv]; exact decide_eq_true h)
    · rw [if_neg h]; exact countB_no (by unfold lessX; rw [hv]; exact decide_eq_false h)
  · by_cases h : v = 0
    · rw [if_pos h]; exact countB_yes (by unfold sameX; rw [hv]; exact decide_eq_true h)
    · rw [if_neg h]; exact countB_no (by unfold sameX; rw [hv]; exact decide_eq_false h)
theorem find_facts {H : List (List Int)} {a b : Int} {s : ByteArray} (h : askC H a b [s] = 0) : ∃ i j : Nat, a = i ∧ b = j ∧ i < j ∧ j ≤ widthH H ∧ deckB H = true ∧ keysB H i j = true ∧ j ≤ 20 ∧
    (s.size = j - i ∧ legalT s = true ∧ (textCodes s).length = j - i ∧ textOk (textCodes s) = true ∧ textS (textCodes s) = s) ∧
    (stepV H i j < 0 → findC H a b s = 0 ∧ findL H a b s = (countB (lessX H i j (textCodes s)) H.length : Nat) ∧ findN H a b s = (countB (sameX H i j (textCodes s)) H.length : Nat)) ∧
    (0 ≤ stepV H i j → findC H a b s = 6 ∧ findL H a b s = 0 ∧ findN H a b s = 0) := by
  obtain ⟨i, j, rfl, rfl, hij, hj, h20, hv, hkb, _, hS, _⟩ := betA_facts (s := s) (t := s) (by rw [ask_two]; exact h)
  refine ⟨i, j, rfl, rfl, hij, hj, hv, hkb, h20, hS, fun h0 => ?_, fun h0 => ?_⟩
  · have e : findC H i j s = 0 := by
      unfold findC
      rw [if_neg (by simp [h]), Int.toNat_natCast, Int.toNat_natCast, if_neg (by omega)]
    refine ⟨e, ?_, ?_⟩
    · unfold findL
      rw [if_pos e, Int.toNat_natCast, Int.toNat_natCast]
    · unfold findN
      rw [if_pos e, Int.toNat_natCast, Int.toNat_natCast]
  · have e : findC H i j s = 6 := by
      unfold findC
      rw [if_neg (by simp [h]), Int.toNat_natCast, Int.toNat_natCast, if_pos h0]
    refine ⟨e, ?_, ?_⟩
    · unfold findL
      rw [if_neg (by rw [e]; decide)]
    · unfold findN
      rw [if_neg (by rw [e]; decide)]
theorem find_no {H : List (List Int)} {a b : Int} {s : ByteArray} (h : askC H a b [s] ≠ 0) : findC H a b s = askC H a b [s] ∧ findL H a b s = 0 ∧ findN H a b s = 0 := by
  have e : findC H a b s = askC H a b [s] := by unfold findC; rw [if_pos h]
  refine ⟨e, ?_, ?_⟩
  · unfold findL; rw [if_neg (by rw [e]; exact h)]
  · unfold findN; rw [if_neg (by rw [e]; exact h)]

section
variable (A : Option Addr) (c : Nat) (D : List CardV) (B : Nat) (a b : Int) (w : World) (h : Deck w B A D) (hB : B ≤ w.heap.size) (hn : D.length ≤ 1048576) (hl : ∀ d ∈ D, d.xs.length ≤ 1048576)
include h hB hn hl

set_option maxRecDepth 100000 in
set_option maxHeartbeats 4000000 in
theorem implFind_any (hcap : CapsOk D) (hP : Places w) (s : ByteArray) (hs : s.size ≤ 1048576) :
    Calls Tryd.prog 22 #[.slice A D.length c, .agg #[.int .i64 a, .int .i64 b], .string s] w fun e w' => e = .returned (.tuple #[.int .i64 (findL (holes D) a b s), .int .i64 (findN (holes D) a b s), .int .i64 (findC (holes D) a b s)]) ∧ Below w.heap.size w w' := by
  have b0 := below_box w (.cells #[.int .i64 a, .int .i64 b] 26)
  have hk := entriesU_any A c D B a b (w.alloc (.cells #[.int .i64 a, .int .i64 b] 26)) (h.below (b0.mono hB)) (by simp; omega) hn hl hcap (hP.below b0)
  have p0 : (w.alloc (.cells #[.int .i64 a, .int .i64 b] 26)).cell? ⟨w.heap.size, 0, none⟩ = some (.int .i64 a) := by simp
  have p1 : (w.alloc (.cells #[.int .i64 a, .int .i64 b] 26)).cell? ⟨w.heap.size, 1, none⟩ = some (.int .i64 b) := by simp
  have hks := fun W (hW : Below w.heap.size w W) => keyTextU_any s hs a b W (hP.below hW)
  have hfacts := fun (h0 : askC (holes D) a b [s] = 0) => And.intro (find_facts h0) (ask_zero h0)
  have hnil := fun (h0 : askC (holes D) a b [s] ≠ 0) => find_no h0
  have hfe : askC (holes D) a b [s] = firstC [keysC (holes D) a b, textC s (IntKind.i64.wrap (b - a))] := rfl
  obtain ⟨k, hk0⟩ : ∃ k, keysC (holes D) a b = k := ⟨_, rfl⟩
  obtain ⟨cs, hcs⟩ : ∃ x, textC s (IntKind.i64.wrap (b - a)) = x := ⟨_, rfl⟩
  obtain ⟨r, hr⟩ : ∃ r, askC (holes D) a b [s] = r := ⟨_, rfl⟩
  rw [hr, hk0, hcs] at hfe
  simp only [hcs] at hks
  simp only [hr, hk0] at hfacts hnil
  have hzs : (r = 0 → cs = 0) := fun h0 => by
    obtain ⟨_, _, h3⟩ := hfacts h0
    rw [← hcs]
    exact h3 s (by simp)
  rw [hk0] at hk
  obtain ⟨n, hN⟩ : ∃ n, D.length = n := ⟨_, rfl⟩
  rw [hN] at hk ⊢
  simp only [holes_len, hN] at hfacts
  obtain ⟨rl, hrl⟩ : ∃ r, findL (holes D) a b s = r := ⟨_, rfl⟩
  obtain ⟨rn, hrn⟩ : ∃ r, findN (holes D) a b s = r := ⟨_, rfl⟩
  obtain ⟨rc, hrc⟩ : ∃ r, findC (holes D) a b s = r := ⟨_, rfl⟩
  rw [hrl, hrn, hrc] at hfacts hnil ⊢
  have HK := Lib.hid hk
  have HKS := Lib.hid hks
  have HF := Lib.hid hfacts
  have HNIL := Lib.hid hnil
  have HZS := Lib.hid hzs
  have HFE := Lib.hid hfe
  have BW := Lib.hid b0
  have HN := Lib.hid hN
  clear hk hks hfacts hnil hfe hzs hr hcs hk0 b0 h hl hcap hP hN hrl hrn hrc
  go_enter Tryd.func22, Tryd.ntmps22
  go_wp2_with fail
  refine HK.out.mono ?_
  rintro e w1 ⟨A1, n1, c1, rfl, hb1, h1⟩
  have B1 := Lib.hid (below_step BW.out hb1)
  have q0 := cell_kept p0 hb1
  have q1 := cell_kept p1 hb1
  have H1 := Lib.hid h1
  clear hb1 h1 p0 p1 HK
  go_wp2_with fail
  refine (HKS.out w1 B1.out).mono ?_
  rintro e w2 ⟨A2, n2, c2, rfl, hb2, h2⟩
  have L2 := Lib.hid hb2
  have B2 := Lib.hid (below_step B1.out L2.out)
  have H2 := Lib.hid h2
  clear hb2 h2 q0 q1
  have hfe := firstError_any (some ⟨w2.heap.size, 0, none⟩) 2 [k, cs] (w2.heap.size + 1) (w2.alloc (.cells #[.int .i64 k, .int .i64 cs] 2)) (fun _ => ⟨w2.heap.size, 0, rfl, by omega, fun x hx => by
    match x, hx with
    | 0, _ => simp [go_sem]
    | 1, _ => simp [go_sem]
    | x + 2, hx => exact absurd (show x + 2 < 2 from hx) (by omega)⟩) (by simp) (by simp)
  rw [← HFE.out] at hfe
  have HFC := Lib.hid hfe
  have B4 := Lib.hid (below_box w2 (.cells #[.int .i64 k, .int .i64 cs] 2))
  clear hfe
  go_wp2_with fail
  refine HFC.out.mono ?_
  rintro e w5 ⟨rfl, hb5⟩
  have L5 := Lib.hid (below_step B4.out hb5)
  have B5 := Lib.hid (below_step B2.out L5.out)
  clear hb5 HFC B4
  by_cases hr0 : r = 0
  · obtain ⟨⟨i, j, rfl, rfl, hij, hj, hv, hkb, h20, hS, hgood, hbad⟩, hk0, _⟩ := HF.out hr0
    obtain ⟨g, E, K, rfl, rfl, rfl, hCE, hEO, hEn⟩ := H1.out hk0
    obtain ⟨g2, rfl, rfl, rfl, hr2⟩ := H2.out (HZS.out hr0)
    rw [Int.toNat_natCast, Int.toNat_natCast] at hEO
    have hEn5 := hEn.later (below_step L2.out L5.out)
    have row2 := hr2.later L5.out
    have hio := inOrder_any hEO hEn5
    obtain ⟨sv, hsv⟩ : ∃ sv, stepV (holes D) i j = sv := ⟨_, rfl⟩
    rw [hsv] at hgood hbad hio
    obtain ⟨ys, hys⟩ : ∃ ys, textCodes s = ys := ⟨_, rfl⟩
    rw [hys] at hgood row2 hS
    have HIO := Lib.hid hio
    have HG := Lib.hid hgood
    have HBD := Lib.hid hbad
    have HEO := Lib.hid hEO
    have HEN := Lib.hid hEn5
    have HRW := Lib.hid row2
    have HS := Lib.hid hS
    have hn40 := hEO.n40
    subst hr0
    have hsz : s.size = j - i := hS.1
    obtain ⟨m, hm⟩ : ∃ m, j - i = m := ⟨_, rfl⟩
    rw [hsz, hm]
    have HM := Lib.hid hm
    clear hio hgood hbad hEO hEn hEn5 row2 hr2 hCE hv hkb H1 H2 HF HNIL HZS hsv hys hS hsz hm
    go_wp2_with fail
    refine HIO.out.mono ?_
    rintro e w6 ⟨rfl, hb6⟩
    have L6 := Lib.hid hb6
    have B6 := Lib.hid (below_step B5.out hb6)
    clear hb6 HIO
    by_cases hneg : 0 ≤ sv
    · obtain ⟨q1, q2, q3⟩ := HBD.out hneg
      subst q1 q2 q3
      have e1 : decide (sv < 0) = false := decide_eq_false (by omega)
      go_wp2
      go_ret3
      exact ⟨rfl, B6.out⟩
    · have e1 : sv < 0 := by omega
      obtain ⟨q1, q2, q3⟩ := HG.out e1
      have Q2 := Lib.hid q2
      have Q3 := Lib.hid q3
      subst q1
      clear q2 q3 HG HBD
      go_wp2
      go_loopw [14, 15, 43] (fun va vn vi wr => ∃ t : Nat, t ≤ n ∧ vi = .int .i64 t ∧ va = .int .i64 ((countB (lessX (holes D) i j ys) t : Nat) : Int) ∧ vn = .int .i64 ((countB (sameX (holes D) i j ys) t : Nat) : Int) ∧ Hid (Below w6.heap.size w6 wr)) (fun _ _ vi _ => n - (intOf vi).toNat)
      case atStart => exact ⟨0, Nat.zero_le _, rfl, rfl, rfl, Below.refl _ _⟩
      case round =>
        obtain ⟨t, ht, rfl, rfl, rfl, HB⟩ := hrel
        by_cases hlt : t < n
        · have LW := below_step L6.out HB.out
          have hE := HEN.out.later LW
          obtain ⟨d, e, p, hd, he, hp, x1, x2, x3, x4, x5, x6, x7⟩ := HEO.out.at_ hlt
          have c1 := hE.card (by rw [HEO.out.lenE, HEO.out.lenK]; omega) he
          have c2 := hE.key (by rw [HEO.out.lenE]; exact hlt) hp
          have hpl : p.xs.length = m := by rw [x2, List.length_map, x3, HM.out]
          unfold CardV.value at c1 c2
          rw [hpl] at c2
          obtain ⟨gp, exp, e1, rp⟩ := hE.keys p (List.mem_of_getElem? hp)
          rw [e1] at c2
          have bx := below_box wr (.cells #[.slice e.at_ e.xs.length e.cap, .slice (some ⟨gp, 0, none⟩) m p.cap] 75)
          have i1 := (rp.later bx).ints
          rw [x2] at i1
          have i2 := (HRW.out.later (LW.trans (bx.mono LW.size))).ints
          have hc := slicesCompare_any (some ⟨gp, 0, none⟩) (some ⟨g2, 0, none⟩) p.cap m (partOf d.xs i j) ys m (gp + 1) (g2 + 1) _ i1 i2 (by rw [x3, HM.out]) (by rw [HS.out.2.2.1, HM.out]) (by have := HM.out; omega)
          have hcx := cmpX_at (i := i) (j := j) hd ys
          rw [HM.out] at hcx
          obtain ⟨v, hv⟩ : ∃ v, cmpTo (partOf d.xs i j) ys m = v := ⟨_, rfl⟩
          rw [hv] at hcx hc
          obtain ⟨hl1, hs1⟩ := count_step hcx
          obtain ⟨x, hx⟩ : ∃ x, countB (lessX (holes D) i j ys) t = x := ⟨_, rfl⟩
          obtain ⟨y, hy⟩ : ∃ y, countB (sameX (holes D) i j ys) t = y := ⟨_, rfl⟩
          have hx40 := countB_le (lessX (holes D) i j ys) t
          have hy40 := countB_le (sameX (holes D) i j ys) t
          rw [hx] at hl1 hx40
          rw [hy] at hs1 hy40
          rw [hx, hy]
          have C1 := Lib.hid hc
          have HBX := Lib.hid (below_step HB.out bx)
          have t0 : (0 : Int) ≤ (t : Int) := Int.natCast_nonneg _
          have t1 : (t : Int) < (n : Int) := by omega
          obtain ⟨le, hle⟩ : ∃ l, e.xs.length = l := ⟨_, rfl⟩
          rw [hle] at c1 C1 HBX
          clear hE LW hc hv hd he hp x1 x2 x3 x4 x5 x6 x7 hpl e1 rp bx i1 i2 hcx hx hy hle
          rcases Int.lt_trichotomy v 0 with hv0 | hv0 | hv0
          · rw [if_pos hv0] at hl1
            rw [if_neg (by omega)] at hs1
            have HL1 := Lib.hid hl1
            have HS1 := Lib.hid hs1
            clear hl1 hs1
            go_wp2_with fail
            refine C1.out.mono ?_
            rintro e w' ⟨rfl, rfl⟩
            go_wp2
            go_roundw
            case rel => exact ⟨t + 1, by omega, by go_num, by rw [HL1.out]; go_num, by rw [HS1.out], HBX⟩
            case measure => simp [intOf]; omega
          · subst hv0
            rw [if_neg (by omega)] at hl1
            rw [if_pos rfl] at hs1
            have HL1 := Lib.hid hl1
            have HS1 := Lib.hid hs1
            clear hl1 hs1
            go_wp2_with fail
            refine C1.out.mono ?_
            rintro e w' ⟨rfl, rfl⟩
            go_wp2
            go_roundw
            case rel => exact ⟨t + 1, by omega, by go_num, by rw [HL1.out], by rw [HS1.out]; go_num, HBX⟩
            case measure => simp [intOf]; omega
          · rw [if_neg (by omega)] at hl1
            rw [if_neg (by omega)] at hs1
            have HL1 := Lib.hid hl1
            have HS1 := Lib.hid hs1
            have e1 : (v == 0) = false := by simp; omega
            have e2 : ¬ v < 0 := by omega
            clear hl1 hs1
            go_wp2_with fail
            refine C1.out.mono ?_
            rintro e w' ⟨rfl, rfl⟩
            go_wp2
            go_roundw
            case rel => exact ⟨t + 1, by omega, by go_num, by rw [HL1.out], by rw [HS1.out], HBX⟩
            case measure => simp [intOf]; omega
        · obtain rfl : t = n := by omega
          have t1 : ¬ (t : Int) < (t : Int) := by omega
          have e2 := Q2.out
          have e3 := Q3.out
          subst e2 e3
          have BB := Lib.hid (below_step B6.out HB.out)
          clear Q2 Q3
          go_wp2
          go_ret3
          exact ⟨rfl, BB.out⟩
  · have hr1 : (r != 0) = true := by simpa using hr0
    obtain ⟨q1, q2, q3⟩ := HNIL.out hr0
    subst q1 q2 q3
    go_wp2
    go_ret3
    exact ⟨rfl, B5.out⟩
end
end Go.Proofs.YtdakbbgbglgioaaDoor

/- The cards of a sorted deck with one text stand one behind the other, from the place on that FindCards tells. No function of the program is spoken of. -/
namespace Go.Proofs.YtdakbbgbglgioaaDoor
open Go.ChangeShapes Go.WideShapes Go.ChangeAt Go.RowKit

theorem count_all {q : Nat → Bool} : ∀ m, (∀ k, k < m → q k = true) → countB q m = m
  | 0, _ => rfl
  | m + 1, h => by rw [countB_yes (h m (by omega)), count_all m fun k hk => h k (by omega)]
/-- a property that holds below where it holds: the count is its end -/
theorem count_down {q : Nat → Bool} {n : Nat} (h : ∀ k l, k < l → l < n → q l = true → q k = true) : ∀ m, m ≤ n → ∀ k, k < m → (q k = true ↔ k < countB q m)
  | 0, _, k, hk => by omega
  | m + 1, hm, k, hk => by
    cases hq : q m with
    | true =>
      have ha : countB q m = m := count_all m fun k hk => h k m hk (by omega) hq
      rw [countB_yes hq, ha]
      refine ⟨fun _ => hk, fun _ => ?_⟩
      by_cases e : k = m
      · rw [e]; exact hq
      · exact h k m (by omega) (by omega) hq
    | false =>
      rw [countB_no hq]
      by_cases e : k = m
      · subst e
        have := countB_le q k
        rw [hq]
        exact ⟨fun e => (by cases e), fun e => (by omega)⟩
      · exact count_down h m (by omega) k (by omega)
/-- two properties that exclude each other -/
theorem count_or {p q : Nat → Bool} (h : ∀ k, p k = true → q k = false) : ∀ m, countB (fun k => p k || q k) m = countB p m + countB q m
  | 0 => rfl
  | m + 1 => by
    have ih := count_or h m
    cases hp : p m with
    | true => rw [countB_yes (q := fun k => p k || q k) (by simp [hp]), countB_yes hp, countB_no (h m hp), ih]; omega
    | false =>
      cases hq : q m with
      | true => rw [countB_yes (q := fun k => p k || q k) (by simp [hq]), countB_no hp, countB_yes hq, ih]; omega
      | false => rw [countB_no (q := fun k => p k || q k) (by simp [hp, hq]), countB_no hp, countB_no hq, ih]
/-- the cards of a stretch -/
theorem cards_stretch {q : Nat → Bool} {H : List (List Int)} {L R : Nat} (hLR : L ≤ R) : ∀ m, m ≤ H.length → (∀ k, k < m → (q k = true ↔ L ≤ k ∧ k < R)) → cardsPl q H m = (H.take (min m R)).drop L
  | 0, _, _ => by simp [cardsPl]
  | m + 1, hm, h => by
    have ih := cards_stretch (q := q) (H := H) hLR m (by omega) fun k hk => h k (by omega)
    have hq := h m (by omega)
    have hx : H[m]? = some (H[m]'(by omega)) := List.getElem?_eq_getElem _
    cases e : q m with
    | true =>
      obtain ⟨h1, h2⟩ := hq.1 e
      have hd : (H.take m ++ [H[m]'(by omega)]).drop L = (H.take m).drop L ++ [H[m]'(by omega)] := by
        have hl : L ≤ (H.take m).length := by rw [List.length_take]; omega
        exact List.drop_append_of_le_length hl
      rw [cardsPl_yes e hx, ih, Nat.min_eq_left (show m ≤ R by omega), Nat.min_eq_left (show m + 1 ≤ R by omega), List.take_add_one, hx, ← hd]
      rfl
    | false =>
      have h1 : ¬ (L ≤ m ∧ m < R) := fun h => by rw [hq.2 h] at e; cases e
      have e2 : cardsPl q H (m + 1) = cardsPl q H m := by rw [cardsPl, if_neg (by simp [e])]
      rw [e2, ih]
      by_cases hR : R ≤ m
      · rw [Nat.min_eq_right hR, Nat.min_eq_right (by omega)]
      · have d1 : (H.take (min m R)).drop L = [] := List.drop_of_length_le (by rw [List.length_take]; omega)
        have d2 : (H.take (min (m + 1) R)).drop L = [] := List.drop_of_length_le (by rw [List.length_take]; omega)
        rw [d1, d2]
/-- a sorted deck and a text: the cards below it, and those with it -/
theorem sorted_stretch {H : List (List Int)} {i j : Nat} {x : List Int} (hs : ∀ k l, k < l → l < H.length → cmpK H i j k l ≤ 0) :
    countB (lessX H i j x) H.length + countB (sameX H i j x) H.length ≤ H.length ∧
    (∀ k, k < H.length → (sameX H i j x k = true ↔ countB (lessX H i j x) H.length ≤ k ∧ k < countB (lessX H i j x) H.length + countB (sameX H i j x) H.length)) := by
  have hdl : ∀ k l, k < l → l < H.length → lessX H i j x l = true → lessX H i j x k = true := fun k l hkl hl h => by
    unfold lessX cmpX at h ⊢
    rw [decide_eq_true_eq] at h ⊢
    have hc := hs k l hkl hl
    unfold cmpK at hc
    exact (cmpTo_down _ _ _ _).2 ⟨hc, by omega, Or.inr h⟩
  have hdo : ∀ k l, k < l → l < H.length → (lessX H i j x l || sameX H i j x l) = true → (lessX H i j x k || sameX H i j x k) = true := fun k l hkl hl h => by
    have hc := hs k l hkl hl
    unfold cmpK at hc
    unfold lessX sameX cmpX at h ⊢
    simp only [Bool.or_eq_true, decide_eq_true_eq] at h ⊢
    by_cases h1 : cmpTo (partOf (H[k]?.getD []) i j) (partOf (H[l]?.getD []) i j) (j - i) < 0 ∨ cmpTo (partOf (H[l]?.getD []) i j) x (j - i) < 0
    · exact Or.inl ((cmpTo_down _ _ _ _).2 ⟨hc, by omega, h1⟩)
    · exact Or.inr ((cmpTo_down _ (partOf (H[l]?.getD []) i j) _ _).1 ⟨by omega, by omega⟩)
  have hex : ∀ k, lessX H i j x k = true → sameX H i j x k = false := fun k h => by
    unfold lessX at h
    unfold sameX
    rw [decide_eq_true_eq] at h
    exact decide_eq_false (by omega)
  have hor := count_or hex H.length
  have hle := countB_le (fun k => lessX H i j x k || sameX H i j x k) H.length
  refine ⟨by omega, fun k hk => ?_⟩
  have h1 := count_down hdl H.length (Nat.le_refl _) k hk
  have h2 := count_down (q := fun k => lessX H i j x k || sameX H i j x k) hdo H.length (Nat.le_refl _) k hk
  rw [hor] at h2
  constructor
  · intro h
    refine ⟨?_, h2.1 (by simp [h])⟩
    rcases Nat.lt_or_ge k (countB (lessX H i j x) H.length) with h3 | h3
    · have := hex k (h1.2 h3)
      rw [h] at this
      cases this
    · exact h3
  · rintro ⟨h3, h4⟩
    have h5 := h2.2 h4
    simp only [Bool.or_eq_true] at h5
    rcases h5 with h5 | h5
    · have := h1.1 h5
      omega
    · exact h5
/-- the text of a part asks for no error -/
theorem ask_part {H : List (List Int)} {i j : Nat} {ys : List Int} (hk : keysC H i j = 0) (hij : i < j) (hj : j ≤ 20) (hl : ys.length = j - i) (ht : textOk ys = true) (h0 : ∀ x ∈ ys, 0 ≤ x) : askC H i j [textS ys] = 0 ∧ textCodes (textS ys) = ys ∧ (textS ys).size = j - i := by
  have hs : (textS ys).size = j - i := by rw [← hl]; exact textL_length _
  have hw : IntKind.i64.wrap ((j : Int) - (i : Int)) = (j : Int) - (i : Int) := IntWalk.i64_in _ (by omega)
  have hc : textC (textS ys) (IntKind.i64.wrap ((j : Int) - (i : Int))) = 0 := by
    unfold textC
    rw [hw, hs, if_neg (by omega), if_neg (by rw [legal_text ys ht h0]; decide)]
  refine ⟨?_, textCodes_textS ys ht, hs⟩
  unfold askC
  simp only [List.map_cons, List.map_nil, hk, hc]
  decide
theorem charR_pos : ∀ n : Fin 40, 0 ≤ codeS (charR n.val) := by decide +kernel
theorem charOk_pos {m : Int} (h : charOk m = true) : 0 ≤ m := by
  obtain ⟨k, hk⟩ := Option.isSome_iff_exists.1 h
  obtain ⟨h1, h2, _⟩ := rankM_some hk
  have := charR_pos ⟨k, h1⟩
  rw [h2] at this
  exact this
theorem sortV_le (H : List (List Int)) (i j k l : Nat) (hkl : k < l) (hl : l < (sortV H i j).length) : cmpK (sortV H i j) i j k l ≤ 0 := by
  rw [sortV_length] at hl
  obtain ⟨p, hp, _, _⟩ := sortV_at (H := H) (i := i) (j := j) (k := k) (by omega)
  obtain ⟨q, hq, _, _⟩ := sortV_at (H := H) (i := i) (j := j) (k := l) hl
  have hs := (orderV_is H i j).2
  rw [Srt, List.pairwise_iff_getElem] at hs
  obtain ⟨h1, e1⟩ := List.getElem?_eq_some_iff.1 hp
  obtain ⟨h2, e2⟩ := List.getElem?_eq_some_iff.1 hq
  have := hs k l h1 h2 hkl
  rw [e1, e2] at this
  rw [sortV_cmp hp hq]
  rcases this with h | ⟨h, _⟩ <;> omega
/-- what the three functions answer for a card of a sorted deck -/
theorem sel_facts {H : List (List Int)} {i j r : Nat} {x : List Int} (hk : keysC H i j = 0) (hij : i < j) (hj : j ≤ 20) (hx : (sortV H i j)[r]? = some x) :
    ∃ L Q : Nat, askC (sortV H i j) i j [textS (partOf x i j)] = 0 ∧ eqA (sortV H i j) i j (textS (partOf x i j)) = ((sortV H i j).drop L).take Q ∧ findL (sortV H i j) i j (textS (partOf x i j)) = L ∧ findN (sortV H i j) i j (textS (partOf x i j)) = Q ∧ findC (sortV H i j) i j (textS (partOf x i j)) = 0 ∧
      L ≤ r ∧ r < L + Q ∧ L + Q ≤ (sortV H i j).length ∧ (textS (partOf x i j)).size ≤ 20 ∧ textOk (partOf x i j) = true ∧ partCode x i j = 0 ∧ okB (partOf x i j) = true ∧ x.length ≤ 20 ∧ j ≤ x.length := by
  have hc := sortV_code hk
  obtain ⟨i', j', e1, e2, _, hjw, hv, hkb⟩ := keysC_zero hc
  rw [Int.toNat_natCast, Int.toNat_natCast] at *
  obtain rfl : i' = i := by omega
  obtain rfl : j' = j := by omega
  obtain ⟨y1, y2⟩ := deck_width hv hx
  have h20 := (okB_parts y1).2
  have ht := keysB_at hx hkb
  have hpl := partOf_length x i' j' (by rw [y2]; exact hjw)
  obtain ⟨ha, htc, hsz⟩ := ask_part hc hij hj hpl ht (fun c hc => charOk_pos (List.all_eq_true.1 ht c hc))
  obtain ⟨hle, hst⟩ := sorted_stretch (x := partOf x i' j') (fun k l hkl hl => sortV_le H i' j' k l hkl hl)
  have hr := (List.getElem?_eq_some_iff.1 hx).1
  have hself : sameX (sortV H i' j') i' j' (partOf x i' j') r = true := by
    unfold sameX cmpX
    rw [hx]
    exact decide_eq_true ((cmpTo_zero hpl hpl ht ht).2 rfl)
  obtain ⟨r1, r2⟩ := (hst r hr).1 hself
  obtain ⟨ii, jj, f1, f2, _, _, _, _, _, _, hF, _⟩ := find_facts ha
  obtain rfl : ii = i' := by omega
  obtain rfl : jj = j' := by omega
  obtain ⟨g1, g2, g3⟩ := hF (by rw [sortV_step]; omega)
  rw [htc] at g2 g3
  refine ⟨_, _, ha, ?_, g2, g3, g1, r1, r2, hle, by omega, ht, ?_, ?_, h20, by rw [y2]; exact hjw⟩
  · unfold eqA
    rw [if_pos ha, htc, Int.toNat_natCast, Int.toNat_natCast, cards_stretch (q := betQ (sortV H ii jj) ii jj (partOf x ii jj) (partOf x ii jj)) (Nat.le_add_right _ _) (sortV H ii jj).length (Nat.le_refl _) (fun k hk => ?_), Nat.min_eq_right hle, List.drop_take, Nat.add_sub_cancel_left]
    have := hst k hk
    rw [← this]
    unfold betQ sameX cmpX
    rw [Bool.and_eq_true, decide_eq_true_eq, decide_eq_true_eq, decide_eq_true_eq]
    omega
  · unfold partCode
    rw [if_neg (by simp [y1]), if_neg (by rw [fieldB, y2]; simp; omega)]
  · rw [okB, Bool.and_eq_true]
    refine ⟨?_, by rw [hpl]; simp [inB]; omega⟩
    have hm := (okB_parts y1).1
    rw [legalB, List.all_eq_true] at hm ⊢
    exact fun c hc => hm c ((List.take_sublist _ _).trans (List.drop_sublist _ _) |>.subset hc)
end Go.Proofs.YtdakbbgbglgioaaDoor
