/- Texts for a field: spec.l09Text, impl.keyOfText; and which error is told: slices.Index and slices.Contains at int64, impl.firstError: contracts. -/
import Derived.Test.YtmdamciheekeoaaDoorColMath
import Derived.Test.YtmdamciheekeoaaDoorF1
import Derived.Test.YtmdamciheekeoaaDoorSortKeys
namespace Go.Proofs.YtmdamciheekeoaaDoor
open Go.ChangeShapes Go.WideShapes Go.ChangeAt Go.RowKit

theorem legalT_of {s : ByteArray} (h : legalTo s s.size) : legalT s = true := legalT_all h
theorem l09Text_any (s : ByteArray) (hs : s.size ≤ 1048576) (a b : Int) (w : World) :
    Calls Tryd.prog 85 #[.string s, .agg #[.int .i64 a, .int .i64 b]] w fun e w' => e = .returned (.int .i64 (textC s (IntKind.i64.wrap (b - a)))) ∧ Below w.heap.size w w' := by
  obtain ⟨l, hl⟩ : ∃ l, IntKind.i64.wrap (b - a) = l := ⟨_, rfl⟩
  rw [hl]
  have BW := Lib.hid (below_box w (.cells #[.int .i64 a, .int .i64 b] 30))
  have HC := Lib.hid l03Code_any
  by_cases hz : (s.size : Int) = l
  · obtain ⟨r, hr⟩ : ∃ r, legalT s = r := ⟨_, rfl⟩
    have e0 : textC s l = if r = false then 7 else 0 := by
      unfold textC
      rw [if_neg (by simpa using hz), hr]
    rw [e0]
    have HR := Lib.hid hr
    have e1 : ((s.size : Int) != l) = false := by simpa using hz
    clear e0 hr
    have hsz := hs
    clear hz
    go_enter Tryd.func85, Tryd.ntmps85
    go_wp2
    clear e1 hl
    go_loopw [5] (fun i wr => ∃ k : Nat, k ≤ s.size ∧ i = .int .i64 k ∧ Hid (legalTo s k) ∧ Hid (Below w.heap.size w wr)) (fun i _ => s.size - (intOf i).toNat)
    case atStart => exact ⟨0, Nat.zero_le _, rfl, legalTo_zero s, BW⟩
    case round =>
      obtain ⟨k, hk, rfl, HL, HB⟩ := hrel
      by_cases hlt : k < s.size
      · have hlt' : (k : Int) < (s.size : Int) := by omega
        obtain ⟨x, hx⟩ : ∃ x : Int, ((s[k]'hlt).toNat : Int) = x := ⟨_, rfl⟩
        have hxb : 0 ≤ x ∧ x ≤ 255 := by have := (s[k]'hlt).toNat_lt; omega
        have hc := fun W => HC.out x hxb.1 hxb.2 W
        have Hx := Lib.hid hx
        obtain ⟨y, hy⟩ : ∃ y, codeS x = y := ⟨_, rfl⟩
        rw [hy] at hc
        have Hy := Lib.hid hy
        have HX := Lib.hid hc
        clear hc hy
        by_cases hneg : y < 0
        · obtain rfl : r = false := by rw [← HR.out]; exact legalT_bad s k hlt (by rw [Hx.out, Hy.out]; exact hneg)
          go_wp2_with (go_at_call 97; refine (HX.out _).mono ?_; rintro e w' ⟨rfl, rfl⟩)
          go_ret
          exact ⟨rfl, HB.out⟩
        · have HL1 : Hid (legalTo s (k + 1)) := legalTo_step HL.out hlt (by rw [Hx.out, Hy.out]; omega)
          go_wp2_with (go_at_call 97; refine (HX.out _).mono ?_; rintro e w' ⟨rfl, rfl⟩)
          go_roundw
          case rel => exact ⟨k + 1, by omega, by go_num, HL1, HB⟩
          case measure => simp [intOf]; omega
      · have hlt' : ¬ (k : Int) < (s.size : Int) := by omega
        obtain rfl : r = true := by
          rw [← HR.out]
          have := HL.out
          rw [show k = s.size by omega] at this
          exact legalT_all this
        go_wp2
        go_ret
        exact ⟨by simp, HB.out⟩
  · have e0 : textC s l = 2 := by
      unfold textC
      rw [if_pos hz]
    rw [e0]
    have e1 : ((s.size : Int) != l) = true := by simpa using hz
    clear e0 hz HC
    go_enter Tryd.func85, Tryd.ntmps85
    go_wp2
    go_ret
    exact ⟨rfl, BW.out⟩

def rankT (n : Nat) : Bool := let c := codeS (n : Int)
  if c < 0 then decide (rankS n = -1) else decide (0 ≤ rankS n) && decide (rkI c = rankS n)
theorem rankT_all : ∀ n : Fin 256, rankT n.val = true := by decide +kernel
theorem implRankT_any (n : Nat) (h : n ≤ 255) (w : World) (hP : Places w) : (codeS (n : Int) < 0 → Calls Tryd.prog 88 #[.int .u8 n] w fun e w' => e = .returned (.tuple #[.int .i64 0, .bool false]) ∧ w = w') ∧
    (¬ codeS (n : Int) < 0 → Calls Tryd.prog 88 #[.int .u8 n] w fun e w' => e = .returned (.tuple #[.int .i64 (rkI (codeS (n : Int))), .bool true]) ∧ w = w') := by
  have hb := rankT_all ⟨n, by omega⟩
  unfold rankT at hb
  simp only at hb
  refine ⟨fun hc => ?_, fun hc => ?_⟩
  · rw [if_pos hc] at hb
    have hr := of_decide_eq_true hb
    rcases rank_cases n h with ⟨_, _, h3⟩ | ⟨j, _, h2, _⟩
    · exact implRank_no n h h3 w hP
    · omega
  · rw [if_neg hc, Bool.and_eq_true, decide_eq_true_eq, decide_eq_true_eq] at hb
    rcases rank_cases n h with ⟨h1, _, _⟩ | ⟨j, hj, h2, _, _, h5, h6⟩
    · omega
    · rw [hb.2, h2]
      exact implRank_yes n j h5 hj h6 w hP

/-- the ranks of a text -/
def GivesKey (s : ByteArray) (w : World) (e : Ending) (w' : World) : Prop :=
  ∃ g, e = .returned (.tuple #[.slice (some ⟨g, 0, none⟩) s.size s.size, .int .i64 0]) ∧ w.heap.size ≤ g ∧ Below w.heap.size w w' ∧ Row w' g ((textCodes s).map rkI) []
theorem putTo_set (qs : List Int) (n k : Nat) (x : Int) (hk : k < n) (hl : qs.length = n) (hx : qs[k]?.getD 0 = x) : (qs.take k ++ List.replicate (n - k) 0).set k x = qs.take (k + 1) ++ List.replicate (n - (k + 1)) 0 := by
  have h1 : (qs.take k).length = k := by simp; omega
  rw [List.set_append, if_neg (by omega), h1, Nat.sub_self, show n - k = (n - (k + 1)) + 1 by omega, List.replicate_succ, List.set_cons_zero, List.take_add_one, List.append_assoc]
  congr 1
  have hq : qs[k]? = some (qs[k]'(by omega)) := List.getElem?_eq_getElem _
  rw [hq] at hx ⊢
  have hx' : qs[k]'(by omega) = x := hx
  rw [hx']
  rfl

set_option maxRecDepth 100000 in
set_option maxHeartbeats 1000000 in
theorem keyOfText_any (s : ByteArray) (hs : s.size ≤ 1048576) (a b : Int) (w : World) (hP : Places w) :
    Calls Tryd.prog 63 #[.string s, .agg #[.int .i64 a, .int .i64 b]] w fun e w' => (textC s (IntKind.i64.wrap (b - a)) ≠ 0 ∧ GivesNoList (textC s (IntKind.i64.wrap (b - a))) w e w') ∨ (textC s (IntKind.i64.wrap (b - a)) = 0 ∧ GivesKey s w e w') := by
  obtain ⟨l, hl⟩ : ∃ l, IntKind.i64.wrap (b - a) = l := ⟨_, rfl⟩
  rw [hl]
  have b0 := below_box w (.cells #[.int .i64 a, .int .i64 b] 30)
  have BW := Lib.hid b0
  have HPL := Lib.hid hP
  by_cases hz : (s.size : Int) = l
  · obtain ⟨r, hr⟩ : ∃ r, legalT s = r := ⟨_, rfl⟩
    have e0 : textC s l = if r = false then 7 else 0 := by
      unfold textC
      rw [if_neg (by simpa using hz), hr]
    rw [e0]
    have HR := Lib.hid hr
    have e1 : ((s.size : Int) != l) = false := by simpa using hz
    obtain ⟨n, hn⟩ : ∃ n, s.size = n := ⟨_, rfl⟩
    have hmk := run_make_row' (P := Tryd.prog) 40 2 (.int .i64 0) 8 Tryd.underlying40 info_int64 rfl .i64 .i64 n (by omega) (by omega)
    obtain ⟨qs, hq⟩ : ∃ qs, (textCodes s).map rkI = qs := ⟨_, rfl⟩
    have hql : qs.length = n := by rw [← hq, List.length_map, textCodes_length, hn]
    have hqg : ∀ k (h : k < s.size), qs[k]?.getD 0 = rkI (codeS ((s[k]'h).toNat : Int)) := fun k h => by
      rw [← hq, List.getElem?_map, textCodes_get s k h]
      rfl
    have HQL := Lib.hid hql
    have HQG := Lib.hid hqg
    have HQ := Lib.hid hq
    have HN := Lib.hid hn
    rw [hn] at e1
    clear e0 hr hz hql hqg hq b0 hP
    have hnn : s.size = n := HN.out
    go_enter Tryd.func63, Tryd.ntmps63
    go_wp2
    clear e1 hl hmk
    have R0 : Hid (Row ((w.alloc (.cells #[.int .i64 a, .int .i64 b] 30)).alloc (.cells (madeCells #[Value.int .i64 0] n) 2)) (w.heap.size + 1) (qs.take 0 ++ List.replicate (n - 0) 0) []) := by
      rw [madeCells_int]
      exact Row.new_at _ _ (by simp)
    have B0 : Hid (Below w.heap.size w ((w.alloc (.cells #[.int .i64 a, .int .i64 b] 30)).alloc (.cells (madeCells #[Value.int .i64 0] n) 2))) := (below_box w _).alloc (by simp) _
    go_loopw [23] (fun i wr => ∃ k : Nat, k ≤ n ∧ i = .int .i64 k ∧ Hid (legalTo s k) ∧ Hid (Below w.heap.size w wr) ∧ Hid (Row wr (w.heap.size + 1) (qs.take k ++ List.replicate (n - k) 0) [])) (fun i _ => n - (intOf i).toNat)
    case atStart => exact ⟨0, Nat.zero_le _, rfl, legalTo_zero s, B0, R0⟩
    case round =>
      obtain ⟨k, hk, rfl, HL, HB, HRW⟩ := hrel
      by_cases hlt : k < s.size
      · have hltn : k < n := by omega
        have hlt' : (k : Int) < (n : Int) := by omega
        obtain ⟨x, hx⟩ : ∃ x : Nat, (s[k]'hlt).toNat = x := ⟨_, rfl⟩
        have hxb : x ≤ 255 := by have := (s[k]'hlt).toNat_lt; omega
        obtain ⟨hr1, hr2⟩ := implRankT_any x hxb wr (HPL.out.below HB.out)
        have hqk := HQG.out k hlt
        have hlb := legalT_bad s k hlt
        have hls := fun h => legalTo_step HL.out hlt h
        rw [hx] at hqk hlb hls
        obtain ⟨y, hy⟩ : ∃ y, codeS (x : Int) = y := ⟨_, rfl⟩
        rw [hy] at hr1 hr2 hqk hlb hls
        have hk0 : (0 : Int) ≤ (k : Int) := Int.natCast_nonneg _
        have c1 := HRW.out.cell (i := k) (by simp [HQL.out]; omega)
        have f1 := HRW.out.frozen k
        have HQK := Lib.hid hqk
        clear hy hqk
        by_cases hneg : y < 0
        · obtain rfl : r = false := by rw [← HR.out]; exact hlb hneg
          have HX := Lib.hid (hr1 hneg)
          clear hr1 hr2 hlb hls c1 f1
          go_wp2_with (go_at_call 88; refine HX.out.mono ?_; rintro e w' ⟨rfl, rfl⟩)
          go_ret2
          first | exact ⟨rfl, HB.out⟩ | exact Or.inl ⟨by decide, rfl, HB.out⟩
        · have HX := Lib.hid (hr2 hneg)
          have HL1 : Hid (legalTo s (k + 1)) := hls (by omega)
          obtain ⟨z, hz⟩ : ∃ z, rkI y = z := ⟨_, rfl⟩
          rw [hz] at HX HQK
          clear hr1 hr2 hlb hls hz
          go_wp2_with (go_at_call 88; refine HX.out.mono ?_; rintro e w' ⟨rfl, rfl⟩)
          go_roundw
          case rel =>
            refine ⟨k + 1, by omega, by go_num, HL1, HB.out.setCell (by simp) _, ?_⟩
            have := HRW.out.set (i := k) (by simp [HQL.out]; omega) z
            rw [putTo_set qs n k z hltn HQL.out HQK.out] at this
            exact this
          case measure => simp [intOf]; omega
      · have hkn : k = n := by omega
        have hlt' : ¬ (k : Int) < (n : Int) := by omega
        obtain rfl : r = true := by
          rw [← HR.out]
          have := HL.out
          rw [show k = s.size by omega] at this
          exact legalT_all this
        have hrow := HRW.out
        rw [hkn, Nat.sub_self, List.replicate_zero, List.append_nil, List.take_of_length_le (by rw [HQL.out]; omega)] at hrow
        have HROW := Lib.hid hrow
        clear hkn hrow
        go_wp2
        go_ret2
        have e := HQ.out
        first | exact ⟨_, by rw [HN.out]; rfl, by omega, HB.out, by rw [e]; exact HROW.out⟩ | exact Or.inr ⟨by simp, _, by rw [HN.out]; rfl, by omega, HB.out, by rw [e]; exact HROW.out⟩
  · have e0 : textC s l = 2 := by
      unfold textC
      rw [if_pos hz]
    rw [e0]
    have e1 : ((s.size : Int) != l) = true := by simpa using hz
    clear e0 hz b0 hP
    go_enter Tryd.func63, Tryd.ntmps63
    go_wp2
    go_ret2
    first | exact ⟨rfl, BW.out⟩ | exact Or.inl ⟨by decide, rfl, BW.out⟩

theorem indexI_any (A : Option Addr) (c : Nat) (L : List Int) (B : Nat) (x : Int) (w : World) (h : Ints w B A L) (hn : L.length ≤ 1048576) :
    Calls Tryd.prog 101 #[.slice A L.length c, .int .i64 x] w fun e w' => ∃ r : Int, e = .returned (.int .i64 r) ∧ (0 ≤ r ↔ x ∈ L) ∧ w = w' := by
  obtain ⟨n, hN⟩ : ∃ n, L.length = n := ⟨_, rfl⟩
  rw [hN] at hn ⊢
  have H := Lib.hid h
  have HN := Lib.hid hN
  clear h hN
  go_enter Tryd.func101, Tryd.ntmps101
  go_wp2
  go_loop [8] (fun i => ∃ k : Nat, k ≤ n ∧ i = .int .i64 k ∧ Hid (x ∉ L.take k)) (fun i => n - (intOf i).toNat)
  case atStart => exact ⟨0, Nat.zero_le _, rfl, by show _ ∉ _; simp⟩
  case round =>
    obtain ⟨k, hk, rfl, HX⟩ := hrel
    by_cases hlt : k < n
    · obtain ⟨b, off, rfl, hb, hcell⟩ := H.out (by rw [HN.out]; omega)
      have c1 := hcell k (by rw [HN.out]; exact hlt)
      obtain ⟨y, hy⟩ : ∃ y, L[k]? = some y := ⟨L[k]'(by rw [HN.out]; exact hlt), List.getElem?_eq_getElem _⟩
      rw [hy] at c1
      have c2 : w.cell? ⟨b, off + k, none⟩ = some (.int .i64 y) := c1
      have HY := Lib.hid hy
      have k0 : (0 : Int) ≤ (k : Int) := Int.natCast_nonneg _
      have k1 : (k : Int) < (n : Int) := by omega
      clear c1 hcell hy H
      by_cases hxy : x = y
      · have hm : decide (x ∈ L) = true := by rw [decide_eq_true_eq, hxy]; exact List.mem_of_getElem? HY.out
        have HM := Lib.hid hm
        subst hxy
        clear hm
        go_wp2
        go_ret
        exact ⟨k, rfl, ⟨fun _ => of_decide_eq_true HM.out, fun _ => Int.natCast_nonneg _⟩, rfl⟩
      · have hne : (x == y) = false := by simpa using hxy
        have HX1 : Hid (x ∉ L.take (k + 1)) := by
          show _ ∉ _
          rw [List.take_add_one, HY.out, List.mem_append]
          rintro (h | h)
          · exact HX.out h
          · exact hxy (by simpa using h)
        clear hxy
        go_wp2
        go_round
        case rel => exact ⟨k + 1, by omega, by go_num, HX1⟩
        case measure => simp [intOf]; omega
    · have k1 : ¬ (k : Int) < (n : Int) := by omega
      have hm : decide (x ∈ L) = false := by
        have := HX.out
        rw [List.take_of_length_le (by rw [HN.out]; omega)] at this
        simpa using this
      have HM := Lib.hid hm
      clear hm
      go_wp2
      go_ret
      exact ⟨-1, rfl, ⟨fun h => absurd h (by decide), fun h => absurd h (of_decide_eq_false HM.out)⟩, rfl⟩
theorem containsI_any (A : Option Addr) (c : Nat) (L : List Int) (B : Nat) (x : Int) (w : World) (h : Ints w B A L) (hn : L.length ≤ 1048576) :
    Calls Tryd.prog 89 #[.slice A L.length c, .int .i64 x] w fun e w' => e = .returned (.bool (decide (x ∈ L))) ∧ w = w' := by
  have HI := Lib.hid (indexI_any A c L B x w h hn)
  obtain ⟨n, hN⟩ : ∃ n, L.length = n := ⟨_, rfl⟩
  obtain ⟨r, hr⟩ : ∃ r, decide (x ∈ L) = r := ⟨_, rfl⟩
  rw [hN] at HI
  rw [hr, hN]
  have HR := Lib.hid hr
  clear h hN hn hr
  go_enter Tryd.func89, Tryd.ntmps89
  go_wp2_with (go_at_call 101; refine HI.out.mono ?_; rintro e w' ⟨q, rfl, hq, rfl⟩)
  go_ret
  exact ⟨by rw [← HR.out]; rfl, rfl⟩

def errsL : List Int := [1, 2, 7, 8]
theorem firstC_at {L : List Int} {k : Nat} {x : Int} (hk : errsL[k]? = some x) (hx : x ∈ L) (h : ∀ y ∈ errsL.take k, y ∉ L) : firstC L = x := by
  match k, hk with
  | 0, hk => obtain rfl : (1 : Int) = x := by simpa [errsL] using hk
             unfold firstC; rw [if_pos hx]
  | 1, hk => obtain rfl : (2 : Int) = x := by simpa [errsL] using hk
             have h1 := h 1 (by simp [errsL])
             unfold firstC; rw [if_neg h1, if_pos hx]
  | 2, hk => obtain rfl : (7 : Int) = x := by simpa [errsL] using hk
             have h1 := h 1 (by simp [errsL])
             have h2 := h 2 (by simp [errsL])
             unfold firstC; rw [if_neg h1, if_neg h2, if_pos hx]
  | 3, hk => obtain rfl : (8 : Int) = x := by simpa [errsL] using hk
             have h1 := h 1 (by simp [errsL])
             have h2 := h 2 (by simp [errsL])
             have h3 := h 7 (by simp [errsL])
             unfold firstC; rw [if_neg h1, if_neg h2, if_neg h3, if_pos hx]
  | k + 4, hk => simp [errsL] at hk
theorem firstC_none {L : List Int} (h : ∀ y ∈ errsL, y ∉ L) : firstC L = 0 := by
  have h1 := h 1 (by simp [errsL])
  have h2 := h 2 (by simp [errsL])
  have h3 := h 7 (by simp [errsL])
  have h4 := h 8 (by simp [errsL])
  unfold firstC
  rw [if_neg h1, if_neg h2, if_neg h3, if_neg h4]

set_option maxHeartbeats 1000000 in
theorem firstError_any (A : Option Addr) (c : Nat) (L : List Int) (B : Nat) (w : World) (h : Ints w B A L) (hB : B ≤ w.heap.size) (hn : L.length ≤ 1048576) :
    Calls Tryd.prog 64 #[.slice A L.length c] w fun e w' => e = .returned (.int .i64 (firstC L)) ∧ Below w.heap.size w w' := by
  have hc := fun x W (hW : Below w.heap.size w W) => containsI_any A c L B x W (h.below (hW.mono hB)) hn
  obtain ⟨n, hN⟩ : ∃ n, L.length = n := ⟨_, rfl⟩
  obtain ⟨r, hr⟩ : ∃ r, firstC L = r := ⟨_, rfl⟩
  simp only [hN] at hc
  rw [hN, hr]
  have HC := Lib.hid hc
  have HR := Lib.hid hr
  have B0 := Lib.hid (below_box w (.cells #[.int .i64 1, .int .i64 2, .int .i64 7, .int .i64 8] 2))
  have hcell : ∀ k x, errsL[k]? = some x → (w.alloc (.cells #[.int .i64 1, .int .i64 2, .int .i64 7, .int .i64 8] 2)).cell? ⟨w.heap.size, k, none⟩ = some (.int .i64 x) := fun k x hk => by
    match k, hk with
    | 0, hk => obtain rfl : (1 : Int) = x := by simpa [errsL] using hk
               simp
    | 1, hk => obtain rfl : (2 : Int) = x := by simpa [errsL] using hk
               simp
    | 2, hk => obtain rfl : (7 : Int) = x := by simpa [errsL] using hk
               simp
    | 3, hk => obtain rfl : (8 : Int) = x := by simpa [errsL] using hk
               simp
    | k + 4, hk => simp [errsL] at hk
  have HCL := Lib.hid hcell
  clear h hc hN hn hr hcell
  go_enter Tryd.func64, Tryd.ntmps64
  go_wp2
  obtain ⟨W1, hW1⟩ : ∃ W1, w.alloc (.cells #[.int .i64 1, .int .i64 2, .int .i64 7, .int .i64 8] 2) = W1 := ⟨_, rfl⟩
  rw [hW1] at B0 HCL ⊢
  clear hW1
  go_loop [7] (fun i => ∃ k : Nat, k ≤ 4 ∧ i = .int .i64 k ∧ Hid (∀ y ∈ errsL.take k, y ∉ L)) (fun i => 4 - (intOf i).toNat)
  case atStart => exact ⟨0, Nat.zero_le _, rfl, by intro y hy; simp at hy⟩
  case round =>
    obtain ⟨k, hk, rfl, HX⟩ := hrel
    by_cases hlt : k < 4
    · obtain ⟨x, hx⟩ : ∃ x, errsL[k]? = some x := ⟨errsL[k]'(by simp [errsL]; omega), List.getElem?_eq_getElem _⟩
      have c1 := HCL.out k x hx
      have hcx := HC.out x _ B0.out
      obtain ⟨u, hu⟩ : ∃ u, decide (x ∈ L) = u := ⟨_, rfl⟩
      rw [hu] at hcx
      have HK := Lib.hid hcx
      have k0 : (0 : Int) ≤ (k : Int) := Int.natCast_nonneg _
      have k1 : (k : Int) < 4 := by omega
      have HXX := Lib.hid hx
      have HU := Lib.hid hu
      clear hx hcx hu
      cases u
      · have HX1 : Hid (∀ y ∈ errsL.take (k + 1), y ∉ L) := fun y hy => by
          rw [List.take_add_one, HXX.out, List.mem_append] at hy
          rcases hy with hy | hy
          · exact HX.out y hy
          · obtain rfl : y = x := by simpa using hy
            exact of_decide_eq_false HU.out
        go_wp2_with (go_at_call 89; refine HK.out.mono ?_; rintro e w' ⟨rfl, rfl⟩)
        go_round
        case rel => exact ⟨k + 1, by omega, by go_num, HX1⟩
        case measure => simp [intOf]; omega
      · obtain rfl : r = x := by rw [← HR.out]; exact firstC_at HXX.out (of_decide_eq_true HU.out) HX.out
        go_wp2_with (go_at_call 89; refine HK.out.mono ?_; rintro e w' ⟨rfl, rfl⟩)
        go_ret
        exact ⟨rfl, B0.out⟩
    · obtain rfl : r = 0 := by
        rw [← HR.out]
        refine firstC_none ?_
        have := HX.out
        rwa [List.take_of_length_le (by simp [errsL]; omega)] at this
      have k1 : ¬ (k : Int) < 4 := by omega
      go_wp2
      go_ret
      exact ⟨rfl, B0.out⟩
end Go.Proofs.YtmdamciheekeoaaDoor

/- spec.l09Ask tells the texts of a field of a deck, or the error that is told where texts are asked for: a contract. -/
namespace Go.Proofs.YtmdamciheekeoaaDoor
open Go.ChangeShapes Go.WideShapes Go.ChangeAt Go.RowKit

theorem firstC_one (cs : List Int) : firstC (1 :: cs) = 1 := by unfold firstC; rw [if_pos (by simp)]
theorem firstC_two {cs : List Int} (h : 1 ∉ cs) : firstC (2 :: cs) = 2 := by unfold firstC; rw [if_neg (by simp [h]), if_pos (by simp)]
theorem firstC_cs2 {k : Int} {cs : List Int} (hk : k = 0 ∨ k = 8) (h1 : 1 ∉ cs) (h : 2 ∈ cs) : firstC (k :: cs) = 2 := by
  unfold firstC
  rw [if_neg (by rcases hk with rfl | rfl <;> simp [h1]), if_pos (by simp [h])]
theorem firstC_cs7 {k : Int} {cs : List Int} (hk : k = 0 ∨ k = 8) (h1 : 1 ∉ cs) (h2 : 2 ∉ cs) (h : 7 ∈ cs) : firstC (k :: cs) = 7 := by
  unfold firstC
  rw [if_neg (by rcases hk with rfl | rfl <;> simp [h1]), if_neg (by rcases hk with rfl | rfl <;> simp [h2]), if_pos (by simp [h])]
theorem firstC_cs0 {k : Int} {cs : List Int} (hk : k = 0 ∨ k = 8) (h1 : 1 ∉ cs) (h2 : 2 ∉ cs) (h : 7 ∉ cs) (h8 : 8 ∉ cs) : firstC (k :: cs) = k := by
  unfold firstC
  rw [if_neg (by rcases hk with rfl | rfl <;> simp [h1]), if_neg (by rcases hk with rfl | rfl <;> simp [h2]), if_neg (by rcases hk with rfl | rfl <;> simp [h])]
  rcases hk with rfl | rfl <;> simp [h8]
theorem texts_not {T : List ByteArray} {l x : Int} (h1 : x ≠ 2) (h2 : x ≠ 7) (h3 : x ≠ 0) : x ∉ T.map fun s => textC s l := by
  intro h
  obtain ⟨s, _, e⟩ := List.mem_map.1 h
  rcases textC_vals s l with h | h | h <;> omega

/-- the worst so far -/
def worstV (cs : List Int) : Int := if 7 ∈ cs then 7 else 0
theorem worst_more {cs : List Int} {k : Nat} {c : Int} (hc : cs[k]? = some c) (h2 : 2 ∉ cs.take k) (hn : c ≠ 2) : 2 ∉ cs.take (k + 1) ∧ worstV (cs.take (k + 1)) = if c = 7 then 7 else worstV (cs.take k) := by
  rw [List.take_add_one, hc]
  refine ⟨by simp [h2]; omega, ?_⟩
  unfold worstV
  by_cases h : c = 7
  · rw [if_pos h, if_pos (by simp [h])]
  · rw [if_neg h]
    by_cases h7 : 7 ∈ cs.take k
    · rw [if_pos h7, if_pos (by simp [h7])]
    · rw [if_neg h7, if_neg (by simp [h7]; omega)]

section
variable (A : Option Addr) (c : Nat) (D : List CardV) (B : Nat) (a b : Int) (w : World) (h : Deck w B A D) (hB : B ≤ w.heap.size) (hn : D.length ≤ 1048576) (hl : ∀ d ∈ D, d.xs.length ≤ 1048576)
include h hB hn hl
set_option maxRecDepth 100000 in
set_option maxHeartbeats 4000000 in
theorem l09Ask_any (hcap : CapsOk D) (T : List ByteArray) (gt ct : Nat) (hT : ∀ k s, T[k]? = some s → w.cell? ⟨gt, k, none⟩ = some (.string s)) (_ : gt < w.heap.size) (hTn : T.length ≤ 2) (hTs : ∀ s ∈ T, s.size ≤ 1048576) :
    Calls Tryd.prog 60 #[.slice A D.length c, .agg #[.int .i64 a, .int .i64 b], .slice (some ⟨gt, 0, none⟩) T.length ct] w fun e w' => (askC (holes D) a b T ≠ 0 ∧ GivesNoKeys (askC (holes D) a b T) w e w') ∨ (askC (holes D) a b T = 0 ∧ GivesKeys D a.toNat b.toNat w e w') := by
  have b0 := below_box w (.cells #[.int .i64 a, .int .i64 b] 30)
  have hk := l07Keys_any A c D B a b (w.alloc (.cells #[.int .i64 a, .int .i64 b] 30)) (h.below (b0.mono hB)) (by simp; omega) hn hl hcap
  have p0 : (w.alloc (.cells #[.int .i64 a, .int .i64 b] 30)).cell? ⟨w.heap.size, 0, none⟩ = some (.int .i64 a) := by simp
  have p1 : (w.alloc (.cells #[.int .i64 a, .int .i64 b] 30)).cell? ⟨w.heap.size, 1, none⟩ = some (.int .i64 b) := by simp
  have BW := Lib.hid b0
  obtain ⟨l, hl1⟩ : ∃ l, IntKind.i64.wrap (b - a) = l := ⟨_, rfl⟩
  have ht := fun s (hs : s.size ≤ 1048576) W => l09Text_any s hs a b W
  unfold askC
  simp only [hl1] at ht ⊢
  have n1 := texts_not (T := T) (l := l) (x := 1) (by decide) (by decide) (by decide)
  have n8 := texts_not (T := T) (l := l) (x := 8) (by decide) (by decide) (by decide)
  obtain ⟨cs, hcs⟩ : ∃ cs, (T.map fun s => textC s l) = cs := ⟨_, rfl⟩
  rw [hcs] at n1 n8 ⊢
  have hcl : cs.length = T.length := by rw [← hcs, List.length_map]
  have hcg : ∀ k s, T[k]? = some s → cs[k]? = some (textC s l) := fun k s hk => by rw [← hcs, List.getElem?_map, hk]; rfl
  obtain ⟨k, hk0⟩ : ∃ k, keysC (holes D) a b = k := ⟨_, rfl⟩
  have hkv := keysC_vals (holes D) a b
  rw [hk0] at hk hkv ⊢
  obtain ⟨n, hN⟩ : ∃ n, D.length = n := ⟨_, rfl⟩
  obtain ⟨m, hM⟩ : ∃ m, T.length = m := ⟨_, rfl⟩
  rw [hM] at hTn ⊢
  have HT := Lib.hid ht
  have HTC := Lib.hid hT
  have HTS := Lib.hid hTs
  have HCG := Lib.hid hcg
  have HM := Lib.hid hM
  have HN1 := Lib.hid n1
  have HN8 := Lib.hid n8
  have HCL := Lib.hid hcl
  have HNN := Lib.hid hN
  obtain ⟨i, hi⟩ : ∃ i, a.toNat = i := ⟨_, rfl⟩
  obtain ⟨j, hj⟩ : ∃ j, b.toNat = j := ⟨_, rfl⟩
  rw [hi, hj] at hk ⊢
  by_cases hk12 : k = 1 ∨ k = 2
  · have hf : firstC (k :: cs) = k := by
      rcases hk12 with rfl | rfl
      · exact firstC_one _
      · exact firstC_two n1
    rw [hf]
    have e0 : ¬ k = 0 := by omega
    have e1 : (k != 0) = true := by simp; omega
    have e2 : (k != 8) = true := by simp; omega
    rw [hN] at hk ⊢
    have HK := Lib.hid hk
    clear hk h hl hcap b0 hk0 hN hn ht hT hTs hcg hM n1 n8 hcl hcs hl1 hkv hf p0 p1 HT HTC HTS HCG HM HN1 HN8 HCL hi hj hk12
    go_enter Tryd.func60, Tryd.ntmps60
    go_wp2_with fail
    refine HK.out.mono ?_
    rintro e' w1 (⟨_, rfl, hb⟩ | ⟨h0, _⟩)
    · have B1 := Lib.hid (below_step BW.out hb)
      clear hb HK
      go_wp2
      go_ret2
      exact Or.inl ⟨e0, rfl, B1.out⟩
    · exact absurd h0 e0
  · have hk08 : k = 0 ∨ k = 8 := by omega
    have hkk : Calls Tryd.prog 56 #[.slice A D.length c, .agg #[.int .i64 a, .int .i64 b]] (w.alloc (.cells #[.int .i64 a, .int .i64 b] 30)) fun e w' => ∃ A' nn cap, e = .returned (.tuple #[.slice A' nn cap, .int .i64 k]) ∧ Below (w.alloc (.cells #[.int .i64 a, .int .i64 b] 30)).heap.size (w.alloc (.cells #[.int .i64 a, .int .i64 b] 30)) w' ∧ Hid ((k ≠ 0 → A' = none ∧ nn = 0 ∧ cap = 0) ∧ (k = 0 → nn = D.length ∧ (0 < D.length → ∃ g, A' = some ⟨g, 0, none⟩ ∧ g < w'.heap.size ∧ KeyRow w' g D i j))) := by
      refine hk.mono ?_
      rintro e w' (⟨h1, rfl, hb⟩ | ⟨h0, A', cap, rfl, hb, hr⟩)
      · exact ⟨none, 0, 0, rfl, hb, fun _ => ⟨rfl, rfl, rfl⟩, fun h => absurd h h1⟩
      · exact ⟨A', _, cap, by rw [h0], hb, fun h => absurd h0 h, fun _ => ⟨rfl, hr⟩⟩
    have f2 := fun (h : 2 ∈ cs) => firstC_cs2 hk08 n1 h
    have f7 := fun (h2 : 2 ∉ cs) (h : 7 ∈ cs) => firstC_cs7 hk08 n1 h2 h
    have f0 := fun (h2 : 2 ∉ cs) (h : 7 ∉ cs) => firstC_cs0 hk08 n1 h2 h n8
    rw [hN] at hkk ⊢
    obtain ⟨r, hr⟩ : ∃ r, firstC (k :: cs) = r := ⟨_, rfl⟩
    rw [hr] at f2 f7 f0 ⊢
    have HK := Lib.hid hkk
    have F2 := Lib.hid f2
    have F7 := Lib.hid f7
    have F0 := Lib.hid f0
    clear hk hkk h hl hcap b0 hk0 hN hn ht hT hTs hcg hM n1 n8 hcl hcs hl1 hkv hi hj hk12 f2 f7 f0 hr
    rcases hk08 with rfl | rfl
    all_goals
      go_enter Tryd.func60, Tryd.ntmps60
      go_wp2_with fail
      refine HK.out.mono ?_
      rintro e' w1 ⟨A', nn, cap, rfl, hb, HKF⟩
      have B1 := Lib.hid (below_step BW.out hb)
      have q0 := cell_kept p0 hb
      have q1 := cell_kept p1 hb
      have HT1 : Hid (∀ k s, T[k]? = some s → w1.cell? ⟨gt, k, none⟩ = some (.string s)) := fun k s hs => cell_kept (HTC.out k s hs) B1.out
      clear hb HK p0 p1
      go_wp2
      go_loopw [10, 11] (fun vw vi wr => ∃ k : Nat, ∃ wv : Int, k ≤ m ∧ vi = .int .i64 k ∧ vw = .int .i64 wv ∧ Hid (2 ∉ cs.take k ∧ wv = worstV (cs.take k)) ∧ Hid (Below w1.heap.size w1 wr)) (fun _ vi _ => m - (intOf vi).toNat)
      case atStart => exact ⟨0, 0, Nat.zero_le _, rfl, rfl, ⟨by simp, by simp [worstV]⟩, Below.refl _ _⟩
      case round =>
        obtain ⟨t, wv, ht, rfl, rfl, HW, HB⟩ := hrel
        by_cases hlt : t < m
        · obtain ⟨s, hs⟩ : ∃ s, T[t]? = some s := ⟨T[t]'(by rw [HM.out]; exact hlt), List.getElem?_eq_getElem _⟩
          have x1 : wr.drew.cell? ⟨gt, t, none⟩ = some (.string s) := cell_kept (HT1.out t s hs) HB.out.drew
          have x2 : wr.drew.cell? ⟨w.heap.size, 0, none⟩ = some (.int .i64 a) := cell_kept q0 HB.out.drew
          have x3 : wr.drew.cell? ⟨w.heap.size, 1, none⟩ = some (.int .i64 b) := cell_kept q1 HB.out.drew
          have hcall := HT.out s (HTS.out s (List.mem_of_getElem? hs)) wr.drew
          have hcv := HCG.out t s hs
          have hvals := textC_vals s l
          obtain ⟨cv, hcv0⟩ : ∃ cv, textC s l = cv := ⟨_, rfl⟩
          rw [hcv0] at hcall hcv hvals
          have HCV := Lib.hid hcv
          have HCALL := Lib.hid hcall
          have t0 : (0 : Int) ≤ (t : Int) := Int.natCast_nonneg _
          have t1 : (t : Int) < (m : Int) := by omega
          have hwv : wv = 7 ∨ wv = 0 := by rw [HW.out.2]; unfold worstV; split <;> simp
          clear hs hcall hcv hcv0
          have hcase : cv = 2 ∨ (cv ≠ 2 ∧ Hid (2 ∉ cs.take (t + 1) ∧ (if cv = 7 then 7 else wv) = worstV (cs.take (t + 1)))) := by
            by_cases h2 : cv = 2
            · exact Or.inl h2
            · obtain ⟨y1, y2⟩ := worst_more HCV.out HW.out.1 h2
              exact Or.inr ⟨h2, y1, by rw [y2, ← HW.out.2]⟩
          rcases hcase with rfl | ⟨hn2, HW1⟩
          · have hr2 : r = 2 := F2.out (List.mem_of_getElem? HCV.out)
            have HR2 := Lib.hid hr2
            clear hr2 hvals HW
            rcases hwv with rfl | rfl
            all_goals
              go_wp2_with fail
              go_region_with (go_at_call 85; refine HCALL.out.mono ?_; rintro e w5 ⟨rfl, hb⟩; have z1 := cell_kept x1 hb; have z2 := cell_kept x2 hb; have z3 := cell_kept x3 hb; have HB5 := Lib.hid (below_step B1.out (below_step HB.out.drew hb)); clear hb)
              all_goals
                go_wp2
                go_ret2
                have e := HR2.out
                subst e
                exact Or.inl ⟨by decide, rfl, HB5.out⟩
          · rcases hvals with rfl | rfl | rfl
            · exact absurd rfl hn2
            all_goals
              clear hn2 HW
              rcases hwv with rfl | rfl
              all_goals
                go_wp2_with fail
                go_region_with (go_at_call 85; refine HCALL.out.mono ?_; rintro e w5 ⟨rfl, hb⟩; have z1 := cell_kept x1 hb; have z2 := cell_kept x2 hb; have z3 := cell_kept x3 hb; have HB5 := Lib.hid (below_step HB.out.drew hb); clear hb)
                all_goals
                  go_wp2
                  go_roundw
                  case rel => exact ⟨t + 1, _, by omega, by go_num, rfl, ⟨HW1.out.1, HW1.out.2⟩, HB5⟩
                  case measure => simp [intOf]; omega
        · have t1 : ¬ (t : Int) < (m : Int) := by omega
          have hfull : cs.take t = cs := List.take_of_length_le (by rw [HCL.out, HM.out]; omega)
          have hw := HW.out
          rw [hfull] at hw
          have BB := Lib.hid (below_step B1.out HB.out)
          by_cases h7 : 7 ∈ cs
          · have hwv : wv = 7 := by rw [hw.2]; unfold worstV; rw [if_pos h7]
            have HR7 := Lib.hid (F7.out hw.1 h7)
            clear hfull hw HW h7
            subst hwv
            go_wp2
            go_ret2
            have e := HR7.out
            subst e
            exact Or.inl ⟨by decide, rfl, BB.out⟩
          · have hwv : wv = 0 := by rw [hw.2]; unfold worstV; rw [if_neg h7]
            have HR0 := Lib.hid (F0.out hw.1 h7)
            clear hfull hw HW h7
            subst hwv
            go_wp2
            go_ret2
            have e := HR0.out
            subst e
            first
              | (obtain ⟨e1, hr⟩ := HKF.out.2 (by first | rfl | trivial)
                 subst e1
                 refine Or.inr ⟨rfl, A', cap, by rw [HNN.out]; rfl, BB.out, fun h0 => ?_⟩
                 obtain ⟨g, e2, hg, hrow⟩ := hr (by rw [HNN.out] at *; exact h0)
                 exact ⟨g, e2, Nat.lt_of_lt_of_le hg HB.out.size, fun k d hd => cell_kept (hrow k d hd) HB.out⟩)
              | (obtain ⟨e1, e2, e3⟩ := HKF.out.1 (by first | decide | trivial)
                 subst e1 e2 e3
                 exact Or.inl ⟨by decide, rfl, BB.out⟩)
end
end Go.Proofs.YtmdamciheekeoaaDoor
