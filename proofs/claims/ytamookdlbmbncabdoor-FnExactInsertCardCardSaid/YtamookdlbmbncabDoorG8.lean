/- Texts for a field: spec.l09Text, impl.keyOfText; and which error is told: slices.Index and slices.Contains at int64, impl.firstError: contracts. -/
import Derived.Test.YtamookdlbmbncabDoorG3
import Derived.Test.YtamookdlbmbncabDoorG6
import Derived.Test.YtamookdlbmbncabDoorWhere
import Derived.Test.YtamookdlbmbncabDoorG5
import Derived.Test.YtamookdlbmbncabDoorG7
import Derived.Test.YtamookdlbmbncabDoorG1
namespace Go.Proofs.YtamookdlbmbncabDoor
open Go.ChangeShapes Go.WideShapes Go.ChangeAt Go.RowKit

def rankT (n : Nat) : Bool := let c := codeS (n : Int)
  if c < 0 then decide (rankS n = -1) else decide (0 ≤ rankS n) && decide (rkI c = rankS n)
theorem rankT_all : ∀ n : Fin 256, rankT n.val = true := by decide +kernel
theorem implRankT_any (n : Nat) (h : n ≤ 255) (w : World) (hP : Places w) : (codeS (n : Int) < 0 → Calls Tryd.prog 68 #[.int .u8 n] w fun e w' => e = .returned (.tuple #[.int .i64 0, .bool false]) ∧ w = w') ∧
    (¬ codeS (n : Int) < 0 → Calls Tryd.prog 68 #[.int .u8 n] w fun e w' => e = .returned (.tuple #[.int .i64 (rkI (codeS (n : Int))), .bool true]) ∧ w = w') := by
  have hb := rankT_all ⟨n, by omega⟩
  unfold rankT at hb
  simp only at hb
  refine ⟨fun hc => ?_, fun hc => ?_⟩
  · rw [if_pos hc] at hb
    have hr := of_decide_eq_true hb
    rcases rank_cases n h with ⟨_, _, h3⟩ | ⟨j, _, h2, _⟩
    · exact implRank_no n h h3 w hP
    · omega
  · rw [if_neg hc, Bool.and_eq_true, decide_eq_true_eq, decide_eq_true_eq] at hb
    rcases rank_cases n h with ⟨h1, _, _⟩ | ⟨j, hj, h2, _, _, h5, h6⟩
    · omega
    · rw [hb.2, h2]
      exact implRank_yes n j h5 hj h6 w hP

/-- the ranks of a text -/
def GivesKey (s : ByteArray) (w : World) (e : Ending) (w' : World) : Prop :=
  ∃ g, e = .returned (.tuple #[.slice (some ⟨g, 0, none⟩) s.size s.size, .int .i64 0]) ∧ w.heap.size ≤ g ∧ Below w.heap.size w w' ∧ Row w' g ((textCodes s).map rkI) []
theorem putTo_set (qs : List Int) (n k : Nat) (x : Int) (hk : k < n) (hl : qs.length = n) (hx : qs[k]?.getD 0 = x) : (qs.take k ++ List.replicate (n - k) 0).set k x = qs.take (k + 1) ++ List.replicate (n - (k + 1)) 0 := by
  have h1 : (qs.take k).length = k := by simp; omega
  rw [List.set_append, if_neg (by omega), h1, Nat.sub_self, show n - k = (n - (k + 1)) + 1 by omega, List.replicate_succ, List.set_cons_zero, List.take_add_one, List.append_assoc]
  congr 1
  have hq : qs[k]? = some (qs[k]'(by omega)) := List.getElem?_eq_getElem _
  rw [hq] at hx ⊢
  have hx' : qs[k]'(by omega) = x := hx
  rw [hx']
  rfl

theorem indexI_any (A : Option Addr) (c : Nat) (L : List Int) (B : Nat) (x : Int) (w : World) (h : Ints w B A L) (hn : L.length ≤ 1048576) :
    Calls Tryd.prog 58 #[.slice A L.length c, .int .i64 x] w fun e w' => ∃ r : Int, e = .returned (.int .i64 r) ∧ (0 ≤ r ↔ x ∈ L) ∧ w = w' := by
  obtain ⟨n, hN⟩ : ∃ n, L.length = n := ⟨_, rfl⟩
  rw [hN] at hn ⊢
  have H := Lib.hid h
  have HN := Lib.hid hN
  clear h hN
  go_enter Tryd.func58, Tryd.ntmps58
  go_wp2
  go_loop [8] (fun i => ∃ k : Nat, k ≤ n ∧ i = .int .i64 k ∧ Hid (x ∉ L.take k)) (fun i => n - (intOf i).toNat)
  case atStart => exact ⟨0, Nat.zero_le _, rfl, by show _ ∉ _; simp⟩
  case round =>
    obtain ⟨k, hk, rfl, HX⟩ := hrel
    by_cases hlt : k < n
    · obtain ⟨b, off, rfl, hb, hcell⟩ := H.out (by rw [HN.out]; omega)
      have c1 := hcell k (by rw [HN.out]; exact hlt)
      obtain ⟨y, hy⟩ : ∃ y, L[k]? = some y := ⟨L[k]'(by rw [HN.out]; exact hlt), List.getElem?_eq_getElem _⟩
      rw [hy] at c1
      have c2 : w.cell? ⟨b, off + k, none⟩ = some (.int .i64 y) := c1
      have HY := Lib.hid hy
      have k0 : (0 : Int) ≤ (k : Int) := Int.natCast_nonneg _
      have k1 : (k : Int) < (n : Int) := by omega
      clear c1 hcell hy H
      by_cases hxy : x = y
      · have hm : decide (x ∈ L) = true := by rw [decide_eq_true_eq, hxy]; exact List.mem_of_getElem? HY.out
        have HM := Lib.hid hm
        subst hxy
        clear hm
        go_wp2
        go_ret
        exact ⟨k, rfl, ⟨fun _ => of_decide_eq_true HM.out, fun _ => Int.natCast_nonneg _⟩, rfl⟩
      · have hne : (x == y) = false := by simpa using hxy
        have HX1 : Hid (x ∉ L.take (k + 1)) := by
          show _ ∉ _
          rw [List.take_add_one, HY.out, List.mem_append]
          rintro (h | h)
          · exact HX.out h
          · exact hxy (by simpa using h)
        clear hxy
        go_wp2
        go_round
        case rel => exact ⟨k + 1, by omega, by go_num, HX1⟩
        case measure => simp [intOf]; omega
    · have k1 : ¬ (k : Int) < (n : Int) := by omega
      have hm : decide (x ∈ L) = false := by
        have := HX.out
        rw [List.take_of_length_le (by rw [HN.out]; omega)] at this
        simpa using this
      have HM := Lib.hid hm
      clear hm
      go_wp2
      go_ret
      exact ⟨-1, rfl, ⟨fun h => absurd h (by decide), fun h => absurd h (of_decide_eq_false HM.out)⟩, rfl⟩
theorem containsI_any (A : Option Addr) (c : Nat) (L : List Int) (B : Nat) (x : Int) (w : World) (h : Ints w B A L) (hn : L.length ≤ 1048576) :
    Calls Tryd.prog 51 #[.slice A L.length c, .int .i64 x] w fun e w' => e = .returned (.bool (decide (x ∈ L))) ∧ w = w' := by
  have HI := Lib.hid (indexI_any A c L B x w h hn)
  obtain ⟨n, hN⟩ : ∃ n, L.length = n := ⟨_, rfl⟩
  obtain ⟨r, hr⟩ : ∃ r, decide (x ∈ L) = r := ⟨_, rfl⟩
  rw [hN] at HI
  rw [hr, hN]
  have HR := Lib.hid hr
  clear h hN hn hr
  go_enter Tryd.func51, Tryd.ntmps51
  go_wp2_with (go_at_call 58; refine HI.out.mono ?_; rintro e w' ⟨q, rfl, hq, rfl⟩)
  go_ret
  exact ⟨by rw [← HR.out]; rfl, rfl⟩

def errsL : List Int := [1, 2, 7, 8]
theorem firstC_at {L : List Int} {k : Nat} {x : Int} (hk : errsL[k]? = some x) (hx : x ∈ L) (h : ∀ y ∈ errsL.take k, y ∉ L) : firstC L = x := by
  match k, hk with
  | 0, hk => obtain rfl : (1 : Int) = x := by simpa [errsL] using hk
             unfold firstC; rw [if_pos hx]
  | 1, hk => obtain rfl : (2 : Int) = x := by simpa [errsL] using hk
             have h1 := h 1 (by simp [errsL])
             unfold firstC; rw [if_neg h1, if_pos hx]
  | 2, hk => obtain rfl : (7 : Int) = x := by simpa [errsL] using hk
             have h1 := h 1 (by simp [errsL])
             have h2 := h 2 (by simp [errsL])
             unfold firstC; rw [if_neg h1, if_neg h2, if_pos hx]
  | 3, hk => obtain rfl : (8 : Int) = x := by simpa [errsL] using hk
             have h1 := h 1 (by simp [errsL])
             have h2 := h 2 (by simp [errsL])
             have h3 := h 7 (by simp [errsL])
             unfold firstC; rw [if_neg h1, if_neg h2, if_neg h3, if_pos hx]
  | k + 4, hk => simp [errsL] at hk
theorem firstC_none {L : List Int} (h : ∀ y ∈ errsL, y ∉ L) : firstC L = 0 := by
  have h1 := h 1 (by simp [errsL])
  have h2 := h 2 (by simp [errsL])
  have h3 := h 7 (by simp [errsL])
  have h4 := h 8 (by simp [errsL])
  unfold firstC
  rw [if_neg h1, if_neg h2, if_neg h3, if_neg h4]

set_option maxHeartbeats 1000000 in
theorem firstError_any (A : Option Addr) (c : Nat) (L : List Int) (B : Nat) (w : World) (h : Ints w B A L) (hB : B ≤ w.heap.size) (hn : L.length ≤ 1048576) :
    Calls Tryd.prog 42 #[.slice A L.length c] w fun e w' => e = .returned (.int .i64 (firstC L)) ∧ Below w.heap.size w w' := by
  have hc := fun x W (hW : Below w.heap.size w W) => containsI_any A c L B x W (h.below (hW.mono hB)) hn
  obtain ⟨n, hN⟩ : ∃ n, L.length = n := ⟨_, rfl⟩
  obtain ⟨r, hr⟩ : ∃ r, firstC L = r := ⟨_, rfl⟩
  simp only [hN] at hc
  rw [hN, hr]
  have HC := Lib.hid hc
  have HR := Lib.hid hr
  have B0 := Lib.hid (below_box w (.cells #[.int .i64 1, .int .i64 2, .int .i64 7, .int .i64 8] 2))
  have hcell : ∀ k x, errsL[k]? = some x → (w.alloc (.cells #[.int .i64 1, .int .i64 2, .int .i64 7, .int .i64 8] 2)).cell? ⟨w.heap.size, k, none⟩ = some (.int .i64 x) := fun k x hk => by
    match k, hk with
    | 0, hk => obtain rfl : (1 : Int) = x := by simpa [errsL] using hk
               simp
    | 1, hk => obtain rfl : (2 : Int) = x := by simpa [errsL] using hk
               simp
    | 2, hk => obtain rfl : (7 : Int) = x := by simpa [errsL] using hk
               simp
    | 3, hk => obtain rfl : (8 : Int) = x := by simpa [errsL] using hk
               simp
    | k + 4, hk => simp [errsL] at hk
  have HCL := Lib.hid hcell
  clear h hc hN hn hr hcell
  go_enter Tryd.func42, Tryd.ntmps42
  go_wp2
  obtain ⟨W1, hW1⟩ : ∃ W1, w.alloc (.cells #[.int .i64 1, .int .i64 2, .int .i64 7, .int .i64 8] 2) = W1 := ⟨_, rfl⟩
  rw [hW1] at B0 HCL ⊢
  clear hW1
  go_loop [7] (fun i => ∃ k : Nat, k ≤ 4 ∧ i = .int .i64 k ∧ Hid (∀ y ∈ errsL.take k, y ∉ L)) (fun i => 4 - (intOf i).toNat)
  case atStart => exact ⟨0, Nat.zero_le _, rfl, by intro y hy; simp at hy⟩
  case round =>
    obtain ⟨k, hk, rfl, HX⟩ := hrel
    by_cases hlt : k < 4
    · obtain ⟨x, hx⟩ : ∃ x, errsL[k]? = some x := ⟨errsL[k]'(by simp [errsL]; omega), List.getElem?_eq_getElem _⟩
      have c1 := HCL.out k x hx
      have hcx := HC.out x _ B0.out
      obtain ⟨u, hu⟩ : ∃ u, decide (x ∈ L) = u := ⟨_, rfl⟩
      rw [hu] at hcx
      have HK := Lib.hid hcx
      have k0 : (0 : Int) ≤ (k : Int) := Int.natCast_nonneg _
      have k1 : (k : Int) < 4 := by omega
      have HXX := Lib.hid hx
      have HU := Lib.hid hu
      clear hx hcx hu
      cases u
      · have HX1 : Hid (∀ y ∈ errsL.take (k + 1), y ∉ L) := fun y hy => by
          rw [List.take_add_one, HXX.out, List.mem_append] at hy
          rcases hy with hy | hy
          · exact HX.out y hy
          · obtain rfl : y = x := by simpa using hy
            exact of_decide_eq_false HU.out
        go_wp2_with (go_at_call 51; refine HK.out.mono ?_; rintro e w' ⟨rfl, rfl⟩)
        go_round
        case rel => exact ⟨k + 1, by omega, by go_num, HX1⟩
        case measure => simp [intOf]; omega
      · obtain rfl : r = x := by rw [← HR.out]; exact firstC_at HXX.out (of_decide_eq_true HU.out) HX.out
        go_wp2_with (go_at_call 51; refine HK.out.mono ?_; rintro e w' ⟨rfl, rfl⟩)
        go_ret
        exact ⟨rfl, B0.out⟩
    · obtain rfl : r = 0 := by
        rw [← HR.out]
        refine firstC_none ?_
        have := HX.out
        rwa [List.take_of_length_le (by simp [errsL]; omega)] at this
      have k1 : ¬ (k : Int) < 4 := by omega
      go_wp2
      go_ret
      exact ⟨rfl, B0.out⟩
end Go.Proofs.YtamookdlbmbncabDoor

/- impl.cardsWhere at the closure of impl.SelectBetween, impl.SelectBetween and impl.SelectEqual: contracts. -/
namespace Go.Proofs.YtamookdlbmbncabDoor
open Go.ChangeShapes Go.WideShapes Go.ChangeAt Go.RowKit

/-- the cards ahead of place n for which q holds -/
def cardsE (q : Nat → Bool) (E : List CardV) : Nat → List CardV
  | 0 => []
  | n + 1 => if q n = true then cardsE q E n ++ (E[n]?).toList else cardsE q E n
theorem cardsE_yes {q : Nat → Bool} {E : List CardV} {n : Nat} {e : CardV} (h : q n = true) (hn : E[n]? = some e) : cardsE q E (n + 1) = cardsE q E n ++ [e] := by
  rw [cardsE, if_pos h, hn]
  rfl
theorem cardsE_no {q : Nat → Bool} {E : List CardV} {n : Nat} (h : q n = false) : cardsE q E (n + 1) = cardsE q E n := if_neg (by simp [h])
theorem cardsE_holes (q : Nat → Bool) (E : List CardV) : ∀ n, n ≤ E.length → holes (cardsE q E n) = cardsPl q (holes E) n
  | 0, _ => rfl
  | n + 1, h => by
    have ih := cardsE_holes q E n (by omega)
    have he : E[n]? = some (E[n]'(by omega)) := List.getElem?_eq_getElem _
    unfold cardsE cardsPl
    rw [holes_at he, he]
    split
    · simp only [holes, List.map_append] at ih ⊢
      rw [ih]
      rfl
    · exact ih
theorem cardsE_sub (q : Nat → Bool) (E : List CardV) : ∀ n, (cardsE q E n).Sublist (E.take n)
  | 0 => by simp [cardsE]
  | n + 1 => by
    have ih := cardsE_sub q E n
    unfold cardsE
    rw [List.take_add_one]
    split
    · exact ih.append (List.Sublist.refl _)
    · exact ih.trans (List.sublist_append_left _ _)
theorem NewRows.sub {w : World} {lo : Nat} {E F : List CardV} (h : NewRows w lo E) (hs : F.Sublist E) : NewRows w lo F :=
  ⟨fun e he => h.each e (hs.subset he), h.apart.sublist hs⟩
theorem cardsE_rows {w : World} {lo n : Nat} {q : Nat → Bool} {E : List CardV} (h : NewRows w lo E) : NewRows w lo (cardsE q E n) := h.sub ((cardsE_sub q E n).trans (List.take_sublist _ _))
theorem cardsE_len (q : Nat → Bool) (E : List CardV) (n : Nat) : (cardsE q E n).length ≤ n := by
  have h1 := (cardsE_sub q E n).length_le
  have h2 := List.length_take_le n E
  omega
/-- a list of the cards for which q holds, in the memory of these -/
def GivesSel (q : Nat → Bool) (E : List CardV) (n lo : Nat) (w : World) (e : Ending) (w' : World) : Prop :=
  ∃ A cap, e = .returned (.slice A (cardsE q E n).length cap) ∧ Below w.heap.size w w' ∧ DeckAt w' lo w'.heap.size A (cardsE q E n)

theorem entriesU_any (A : Option Addr) (c : Nat) (D : List CardV) (B : Nat) (a b : Int) (w : World) (h : Deck w B A D) (hB : B ≤ w.heap.size) (hn : D.length ≤ 1048576) (hl : ∀ d ∈ D, d.xs.length ≤ 1048576) (hcap : CapsOk D) (hP : Places w) :
    Calls Tryd.prog 41 #[.slice A D.length c, .agg #[.int .i64 a, .int .i64 b]] w fun e w' => ∃ A' nn cap, e = .returned (.tuple #[.slice A' nn cap, .int .i64 (keysC (holes D) a b)]) ∧ Below w.heap.size w w' ∧ (keysC (holes D) a b = 0 → ∃ g E K, A' = some ⟨g, 0, none⟩ ∧ D.length = nn ∧ D.length = cap ∧ CapsOk E ∧ EntsOf D a.toNat b.toNat D.length E K ∧ Ents w' w.heap.size g E K D.length) := by
  refine (entriesOf_any A c D B a b w h hB hn hl hcap hP).mono ?_
  rintro e w' (⟨h1, rfl, hb⟩ | ⟨h0, g, E, K, rfl, hb, hE, hC, hK, hEn⟩)
  · exact ⟨none, 0, 0, rfl, hb, fun h => absurd h h1⟩
  · refine ⟨_, _, _, by rw [h0], hb, fun _ => ⟨g, E, K, rfl, rfl, rfl, hC, ?_, hEn⟩⟩
    obtain ⟨i, j, rfl, rfl, hij, hj, hv, hkb⟩ := keysC_zero h0
    rw [Int.toNat_natCast, Int.toNat_natCast] at *
    exact ⟨rfl, hE, hK, hv, hkb, hij, hj⟩

theorem firstC_mem {L : List Int} (h : firstC L = 0) {x : Int} (hx : x ∈ L) : x ≠ 1 ∧ x ≠ 2 ∧ x ≠ 7 ∧ x ≠ 8 := by
  unfold firstC at h
  by_cases h1 : 1 ∈ L
  · rw [if_pos h1] at h; exact absurd h (by decide)
  rw [if_neg h1] at h
  by_cases h2 : 2 ∈ L
  · rw [if_pos h2] at h; exact absurd h (by decide)
  rw [if_neg h2] at h
  by_cases h7 : 7 ∈ L
  · rw [if_pos h7] at h; exact absurd h (by decide)
  rw [if_neg h7] at h
  by_cases h8 : 8 ∈ L
  · rw [if_pos h8] at h; exact absurd h (by decide)
  exact ⟨fun e => h1 (e ▸ hx), fun e => h2 (e ▸ hx), fun e => h7 (e ▸ hx), fun e => h8 (e ▸ hx)⟩
theorem ask_zero {H : List (List Int)} {a b : Int} {T : List ByteArray} (h : askC H a b T = 0) : keysC H a b = 0 ∧ ∀ s ∈ T, textC s (IntKind.i64.wrap (b - a)) = 0 := by
  unfold askC at h
  refine ⟨?_, fun s hs => ?_⟩
  · have := firstC_mem h (List.mem_cons_self)
    rcases keysC_vals H a b with e | e | e | e <;> omega
  · have := firstC_mem h (List.mem_cons_of_mem _ (List.mem_map_of_mem hs))
    rcases textC_vals s (IntKind.i64.wrap (b - a)) with e | e | e <;> omega
/-- what is known of a text for a field -/
theorem text_zero {s : ByteArray} {i j : Nat} (hij : i < j) (hj : j ≤ 20) (h : textC s (IntKind.i64.wrap ((j : Int) - (i : Int))) = 0) : s.size = j - i ∧ legalT s = true ∧ (textCodes s).length = j - i ∧ textOk (textCodes s) = true ∧ textS (textCodes s) = s := by
  have hw : IntKind.i64.wrap ((j : Int) - (i : Int)) = (j : Int) - (i : Int) := IntWalk.i64_in _ (by omega)
  rw [hw] at h
  unfold textC at h
  by_cases h1 : (s.size : Int) ≠ (j : Int) - (i : Int)
  · rw [if_pos h1] at h; exact absurd h (by decide)
  · rw [if_neg h1] at h
    cases hl : legalT s with
    | false => rw [hl] at h; exact absurd h (by decide)
    | true =>
      obtain ⟨y1, y2⟩ := text_back hl
      exact ⟨by omega, rfl, by rw [textCodes_length]; omega, y1, y2⟩
theorem betA_facts {H : List (List Int)} {a b : Int} {s t : ByteArray} (h : askC H a b [s, t] = 0) : ∃ i j : Nat, a = i ∧ b = j ∧ i < j ∧ j ≤ widthH H ∧ j ≤ 20 ∧ deckB H = true ∧ keysB H i j = true ∧ betA H a b s t = cardsPl (betQ H i j (textCodes s) (textCodes t)) H H.length ∧
    (s.size = j - i ∧ legalT s = true ∧ (textCodes s).length = j - i ∧ textOk (textCodes s) = true ∧ textS (textCodes s) = s) ∧ (t.size = j - i ∧ legalT t = true ∧ (textCodes t).length = j - i ∧ textOk (textCodes t) = true ∧ textS (textCodes t) = t) := by
  obtain ⟨h1, h2⟩ := ask_zero h
  have hf := h1
  unfold keysC at hf
  obtain ⟨i, j, rfl, rfl, hij, hj, hv, hkb⟩ := keysC_zero h1
  have h20 : j ≤ 20 := by
    rcases keysC_cases H (i : Int) (j : Int) with ⟨e, _⟩ | ⟨e, _⟩ | ⟨_, _, _, _, _, hjw, _, _⟩
    · rw [e] at h1; exact absurd h1 (by decide)
    · rw [e] at h1; exact absurd h1 (by decide)
    · by_cases h0 : H.length = 0
      · have : widthH H = 20 := by simp [widthH, h0]
        omega
      · have hx : H[0]? = some (H[0]'(by omega)) := List.getElem?_eq_getElem _
        obtain ⟨y1, y2⟩ := deck_width hv hx
        have := (okB_parts y1).2
        omega
  refine ⟨i, j, rfl, rfl, hij, hj, h20, hv, hkb, ?_, text_zero hij h20 (h2 s (by simp)), text_zero hij h20 (h2 t (by simp))⟩
  unfold betA
  rw [if_pos h, Int.toNat_natCast, Int.toNat_natCast]

section
variable (A : Option Addr) (c : Nat) (D : List CardV) (B : Nat) (a b : Int) (w : World) (h : Deck w B A D) (hB : B ≤ w.heap.size) (hn : D.length ≤ 1048576) (hl : ∀ d ∈ D, d.xs.length ≤ 1048576)
end

section
variable (A : Option Addr) (c : Nat) (D : List CardV) (B : Nat) (a b : Int) (w : World) (h : Deck w B A D) (hB : B ≤ w.heap.size) (hn : D.length ≤ 1048576) (hl : ∀ d ∈ D, d.xs.length ≤ 1048576)
end
end Go.Proofs.YtamookdlbmbncabDoor
/- impl.entriesOfBoth and impl.MergeDecks: contracts. -/
namespace Go.Proofs.YtamookdlbmbncabDoor
open Go.ChangeShapes Go.WideShapes Go.ChangeAt Go.RowKit

theorem NewRows.lower {w : World} {lo lo' : Nat} {E : List CardV} (h : NewRows w lo E) (hl : lo' ≤ lo) : NewRows w lo' E :=
  ⟨fun e he => by obtain ⟨ge, ex, h1, h2, h3⟩ := h.each e he; exact ⟨ge, ex, h1, by omega, h3⟩, h.apart⟩
theorem NewRows.perm {w : World} {lo : Nat} {E F : List CardV} (h : NewRows w lo E) (hp : F.Perm E) : NewRows w lo F :=
  ⟨fun e he => h.each e (hp.subset he), (hp.symm.pairwise_iff (fun hxy => fun e => hxy e.symm)).1 h.apart⟩
theorem NewRows.both {w w' : World} {lo : Nat} {E F : List CardV} (h : NewRows w lo E) (hb : Below w.heap.size w w') (hF : NewRows w' w.heap.size F) (hl : lo ≤ w.heap.size) : NewRows w' lo (E ++ F) := by
  refine ⟨fun e he => ?_, ?_⟩
  · rcases List.mem_append.1 he with he | he
    · exact (h.later hb).each e he
    · exact (hF.lower hl).each e he
  · rw [List.pairwise_append]
    refine ⟨h.apart, hF.apart, fun x hx y hy => ?_⟩
    obtain ⟨gx, _, a1, _, a3⟩ := h.each x hx
    obtain ⟨gy, _, b1, b2, _⟩ := hF.each y hy
    rw [a1, b1]
    intro e
    have e1 : gx = gy := by simpa using e
    have := a3.lt
    omega

/-- the entries of two decks -/
def GivesBoth (D D' : List CardV) (a b : Int) (n m : Nat) (w : World) (e : Ending) (w' : World) : Prop :=
  ∃ A1 n1 c1 A2 n2 c2, e = .returned (.tuple #[.slice A1 n1 c1, .slice A2 n2 c2, .int .i64 (twoC (holes D) (holes D') a b)]) ∧ Below w.heap.size w w' ∧
    (twoC (holes D) (holes D') a b = 0 → ∃ lo lo' g E K g' E' K', A1 = some ⟨g, 0, none⟩ ∧ n = n1 ∧ n = c1 ∧ A2 = some ⟨g', 0, none⟩ ∧ m = n2 ∧ m = c2 ∧ CapsOk E ∧ CapsOk E' ∧ EntsOf D a.toNat b.toNat n E K ∧ Ents w' lo g E K n ∧ EntsOf D' a.toNat b.toNat m E' K' ∧ Ents w' lo' g' E' K' m ∧ NewRows w' w.heap.size (E ++ E'))

section
variable (A A' : Option Addr) (c c' : Nat) (D D' : List CardV) (B B' : Nat) (a b : Int) (w : World) (h : Deck w B A D) (h' : Deck w B' A' D') (hB : B ≤ w.heap.size) (hB' : B' ≤ w.heap.size) (hn : D.length ≤ 1048576) (hn' : D'.length ≤ 1048576) (hl : ∀ d ∈ D, d.xs.length ≤ 1048576) (hl' : ∀ d ∈ D', d.xs.length ≤ 1048576)
include h h' hB hB' hn hn' hl hl'
set_option maxRecDepth 100000 in
set_option maxHeartbeats 2000000 in
theorem both_any (hcap : CapsOk D) (hcap' : CapsOk D') (hP : Places w) :
    Calls Tryd.prog 32 #[.slice A D.length c, .slice A' D'.length c', .agg #[.int .i64 a, .int .i64 b]] w (GivesBoth D D' a b D.length D'.length w) := by
  have b0 := below_box w (.cells #[.int .i64 a, .int .i64 b] 36)
  have hk := entriesU_any A c D B a b (w.alloc (.cells #[.int .i64 a, .int .i64 b] 36)) (h.below (b0.mono hB)) (by simp; omega) hn hl hcap (hP.below b0)
  have hk' := fun W (hW : Below w.heap.size w W) => entriesU_any A' c' D' B' a b W (h'.below (hW.mono hB')) (Nat.le_trans hB' hW.size) hn' hl' hcap' (hP.below hW)
  have p0 : (w.alloc (.cells #[.int .i64 a, .int .i64 b] 36)).cell? ⟨w.heap.size, 0, none⟩ = some (.int .i64 a) := by simp
  have p1 : (w.alloc (.cells #[.int .i64 a, .int .i64 b] 36)).cell? ⟨w.heap.size, 1, none⟩ = some (.int .i64 b) := by simp
  have hfe : twoC (holes D) (holes D') a b = firstC [keysC (holes D) a b, keysC (holes D') a b] := rfl
  have hz := fun (h0 : twoC (holes D) (holes D') a b = 0) => two_zero h0
  have hsz0 : w.heap.size ≤ (w.alloc (.cells #[.int .i64 a, .int .i64 b] 36)).heap.size := b0.size
  unfold GivesBoth
  obtain ⟨k, hk0⟩ : ∃ k, keysC (holes D) a b = k := ⟨_, rfl⟩
  obtain ⟨k', hk0'⟩ : ∃ k, keysC (holes D') a b = k := ⟨_, rfl⟩
  obtain ⟨r, hr⟩ : ∃ r, twoC (holes D) (holes D') a b = r := ⟨_, rfl⟩
  rw [hr, hk0, hk0'] at hfe
  rw [hr, hk0, hk0'] at hz
  rw [hk0] at hk
  simp only [hk0'] at hk'
  rw [hr]
  obtain ⟨n, hN⟩ : ∃ n, D.length = n := ⟨_, rfl⟩
  obtain ⟨m, hM⟩ : ∃ n, D'.length = n := ⟨_, rfl⟩
  rw [hN] at hk ⊢
  simp only [hM] at hk' ⊢
  obtain ⟨i, hi⟩ : ∃ i, a.toNat = i := ⟨_, rfl⟩
  obtain ⟨j, hj⟩ : ∃ j, b.toNat = j := ⟨_, rfl⟩
  rw [hi, hj] at hk ⊢
  simp only [hi, hj] at hk'
  have HK := Lib.hid hk
  have HK' := Lib.hid hk'
  have HFE := Lib.hid hfe
  have HZ := Lib.hid hz
  have BW := Lib.hid b0
  clear hk hk' hfe hz hr hk0 hk0' b0 h h' hl hl' hcap hcap' hP hN hM hn hn' hi hj
  go_enter Tryd.func32, Tryd.ntmps32
  go_wp2_with fail
  refine HK.out.mono ?_
  rintro e w1 ⟨A1, n1, c1, rfl, hb1, h1⟩
  have B1 := Lib.hid (below_step BW.out hb1)
  have q0 := cell_kept p0 hb1
  have q1 := cell_kept p1 hb1
  have H1 := Lib.hid h1
  have HS1 := Lib.hid hb1.size
  clear hb1 h1 p0 p1 HK
  go_wp2_with fail
  refine (HK'.out w1 B1.out).mono ?_
  rintro e w2 ⟨A2, n2, c2, rfl, hb2, h2⟩
  have L2 := Lib.hid hb2
  have B2 := Lib.hid (below_step B1.out hb2)
  have H2 := Lib.hid h2
  clear hb2 h2 q0 q1
  have hfe := firstError_any (some ⟨w2.heap.size, 0, none⟩) 2 [k, k'] (w2.heap.size + 1) (w2.alloc (.cells #[.int .i64 k, .int .i64 k'] 2)) (fun _ => ⟨w2.heap.size, 0, rfl, by omega, fun x hx => by
    match x, hx with
    | 0, _ => simp [go_sem]
    | 1, _ => simp [go_sem]
    | x + 2, hx => exact absurd (show x + 2 < 2 from hx) (by omega)⟩) (by simp) (by simp)
  rw [← HFE.out] at hfe
  have HFC := Lib.hid hfe
  have B4 := Lib.hid (below_box w2 (.cells #[.int .i64 k, .int .i64 k'] 2))
  clear hfe
  go_wp2_with fail
  refine HFC.out.mono ?_
  rintro e w5 ⟨rfl, hb5⟩
  have L5 := Lib.hid (below_step B4.out hb5)
  have B5 := Lib.hid (below_step B2.out L5.out)
  clear hb5 HFC B4
  go_wp2
  go_ret3
  refine ⟨A1, n1, c1, A2, n2, c2, rfl, B5.out, fun h0 => ?_⟩
  obtain ⟨z1, z2⟩ := HZ.out h0
  obtain ⟨g, E, K, y1, y2, y3, y4, y5, y6⟩ := H1.out z1
  obtain ⟨g', E', K', x1, x2, x3, x4, x5, x6⟩ := H2.out z2
  have l1 := y6.later (below_step L2.out L5.out)
  have l2 := x6.later L5.out
  refine ⟨_, _, g, E, K, g', E', K', y1, y2, y3, x1, x2, x3, y4, x4, y5, l1, x5, l2, ?_⟩
  have hs1 := B1.out.size
  have hsw : (w.alloc (.cells #[.int .i64 a, .int .i64 b] 36)).heap.size ≤ w1.heap.size := HS1.out
  exact ((y6.cards.both L2.out x6.cards hsw).later L5.out).lower hsz0
end
end Go.Proofs.YtamookdlbmbncabDoor

/- impl.MergeDecks: a contract. -/
namespace Go.Proofs.YtamookdlbmbncabDoor
open Go.ChangeShapes Go.WideShapes Go.ChangeAt Go.RowKit

theorem wid_20 {H : List (List Int)} (hv : deckB H = true) : widthH H ≤ 20 := by
  unfold widthH
  split
  · exact Nat.le_refl _
  · rename_i h0
    obtain ⟨x, hx⟩ : ∃ x, H[0]? = some x := ⟨H[0]'(by omega), List.getElem?_eq_getElem _⟩
    have := (okB_parts (deck_width hv hx).1).2
    simpa [firstZ, hx] using this
/-- what the answers of a merge are, by cases -/
def MergeF (H G : List (List Int)) (a b : Int) (r : Int) (cl : Bool) (s1 s2 : Int) (X : List (List Int)) (Z : Int) : Prop :=
  (r ≠ 0 → Z = r ∧ X = []) ∧ (r = 0 → cl = true → Z = 9 ∧ X = []) ∧ (r = 0 → cl = false → ¬ (s1 < 0 ∧ s2 < 0) → Z = 6 ∧ X = []) ∧
  (r = 0 → cl = false → s1 < 0 → s2 < 0 → 40 < H.length + G.length → Z = 5 ∧ X = []) ∧ (r = 0 → cl = false → s1 < 0 → s2 < 0 → H.length + G.length ≤ 40 → Z = 0 ∧ mg a.toNat b.toNat H G = X)
theorem merge_f (H G : List (List Int)) (a b : Int) : MergeF H G a b (twoC H G a b) (clashB H G) (stepV H a.toNat b.toNat) (stepV G a.toNat b.toNat) (mergeA H G a b) (mergeC H G a b) := by
  unfold MergeF mergeA mergeC
  refine ⟨fun h => ?_, fun h hc => ?_, fun h hc hs => ?_, fun h hc h1 h2 hl => ?_, fun h hc h1 h2 hl => ?_⟩
  · rw [if_pos h, if_neg h]; exact ⟨rfl, rfl⟩
  · rw [if_neg (by simp [h]), if_pos hc]; exact ⟨rfl, rfl⟩
  · rw [if_neg (by simp [h]), if_neg (by simp [hc]), if_pos (by omega)]; exact ⟨rfl, rfl⟩
  · rw [if_neg (by simp [h]), if_neg (by simp [hc]), if_neg (by omega), if_pos hl]; exact ⟨rfl, rfl⟩
  · rw [if_neg (by simp [h]), if_neg (by simp [hc]), if_neg (by omega), if_neg (by omega)]; exact ⟨rfl, rfl⟩
theorem clash_f (H G : List (List Int)) : (H.length = 0 → clashB H G = false) ∧ (G.length = 0 → clashB H G = false) ∧ (0 < H.length → 0 < G.length → widthH H = widthH G → clashB H G = false) ∧ (0 < H.length → 0 < G.length → widthH H ≠ widthH G → clashB H G = true) := by
  unfold clashB
  refine ⟨fun h => ?_, fun h => ?_, fun h1 h2 h3 => ?_, fun h1 h2 h3 => ?_⟩
  · simp [h]
  · simp [h]
  · simp [h3]
  · simp [h1, h2, h3]
/-- a list of entries, as a slice -/
theorem own_eat2 {w : World} {base : Nat} {v : Value} {E K : List CardV} (h : w.ownsRow base 68 2 v E.length (enCells E K)) (hl : E.length = K.length) : ∃ A cap, v = .slice A E.length cap ∧ (0 < E.length → EAt w w.heap.size A E K) := by
  rcases own_eat h hl with ⟨rfl, rfl⟩ | ⟨A, cap, e, he⟩
  · exact ⟨none, 0, rfl, fun h => absurd h (by simp)⟩
  · exact ⟨A, cap, e, fun _ => he⟩
theorem EntsOf.ij20 {D E K : List CardV} {i j n : Nat} (h : EntsOf D i j n E K) : j - i ≤ 20 := by
  have := wid_20 h.ok
  have := h.le
  omega

section
variable (A A' : Option Addr) (c c' : Nat) (D D' : List CardV) (B B' : Nat) (a b : Int) (w : World) (h : Deck w B A D) (h' : Deck w B' A' D') (hB : B ≤ w.heap.size) (hB' : B' ≤ w.heap.size) (hn : D.length ≤ 1048576) (hn' : D'.length ≤ 1048576) (hl : ∀ d ∈ D, d.xs.length ≤ 1048576) (hl' : ∀ d ∈ D', d.xs.length ≤ 1048576)
include h h' hB hB' hn hn' hl hl'
set_option maxRecDepth 100000 in
set_option maxHeartbeats 4000000 in
theorem implMergeDecks_any (hcap : CapsOk D) (hcap' : CapsOk D') (hP : Places w) :
    Calls Tryd.prog 21 #[.slice A D.length c, .slice A' D'.length c', .agg #[.int .i64 a, .int .i64 b]] w (GivesDC (mergeA (holes D) (holes D') a b) (mergeC (holes D) (holes D') a b) w) := by
  obtain ⟨ic, hi0, hz0, hz1, hz2⟩ := info_parts info_card
  have b0 := below_box w (.cells #[.int .i64 a, .int .i64 b] 36)
  have hk := both_any A A' c c' D D' B B' a b (w.alloc (.cells #[.int .i64 a, .int .i64 b] 36)) (h.below (b0.mono hB)) (h'.below (b0.mono hB')) (by simp; omega) (by simp; omega) hn hn' hl hl' hcap hcap' (hP.below b0)
  have hw1 := fun W (hW : Below w.heap.size w W) => widthOf_any A c D B W (h.below (hW.mono hB)) hn hl
  have hw2 := fun W (hW : Below w.heap.size w W) => widthOf_any A' c' D' B' W (h'.below (hW.mono hB')) hn' hl'
  have hf := merge_f (holes D) (holes D') a b
  have hc := clash_f (holes D) (holes D')
  have hsz0 : w.heap.size ≤ (w.alloc (.cells #[.int .i64 a, .int .i64 b] 36)).heap.size := b0.size
  unfold GivesBoth at hk
  unfold MergeF at hf
  rw [holes_len, holes_len] at hf hc
  obtain ⟨r, hr⟩ : ∃ r, twoC (holes D) (holes D') a b = r := ⟨_, rfl⟩
  obtain ⟨cl, hcl⟩ : ∃ r, clashB (holes D) (holes D') = r := ⟨_, rfl⟩
  obtain ⟨x1, hx1⟩ : ∃ r, widthH (holes D) = r := ⟨_, rfl⟩
  obtain ⟨x2, hx2⟩ : ∃ r, widthH (holes D') = r := ⟨_, rfl⟩
  obtain ⟨X, hX⟩ : ∃ r, mergeA (holes D) (holes D') a b = r := ⟨_, rfl⟩
  obtain ⟨Z, hZ⟩ : ∃ r, mergeC (holes D) (holes D') a b = r := ⟨_, rfl⟩
  obtain ⟨n, hN⟩ : ∃ n, D.length = n := ⟨_, rfl⟩
  obtain ⟨m, hM⟩ : ∃ n, D'.length = n := ⟨_, rfl⟩
  rw [hr, hcl, hX, hZ, hN, hM] at hf
  rw [hcl, hx1, hx2, hN, hM] at hc
  rw [hr, hN, hM] at hk
  simp only [hx1, hN] at hw1
  simp only [hx2, hM] at hw2
  rw [hX, hZ, hN, hM]
  have HK := Lib.hid hk
  have HW1 := Lib.hid hw1
  have HW2 := Lib.hid hw2
  have HF := Lib.hid hf
  have HC := Lib.hid hc
  have BW := Lib.hid b0
  clear hk hw1 hw2 hf hc hr hcl hx1 hx2 hX hZ b0 h h' hl hl' hcap hcap' hP hN hM
  go_enter Tryd.func21, Tryd.ntmps21
  go_wp2_with fail
  refine HK.out.mono ?_
  rintro e w1 ⟨A1, n1, c1, A2, n2, c2, rfl, hb1, h1⟩
  have B1 := Lib.hid (below_step BW.out hb1)
  have L1 := Lib.hid hb1
  have H1 := Lib.hid h1
  clear hb1 h1 HK
  by_cases hr0 : r = 0
  case neg =>
    obtain ⟨z1, z2⟩ := HF.out.1 hr0
    subst z1 z2
    go_wp2
    go_ret2
    unfold GivesDC; exact ⟨none, 0, [], rfl, rfl, B1.out, DeckAt.nil (Nat.le_refl _)⟩
  subst hr0
  obtain ⟨lo, lo', g, E, K, g', E', K', rfl, rfl, rfl, rfl, rfl, rfl, hcE, hcE', hO, hE, hO', hE', hRR⟩ := H1.out rfl
  have HO := Lib.hid hO
  have HE := Lib.hid hE
  have HO' := Lib.hid hO'
  have HE' := Lib.hid hE'
  have HRR := Lib.hid (hRR.lower hsz0)
  have n40 := hO.n40
  have m40 := hO'.n40
  clear hO hE hO' hE' hRR H1 hcE hcE'
  go_upto_region 4 with fail
  go_cut [39] (fun s0 wx => s0 = .bool cl ∧ Below w1.heap.size w1 wx)
  case first =>
    by_cases hn0 : n = 0
    · have i0 : ¬ ((n : Int) > 0) := by omega
      have hz := HC.out.1 hn0
      subst hz
      have HZ0 := Lib.hid hn0
      clear hn0
      go_wp2
      go_meet
      exact ⟨rfl, Below.refl _ _⟩
    · have i0 : ((n : Int) > 0) := by omega
      by_cases hm0 : m = 0
      · have i1 : ¬ ((m : Int) > 0) := by omega
        have hz := HC.out.2.1 hm0
        subst hz
        have HZ0 := Lib.hid hm0
        clear hm0
        go_wp2
        go_meet
        exact ⟨rfl, Below.refl _ _⟩
      · have i1 : ((m : Int) > 0) := by omega
        go_wp2_with fail
        refine (HW1.out w1 B1.out).mono ?_
        rintro e w2 ⟨rfl, hb2⟩
        have L2 := Lib.hid hb2
        clear hb2
        go_wp2_with fail
        refine (HW2.out w2 (below_step B1.out L2.out)).mono ?_
        rintro e w3 ⟨rfl, hb3⟩
        have L3 := Lib.hid (below_step L2.out hb3)
        clear hb3
        by_cases hxx : x1 = x2
        · have hz := HC.out.2.2.1 (by omega) (by omega) hxx
          subst hz hxx
          go_wp2
          go_meet
          exact ⟨rfl, L3.out⟩
        · have hz := HC.out.2.2.2 (by omega) (by omega) hxx
          subst hz
          have HX := Lib.hid hxx
          clear hxx
          go_wp2
          go_meet
          exact ⟨by have := HX.out; rw [show ((x1 : Int) != (x2 : Int)) = true by simp; omega], L3.out⟩
  case rest =>
    obtain ⟨rfl, hb2⟩ := hcut
    rename World => w2
    have L2 := Lib.hid hb2
    clear hb2
    cases cl
    case true =>
      obtain ⟨z1, z2⟩ := HF.out.2.1 trivial rfl
      subst z1 z2
      go_wp2
      go_ret2
      unfold GivesDC; exact ⟨none, 0, [], rfl, rfl, below_step B1.out L2.out, DeckAt.nil (Nat.le_refl _)⟩
    have hq1 := fun W (hW : Below w1.heap.size w1 W) => inOrder_any (w := W) HO.out (HE.out.later hW)
    have hq2 := fun W (hW : Below w1.heap.size w1 W) => inOrder_any (w := W) HO'.out (HE'.out.later hW)
    obtain ⟨s1, hs1⟩ : ∃ s, stepV (holes D) a.toNat b.toNat = s := ⟨_, rfl⟩
    obtain ⟨s2, hs2⟩ : ∃ s, stepV (holes D') a.toNat b.toNat = s := ⟨_, rfl⟩
    simp only [hs1] at hq1
    simp only [hs2] at hq2
    rw [hs1, hs2] at HF
    have HQ1 := Lib.hid hq1
    have HQ2 := Lib.hid hq2
    clear hq1 hq2 hs1 hs2
    go_upto_region 6 with fail
    go_cut [47] (fun s0 wx => s0 = .bool (!(decide (s1 < 0) && decide (s2 < 0))) ∧ Below w1.heap.size w1 wx)
    case first =>
      go_wp2_with fail
      refine (HQ1.out w2 L2.out).mono ?_
      rintro e w3 ⟨rfl, hb3⟩
      have L3 := Lib.hid (below_step L2.out hb3)
      clear hb3
      by_cases h1 : s1 < 0
      · go_wp2_with fail
        refine (HQ2.out w3 L3.out).mono ?_
        rintro e w4 ⟨rfl, hb4⟩
        have L4 := Lib.hid (below_step L3.out hb4)
        clear hb4
        go_wp2
        go_meet
        exact ⟨by simp [h1], L4.out⟩
      · go_wp2
        go_meet
        exact ⟨by simp [h1], L3.out⟩
    case rest =>
      obtain ⟨rfl, hb3⟩ := hcut
      rename World => w3
      have L3 := Lib.hid hb3
      clear hb3 HQ1 HQ2
      by_cases hs : s1 < 0 ∧ s2 < 0
      case neg =>
        obtain ⟨z1, z2⟩ := HF.out.2.2.1 trivial rfl hs
        subst z1 z2
        have hsb : (!(decide (s1 < 0) && decide (s2 < 0))) = true := by
          rw [Bool.not_eq_true', Bool.and_eq_false_iff]
          simp only [decide_eq_false_iff_not]
          omega
        rw [hsb]
        go_wp2
        go_ret2
        unfold GivesDC; exact ⟨none, 0, [], rfl, rfl, below_step B1.out L3.out, DeckAt.nil (Nat.le_refl _)⟩
      have hsb : (!(decide (s1 < 0) && decide (s2 < 0))) = false := by simp [hs.1, hs.2]
      rw [hsb]
      by_cases h40 : 40 < n + m
      · obtain ⟨z1, z2⟩ := HF.out.2.2.2.1 trivial rfl hs.1 hs.2 h40
        subst z1 z2
        have i0 : (n : Int) + (m : Int) > 40 := by omega
        go_wp2
        go_ret2
        unfold GivesDC; exact ⟨none, 0, [], rfl, rfl, below_step B1.out L3.out, DeckAt.nil (Nat.le_refl _)⟩
      obtain ⟨z1, z2⟩ := HF.out.2.2.2.2 trivial rfl hs.1 hs.2 (by omega)
      subst z1
      have i0 : ¬ (n : Int) + (m : Int) > 40 := by omega
      have nm40 : n + m ≤ 40 := by omega
      have he1 := HE.out.later L3.out
      have he2 := HE'.out.later L3.out
      have hea1 := ents_at HO.out he1
      have hea2 := ents_at HO'.out he2
      have hmg := merge_any a.toNat b.toNat g 0 (some ⟨g', 0, none⟩) E K E' K' n m w3 hea1.1 hea2.1 hea1.2 hea2.2 HO.out.lenE HO'.out.lenE n40 m40 HO.out.ij20
      rw [HO.out.hE, HO'.out.hE, z2] at hmg
      have hrr := HRR.out.later L3.out
      have hEEl : (E ++ E').length = n + m := by rw [List.length_append, HO.out.lenE, HO'.out.lenE]
      have HMG := Lib.hid hmg
      have HR3 := Lib.hid hrr
      have HEL := Lib.hid hEEl
      have B3 := Lib.hid (below_step B1.out L3.out)
      clear he1 he2 hea1 hea2 hmg hrr z2 hEEl HF HC HW1 HW2
      go_wp2_with fail
      refine HMG.out.mono ?_
      rintro e w5 ⟨v, F, KF, rfl, hb5, hF, hperm, hlen, hrow⟩
      obtain ⟨AF, cF, hv, hEat⟩ := own_eat2 hrow hlen
      subst hv
      have B5 := Lib.hid (below_step B3.out hb5)
      have hfl : F.length = n + m := by rw [hperm.length_eq, HEL.out]
      have hnr := (HR3.out.later hb5).perm hperm
      have hsz5 : w.heap.size ≤ w5.heap.size := B5.out.size
      have hklen : KF.length = n + m := by rw [← hlen, hfl]
      rw [hfl] at hEat ⊢
      have HEA := Lib.hid hEat
      have HNR := Lib.hid hnr
      have HFX := Lib.hid hF
      have HFL := Lib.hid (And.intro hfl hklen)
      clear hb5 hF hperm hlen hrow hEat hnr HMG HR3 HEL hfl hklen
      go_wp2
      go_loopw [11, 58] (fun vo vi wr => ∃ t : Nat, ∃ vv : Value, t ≤ n + m ∧ vi = .int .i64 t ∧ vv = vo ∧ Hid (Below w5.heap.size w5 wr) ∧ Hid (wr.ownsRow w5.heap.size 34 1 vo (F.take t).length ((F.take t).map CardV.value))) (fun _ vi _ => n + m - (intOf vi).toNat)
      case atStart => exact ⟨0, _, Nat.zero_le _, rfl, rfl, Below.refl _ _, World.ownsRow_nil _ _ _ _⟩
      case round =>
        obtain ⟨t, vv, ht, rfl, rfl, HB, HR⟩ := hrel
        by_cases hlt : t < n + m
        · obtain ⟨bF, oF, rfl, hbF, hcell⟩ := HEA.out (by omega)
          obtain ⟨e, he⟩ : ∃ e, F[t]? = some e := ⟨F[t]'(by have := HFL.out.1; omega), List.getElem?_eq_getElem _⟩
          obtain ⟨q, hq⟩ : ∃ e, KF[t]? = some e := ⟨KF[t]'(by have := HFL.out.2; omega), List.getElem?_eq_getElem _⟩
          obtain ⟨c1, c2⟩ := hcell t e q he hq
          have c1 := cell_kept c1 HB.out
          have c2 := cell_kept c2 HB.out
          unfold CardV.value at c1 c2
          have hs : F.take (t + 1) = F.take t ++ [e] := by rw [List.take_add_one, he]; rfl
          have hlenX : (F.take t).length ≤ 40 := by have := List.length_take_le t F; omega
          obtain ⟨X0, hX0⟩ : ∃ X0, F.take t = X0 := ⟨_, rfl⟩
          have hrows : NewRows w5 w.heap.size (F.take (t + 1)) := ⟨fun x hx => HNR.out.each x (List.mem_of_mem_take hx), HNR.out.apart.sublist (List.take_sublist _ _)⟩
          rw [hs, hX0] at hrows
          rw [hX0] at HR hlenX hs
          have bx := below_box wr (.cells #[.slice e.at_ e.xs.length e.cap, .slice q.at_ q.xs.length q.cap] 68)
          have HBX := Lib.hid (below_step HB.out bx)
          have HRX : Hid ((wr.alloc (.cells #[.slice e.at_ e.xs.length e.cap, .slice q.at_ q.xs.length q.cap] 68)).ownsRow w5.heap.size 34 1 vv X0.length (X0.map CardV.value)) := HR.out.alloc _
          have HN3 := Lib.hid (hrows.later HBX.out)
          have HS := Lib.hid hs
          have t0 : (0 : Int) ≤ (t : Int) := Int.natCast_nonneg _
          have t1 : (t : Int) < (n : Int) + (m : Int) := by omega
          have hw3 : w5.heap.size ≤ (wr.alloc (.cells #[.slice e.at_ e.xs.length e.cap, .slice q.at_ q.xs.length q.cap] 68)).heap.size := HBX.out.size
          obtain ⟨le, hle⟩ : ∃ l, e.xs.length = l := ⟨_, rfl⟩
          obtain ⟨lq, hlq⟩ : ∃ l, q.xs.length = l := ⟨_, rfl⟩
          have HLE := Lib.hid hle
          rw [hle] at c1 HBX HRX HN3 hw3
          rw [hlq] at c2 HBX HRX HN3 hw3
          clear hs hX0 hrows bx hcell he hq hle hlq HR
          have hcn := card_news (wr.alloc (.cells #[.slice e.at_ le e.cap, .slice q.at_ lq q.cap] 68)) (.slice e.at_ le e.cap)
          rw [show (wr.alloc (.cells #[.slice e.at_ le e.cap, .slice q.at_ lq q.cap] 68)).heap.size = wr.heap.size + 1 by simp] at hcn
          have HCN := Lib.hid hcn
          clear hcn
          go_wp2_with (at_builtin; (refine wpList_append_own _ rfl _ _ 30 rfl w5.heap.size 34 ic (.agg #[.slice none 0 0]) 1 24 Tryd.underlying30 hi0 hz0 hz1 hz2 rfl (by decide) _ _ _ rfl (HRX.out.alloc _) ⟨wr.heap.size + 1, 0, none⟩ 1 1 [.slice e.at_ le e.cap] rfl rfl HCN.out ?c2 ?c3 ?c4 ?c5 ?_; rotate_left 4; intro v9 w9 hown hgrow hiff; have hv9 : v9 ≠ .slice none 0 0 := (fun ee => absurd (hiff.1 ee).2 (by decide)); obtain ⟨ho, hbb, hrr⟩ := own_card (x := e) (by unfold CardV.value; rw [HLE.out]; exact hown) (by unfold CardV.value; rw [HLE.out]; exact hgrow) HRX.out HBX.out (Nat.le_refl _) hw3 HN3.out; obtain ⟨g9, cap9, rfl⟩ := own_shape ho hv9; have HO9 := Lib.hid ho; have HB9 := Lib.hid hbb; clear hown hgrow hiff hv9 ho hbb hrr))
          case c2 => intro u hu; simp at hu; subst hu; rfl
          case c3 => unfold maxLen; omega
          case c4 => omega
          case c5 => have := HB.out.size; simp; omega
          go_roundw
          case rel => exact ⟨t + 1, _, by omega, by go_num, rfl, HB9, by rw [HS.out, List.length_append]; exact HO9.out⟩
          case measure => simp [intOf]; omega
        · obtain rfl : t = n + m := by omega
          have t1 : ¬ ((n + m : Nat) : Int) < (n : Int) + (m : Int) := by omega
          rw [show F.take (n + m) = F from List.take_of_length_le (by have := HFL.out.1; omega)] at HR
          obtain ⟨A9, c9, e9, hda⟩ := own_deckAt HR.out rfl (HNR.out.later HB.out) hsz5
          subst e9
          have HDA := Lib.hid hda
          have HB9 := Lib.hid (below_step B5.out HB.out)
          clear hda HR
          have hXl : X.length = F.length := by rw [← HFX.out, holes_len]
          go_wp2
          go_ret2
          unfold GivesDC
          exact ⟨A9, c9, F, by rw [hXl]; rfl, HFX.out, HB9.out, HDA.out⟩
end
end Go.Proofs.YtamookdlbmbncabDoor

/- spec.MergeDecks: a contract. -/
namespace Go.Proofs.YtamookdlbmbncabDoor
open Go.ChangeShapes Go.WideShapes Go.ChangeAt Go.RowKit

theorem key_deck {D : List CardV} {n : Nat} {a b : Int} (hn : D.length = n) (h : keysC (holes D) a b = 0) : KeyDeck D a.toNat b.toNat n := by
  obtain ⟨i, j, rfl, rfl, hij, hj, hv, hkb⟩ := keysC_zero h
  rw [Int.toNat_natCast, Int.toNat_natCast] at *
  exact ⟨hn, hv, hkb, hj, hij⟩
/-- the first card of a deck -/
theorem deck_first {w : World} {B : Nat} {A : Option Addr} {D : List CardV} (h : Deck w B A D) (h0 : 0 < D.length) : ∃ b off u c, A = some ⟨b, off, none⟩ ∧ w.cell? ⟨b, off, none⟩ = some (.slice u (widthH (holes D)) c) := by
  obtain ⟨b, off, rfl, _, hc⟩ := h h0
  obtain ⟨d, hd⟩ : ∃ d, D[0]? = some d := ⟨D[0]'h0, List.getElem?_eq_getElem _⟩
  have h1 := (hc 0 d hd).1
  have e : widthH (holes D) = d.xs.length := by
    rw [widthH, if_neg (by rw [holes_len]; omega)]
    simp [firstZ, holes, hd]
  exact ⟨b, off, d.at_, d.cap, rfl, by rw [e]; exact h1⟩

section
variable (A A' : Option Addr) (c : Nat) (D D' : List CardV) (B B' : Nat) (a b : Int) (w : World) (h : Deck w B A D) (h' : Deck w B' A' D') (hB : B ≤ w.heap.size) (hB' : B' ≤ w.heap.size) (hn : D.length ≤ 1048576) (hn' : D'.length ≤ 1048576) (hl : ∀ d ∈ D, d.xs.length ≤ 1048576) (hl' : ∀ d ∈ D', d.xs.length ≤ 1048576)
end
end Go.Proofs.YtamookdlbmbncabDoor
/- impl.InsertCard and spec.InsertCard: contracts. -/
namespace Go.Proofs.YtamookdlbmbncabDoor
open Go.ChangeShapes Go.WideShapes Go.ChangeAt Go.RowKit

/-- a deck of one card, laid anew -/
theorem one_deck {w W : World} {BC : Nat} {C : CardV} (hI : Ints w BC C.at_ C.xs) (hBC : BC ≤ w.heap.size) (hW : Below w.heap.size w W) :
    Deck (W.alloc (.cells #[.slice C.at_ C.xs.length C.cap] 34)) (W.heap.size + 1) (some ⟨W.heap.size, 0, none⟩) [C] := fun _ =>
  ⟨W.heap.size, 0, rfl, by omega, fun i d hd => by
    match i, hd with
    | 0, hd =>
      obtain rfl : C = d := by simpa using hd
      refine ⟨by unfold CardV.value; simp, ?_⟩
      have h1 := hI.below (hW.mono hBC)
      exact (h1.below ((below_box W _).mono (Nat.le_trans hBC hW.size))).more (by have := hW.size; omega)
    | i + 1, hd => simp at hd⟩
theorem one_caps {C : CardV} (h : C.xs.length ≤ C.cap ∧ C.cap ≤ 9223372036854775807) : CapsOk [C] := fun d hd => by
  obtain rfl : d = C := by simpa using hd
  exact h
theorem one_len {C : CardV} (h : C.xs.length ≤ 1048576) : ∀ d ∈ [C], d.xs.length ≤ 1048576 := fun d hd => by
  obtain rfl : d = C := by simpa using hd
  exact h
theorem one_step (x : List Int) (i j : Nat) : stepV [x] i j < 0 := by
  unfold stepV
  simp [stepFrom]

section
variable (A : Option Addr) (c : Nat) (D : List CardV) (B : Nat) (C : CardV) (BC : Nat) (a b : Int) (w : World) (h : Deck w B A D) (hI : Ints w BC C.at_ C.xs) (hB : B ≤ w.heap.size) (hBC : BC ≤ w.heap.size) (hn : D.length ≤ 1048576) (hl : ∀ d ∈ D, d.xs.length ≤ 1048576) (hC : C.xs.length ≤ 1048576)
include h hI hB hBC hn hl hC

set_option maxRecDepth 100000 in
set_option maxHeartbeats 2000000 in
theorem implInsert_any (hcap : CapsOk D) (hcapC : C.xs.length ≤ C.cap ∧ C.cap ≤ 9223372036854775807) (hP : Places w) :
    Calls Tryd.prog 10 #[.slice A D.length c, .agg #[.slice C.at_ C.xs.length C.cap], .agg #[.int .i64 a, .int .i64 b]] w (GivesDC (mergeA (holes D) [C.xs] a b) (mergeC (holes D) [C.xs] a b) w) := by
  have b0 : Below w.heap.size w ((w.alloc (.cells #[.slice C.at_ C.xs.length C.cap] 34)).alloc (.cells #[.int .i64 a, .int .i64 b] 36)) := (below_box w _).alloc (by simp) _
  have hd := one_deck hI hBC b0
  have b1 := b0.alloc b0.size (.cells #[.slice C.at_ C.xs.length C.cap] 34)
  have hs : ((w.alloc (.cells #[.slice C.at_ C.xs.length C.cap] 34)).alloc (.cells #[.int .i64 a, .int .i64 b] 36)).heap.size = w.heap.size + 1 + 1 := by simp
  rw [hs] at hd
  have hk := implMergeDecks_any A (some ⟨w.heap.size + 1 + 1, 0, none⟩) c 1 D [C] B (w.heap.size + 1 + 1 + 1) a b _ (h.below (b1.mono hB)) hd (Nat.le_trans hB b1.size) (by simp) hn (by simp) hl (one_len hC) hcap (one_caps hcapC) (hP.below b1)
  unfold GivesDC at hk
  have HK := Lib.hid hk
  have B1 := Lib.hid b1
  clear hk b0 b1 hd h hI hl hcap hcapC hP hs
  obtain ⟨n, hN⟩ : ∃ n, D.length = n := ⟨_, rfl⟩
  rw [hN] at HK ⊢
  obtain ⟨l, hL⟩ : ∃ n, C.xs.length = n := ⟨_, rfl⟩
  rw [hL] at HK B1 ⊢
  clear hN hL
  go_enter Tryd.func10, Tryd.ntmps10
  go_wp2_with fail
  refine HK.out.mono ?_
  rintro e w1 ⟨A9, c9, E, rfl, hE, hb, hda⟩
  have HE := Lib.hid hE
  have BB := Lib.hid (below_step B1.out hb)
  have HDA := Lib.hid (hda.widen B1.out.size (Nat.le_refl _) (Nat.le_refl _))
  clear hE hb hda
  go_wp2
  go_ret2
  unfold GivesDC
  exact ⟨A9, c9, E, rfl, HE.out, BB.out, HDA.out⟩

set_option maxRecDepth 100000 in
set_option maxHeartbeats 4000000 in
theorem specInsert_any (hcap : CapsOk D) (hcapC : C.xs.length ≤ C.cap ∧ C.cap ≤ 9223372036854775807) :
    Calls Tryd.prog 6 #[.slice A D.length c, .agg #[.slice C.at_ C.xs.length C.cap], .agg #[.int .i64 a, .int .i64 b]] w (GivesDC (mergeA (holes D) [C.xs] a b) (mergeC (holes D) [C.xs] a b) w) := by
  have b0 : Below w.heap.size w ((w.alloc (.cells #[.slice C.at_ C.xs.length C.cap] 34)).alloc (.cells #[.int .i64 a, .int .i64 b] 36)) := (below_box w _).alloc (by simp) _
  have hd := one_deck hI hBC b0
  have b1 := b0.alloc b0.size (.cells #[.slice C.at_ C.xs.length C.cap] 34)
  have p0 : (((w.alloc (.cells #[.slice C.at_ C.xs.length C.cap] 34)).alloc (.cells #[.int .i64 a, .int .i64 b] 36)).alloc (.cells #[.slice C.at_ C.xs.length C.cap] 34)).cell? ⟨w.heap.size, 0, none⟩ = some (.slice C.at_ C.xs.length C.cap) := by
    have p1 : (w.alloc (.cells #[.slice C.at_ C.xs.length C.cap] 34)).cell? ⟨w.heap.size, 0, none⟩ = some (.slice C.at_ C.xs.length C.cap) := by simp
    exact cell_kept (cell_kept p1 (below_box _ _)) (below_box _ _)
  have hs : ((w.alloc (.cells #[.slice C.at_ C.xs.length C.cap] 34)).alloc (.cells #[.int .i64 a, .int .i64 b] 36)).heap.size = w.heap.size + 1 + 1 := by simp
  have hone := fun W (hW : Below w.heap.size w W) => one_deck hI hBC hW
  rw [hs] at hd
  have hk := l09Two_any A (some ⟨w.heap.size + 1 + 1, 0, none⟩) c 1 D [C] B (w.heap.size + 1 + 1 + 1) a b _ (h.below (b1.mono hB)) hd (Nat.le_trans hB b1.size) (by rw [Go.World.size_alloc, hs]; exact Nat.le_refl _) hn (show 1 ≤ 1048576 by decide) hl (one_len hC) hcap (one_caps hcapC)
  have hw1 := fun W (hW : Below w.heap.size w W) => deck_first (h.below (hW.mono hB))
  have hf := merge_f (holes D) [C.xs] a b
  have hc := clash_f (holes D) [C.xs]
  have htz := fun (h0 : twoC (holes D) [C.xs] a b = 0) => And.intro (key_deck (D := D) rfl (two_zero h0).1) (key_deck (D := [C]) (n := 1) rfl (two_zero h0).2)
  have hx2 : widthH [C.xs] = C.xs.length := by simp [widthH, firstZ]
  have hst := one_step C.xs a.toNat b.toNat
  have hsz := b1.size
  unfold GivesTwo at hk
  unfold MergeF at hf
  rw [holes_len] at hf hc
  rw [show holes [C] = [C.xs] from rfl] at hk
  rw [hx2] at hc
  obtain ⟨r, hr⟩ : ∃ r, twoC (holes D) [C.xs] a b = r := ⟨_, rfl⟩
  obtain ⟨cl, hcl⟩ : ∃ r, clashB (holes D) [C.xs] = r := ⟨_, rfl⟩
  obtain ⟨x1, hx1⟩ : ∃ r, widthH (holes D) = r := ⟨_, rfl⟩
  obtain ⟨X, hX⟩ : ∃ r, mergeA (holes D) [C.xs] a b = r := ⟨_, rfl⟩
  obtain ⟨Z, hZ⟩ : ∃ r, mergeC (holes D) [C.xs] a b = r := ⟨_, rfl⟩
  obtain ⟨n, hN⟩ : ∃ n, D.length = n := ⟨_, rfl⟩
  obtain ⟨s2, hs2⟩ : ∃ s, stepV [C.xs] a.toNat b.toNat = s := ⟨_, rfl⟩
  obtain ⟨x2, hx3⟩ : ∃ n, C.xs.length = n := ⟨_, rfl⟩
  rw [hs2] at hst
  rw [hr, hcl, hX, hZ, hN, hs2, List.length_singleton] at hf
  rw [hcl, hx1, hN, hx3, List.length_singleton] at hc
  rw [hr, hN, hx3] at hk
  rw [hr, hN] at htz
  simp only [hx1, hN] at hw1
  simp only [hx3] at hone
  rw [hX, hZ, hN]
  rw [hx3] at p0 b1 hsz ⊢
  have HK := Lib.hid hk
  have HW1 := Lib.hid hw1
  have HF := Lib.hid hf
  have HC := Lib.hid hc
  have HTZ := Lib.hid htz
  have HA := Lib.hid h
  have HONE := Lib.hid hone
  have BW := Lib.hid b1
  have HST := Lib.hid hst
  clear hk hw1 hf hc htz hr hcl hx1 hx2 hX hZ b0 b1 hd hone h hI hl hcap hcapC hN hs hs2 hst hC hx3
  go_enter Tryd.func6, Tryd.ntmps6
  go_wp2_with fail
  refine HK.out.mono ?_
  rintro e w1 ⟨A1, n1, c1, A2, n2, c2, rfl, hb1, h1⟩
  have B1 := Lib.hid (below_step BW.out hb1)
  have H1 := Lib.hid h1
  have q0 := cell_kept p0 hb1
  clear hb1 h1 HK p0
  by_cases hr0 : r = 0
  case neg =>
    obtain ⟨z1, z2⟩ := HF.out.1 hr0
    subst z1 z2
    go_wp2
    go_ret2
    unfold GivesDC; exact ⟨none, 0, [], rfl, rfl, B1.out, DeckAt.nil (Nat.le_refl _)⟩
  subst hr0
  obtain ⟨rfl, rfl, hK1, hK2⟩ := H1.out rfl
  obtain ⟨hkd1, hkd2⟩ := HTZ.out rfl
  have HK1 := Lib.hid hK1
  have HK2 := Lib.hid hK2
  have HD1 := Lib.hid hkd1
  have HD2 := Lib.hid hkd2
  clear hK1 hK2 hkd1 hkd2 H1 HTZ
  go_upto_region 4 with fail
  go_cut [36] (fun s0 wx => s0 = .bool cl ∧ Below w1.heap.size w1 wx)
  case first =>
    by_cases hn0 : n = 0
    · have i0 : decide (0 < n) = false := by simp; omega
      have hz := HC.out.1 hn0
      subst hz
      have HZ0 := Lib.hid hn0
      clear hn0
      go_quiet (fail)
      go_wp2
      go_meet
      exact ⟨rfl, below_drewN (Below.refl _ _) _⟩
    · have i0 : decide (0 < n) = true := by simp; omega
      have i2 : (0 : Int) < (n : Int) := by omega
      obtain ⟨b1, o1, u1, cc1, rfl, hc1⟩ := HW1.out w1 B1.out (by omega)
      obtain ⟨q, hq⟩ : ∃ q, (!decide ((x1 : Int) = (x2 : Int))) = q := ⟨_, rfl⟩
      have hqc : cl = q := by
        rw [← hq]
        by_cases hxx : x1 = x2
        · rw [HC.out.2.2.1 (by omega) (by omega) hxx]; simp [hxx]
        · rw [HC.out.2.2.2 (by omega) (by omega) hxx]; simp; omega
      have HQ := Lib.hid hqc
      have HQ2 := Lib.hid hq
      clear hqc hq
      go_quiet (fail)
      go_wp2
      go_meet
      exact ⟨by rw [HQ.out, ← HQ2.out]; by_cases h : (x1 : Int) = (x2 : Int) <;> simp [h], below_drewN (Below.refl _ _) _⟩
  case rest =>
    obtain ⟨rfl, hb2⟩ := hcut
    rename World => w2
    have L2 := Lib.hid hb2
    have q2 := cell_kept q0 hb2
    clear hb2 q0
    cases cl
    case true =>
      obtain ⟨z1, z2⟩ := HF.out.2.1 (by first | rfl | trivial) (by first | rfl | trivial)
      subst z1 z2
      go_wp2
      go_ret2
      unfold GivesDC; exact ⟨none, 0, [], rfl, rfl, below_step B1.out L2.out, DeckAt.nil (Nat.le_refl _)⟩
    have hq1 := fun W (hW : Below w1.heap.size w1 W) => l07Step_any A1 c1 D a.toNat b.toNat W (fun h0 => by obtain ⟨g, e1, e2, e3⟩ := HK1.out (by rw [← HD1.out.len]; exact h0); exact ⟨g, e1, Nat.lt_of_lt_of_le e2 hW.size, e3.later e2 hW⟩) HD1.out.ok HD1.out.keys HD1.out.lt HD1.out.le
    obtain ⟨s1, hs1⟩ : ∃ s, stepV (holes D) a.toNat b.toNat = s := ⟨_, rfl⟩
    simp only [hs1, HD1.out.len] at hq1
    rw [hs1] at HF
    have HQ1 := Lib.hid hq1
    clear hq1 hs1
    go_wp2_with fail
    refine (HQ1.out w2 L2.out).mono ?_
    rintro e w3 ⟨rfl, hb3⟩
    have L3 := Lib.hid (below_step L2.out hb3)
    have q3 := cell_kept q2 hb3
    clear hb3 HQ1 q2
    by_cases hs : s1 < 0
    case neg =>
      obtain ⟨z1, z2⟩ := HF.out.2.2.1 (by first | rfl | trivial) (by first | rfl | trivial) (by omega)
      subst z1 z2
      have i1 : s1 ≥ 0 := by omega
      go_wp2
      go_ret2
      unfold GivesDC; exact ⟨none, 0, [], rfl, rfl, below_step B1.out L3.out, DeckAt.nil (Nat.le_refl _)⟩
    have i1 : ¬ s1 ≥ 0 := by omega
    have n40 := HD1.out.n40
    by_cases h40 : 40 < n + 1
    · obtain ⟨z1, z2⟩ := HF.out.2.2.2.1 (by first | rfl | trivial) (by first | rfl | trivial) hs HST.out h40
      subst z1 z2
      have i0 : (n : Int) ≥ 40 := by omega
      go_wp2
      go_ret2
      unfold GivesDC; exact ⟨none, 0, [], rfl, rfl, below_step B1.out L3.out, DeckAt.nil (Nat.le_refl _)⟩
    obtain ⟨z1, z2⟩ := HF.out.2.2.2.2 (by first | rfl | trivial) (by first | rfl | trivial) hs HST.out (by omega)
    subst z1
    have i0 : ¬ (n : Int) ≥ 40 := by omega
    have B3 := Lib.hid (below_step B1.out L3.out)
    have hdk := HONE.out w3 B3.out
    have B4 := B3.out.alloc B3.out.size (.cells #[.slice C.at_ x2 C.cap] 34)
    have L4 := L3.out.trans ((below_box w3 (.cells #[.slice C.at_ x2 C.cap] 34)).mono L3.out.size)
    have hmg := l09Merge_any A (some ⟨w3.heap.size, 0, none⟩) A1 A2 c c1 c2 D [C] B (w3.heap.size + 1) a.toNat b.toNat n 1 _ (HA.out.below (B4.mono hB)) hdk (Nat.le_trans hB B4.size) (by simp) HD1.out HD2.out
      (fun h0 => by obtain ⟨g, e1, e2, e3⟩ := HK1.out h0; exact ⟨g, e1, Nat.lt_of_lt_of_le e2 L4.size, e3.later e2 L4⟩) (fun h0 => by obtain ⟨g, e1, e2, e3⟩ := HK2.out h0; exact ⟨g, e1, Nat.lt_of_lt_of_le e2 L4.size, e3.later e2 L4⟩)
    rw [show holes [C] = [C.xs] from rfl, z2] at hmg
    have HMG := Lib.hid hmg
    have BB4 := Lib.hid B4
    clear hmg z2 HF HC HW1 HK1 HK2 B4 L4 hdk HONE
    go_wp2_with fail
    refine HMG.out.mono ?_
    rintro e w5 ⟨A9, c9, E, rfl, hE, hb5, hda⟩
    have B5 := Lib.hid (below_step BB4.out hb5)
    have HE := Lib.hid hE
    have HDA := Lib.hid (hda.widen BB4.out.size (Nat.le_refl _) (Nat.le_refl _))
    clear hb5 hE hda HMG
    go_wp2
    go_ret2
    unfold GivesDC
    exact ⟨A9, c9, E, rfl, HE.out, B5.out, HDA.out⟩

end
end Go.Proofs.YtamookdlbmbncabDoor
