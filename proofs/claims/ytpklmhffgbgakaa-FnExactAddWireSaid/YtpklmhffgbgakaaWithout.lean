/- impl.Board's without gives the board without some wires: a contract; slices.Contains at numbers. -/
import Derived.Test.YtpklmhffgbgakaaSources
namespace Go.Proofs.Ytpklmhffgbgakaa
open Go.ChangeShapes Go.WideShapes Go.ChangeAt Go.RowKit

/-- the first k wires, but those whose numbers are in a list -/
def keepTo (L : List Int) (P : List (Int × Int)) : Nat → List (Int × Int)
  | 0 => []
  | k + 1 => keepTo L P k ++ (match P[k]? with | some d => if (k : Int) ∈ L then [] else [d] | none => [])
theorem keepTo_skip {L : List Int} {P : List (Int × Int)} {k : Nat} (h : (k : Int) ∈ L) : keepTo L P (k + 1) = keepTo L P k := by
  rw [keepTo]
  cases P[k]? with
  | none => simp
  | some d => simp [h]
theorem keepTo_take {L : List Int} {P : List (Int × Int)} {k : Nat} {d : Int × Int} (hd : P[k]? = some d) (h : ¬ (k : Int) ∈ L) : keepTo L P (k + 1) = keepTo L P k ++ [d] := by
  rw [keepTo, hd]
  simp [h]
theorem keepTo_length (L : List Int) (P : List (Int × Int)) : ∀ k, (keepTo L P k).length ≤ k
  | 0 => Nat.le_refl _
  | k + 1 => by
    have ih := keepTo_length L P k
    by_cases h : (k : Int) ∈ L
    · rw [keepTo_skip h]
      omega
    · cases hd : P[k]? with
      | none =>
        rw [keepTo, hd]
        simp
        omega
      | some d =>
        rw [keepTo_take hd h, List.length_append]
        simp
        exact ih
theorem keepTo_one (P : List (Int × Int)) (x : Nat) : ∀ t, t ≤ P.length → keepTo [(x : Int)] P t = if t ≤ x then P.take t else P.take x ++ (P.take t).drop (x + 1)
  | 0, _ => by simp [keepTo]
  | t + 1, h => by
    have ih := keepTo_one P x t (by omega)
    obtain ⟨d, hd⟩ : ∃ d, P[t]? = some d := ⟨P[t]'(by omega), List.getElem?_eq_getElem _⟩
    have ht : P.take (t + 1) = P.take t ++ [d] := by
      rw [List.take_add_one, hd]
      rfl
    by_cases hx : t = x
    · subst hx
      rw [keepTo_skip (by simp), ih, if_pos (Nat.le_refl _), if_neg (by omega)]
      rw [List.drop_eq_nil_of_le (by rw [List.length_take]; omega), List.append_nil]
    · rw [keepTo_take hd (by simp; omega), ih]
      by_cases hle : t + 1 ≤ x
      · rw [if_pos (by omega), if_pos hle, ht]
      · rw [if_neg (by omega), if_neg hle, ht, List.append_assoc]
        congr 1
        rw [List.drop_append_of_le_length]
        rw [List.length_take]
        omega

theorem WAt.far {w : World} {lo hi : Nat} {A : Option Addr} {P : List (Int × Int)} (h : WAt w lo hi A P) {p : Addr} (hp : p.block < lo) (v : Value) : WAt (w.setCell p v) lo hi A P :=
  ⟨fun h0 => by
    obtain ⟨g, ex, e, h1, h2, h3⟩ := h.top h0
    refine ⟨g, ex, e, h1, h2, ?_⟩
    unfold WRowX at h3 ⊢
    exact (Below.heap_setCell w p v g (by omega)).trans h3, by simpa [World.setCell] using h.room⟩

theorem indexInt_any (A : Option Addr) (c : Nat) (L : List Int) (x : Int) (B : Nat) (w : World) (h : Ints w B A L) (hn : L.length ≤ 1048576) :
    Calls Try.prog 111 #[.slice A L.length c, .int .i64 x] w fun e w' => (∃ i : Int, e = .returned (.int .i64 i) ∧ decide (0 ≤ i) = decide (x ∈ L)) ∧ w = w' := by
  obtain ⟨n, hN⟩ : ∃ n, L.length = n := ⟨_, rfl⟩
  obtain ⟨r, hr⟩ : ∃ r, decide (x ∈ L) = r := ⟨_, rfl⟩
  rw [hN] at hn
  rw [hN, hr]
  have H := Lib.hid h
  have HN := Lib.hid hN
  have HR := Lib.hid hr
  clear h hN hr
  go_enter Try.func111, Try.ntmps111
  go_wp2
  go_loop [8] (fun i => ∃ k : Nat, k ≤ n ∧ i = .int .i64 k ∧ Hid (x ∉ L.take k)) (fun i => n - (intOf i).toNat)
  case atStart => exact ⟨0, Nat.zero_le _, rfl, by show _ ∉ _; simp⟩
  case round =>
    obtain ⟨k, hk, rfl, HK⟩ := hrel
    have k0 : (0 : Int) ≤ (k : Int) := Int.natCast_nonneg _
    by_cases hlt : k < n
    · have hx : k < L.length := by rw [HN.out]; exact hlt
      obtain ⟨b, off, rfl, hb, hcell⟩ := H.out (by omega)
      have h1 := hcell k hx
      obtain ⟨y, hy⟩ : ∃ y, L[k]? = some y := ⟨L[k], List.getElem?_eq_getElem hx⟩
      rw [hy, Option.getD_some] at h1
      have k1 : (k : Int) < (n : Int) := by omega
      have hk2 := HK.out
      have htk : L.take (k + 1) = L.take k ++ [y] := by rw [List.take_add_one, hy]; rfl
      have hmem : y ∈ L := List.mem_of_getElem? hy
      clear hcell H hb hy hx
      by_cases he : x = y
      · have g : (x == y) = true := by simpa using he
        obtain rfl : r = true := by rw [← HR.out, he]; simpa using hmem
        clear htk hmem hk2 he
        go_wp2
        go_ret
        exact ⟨⟨_, rfl, by first | (simp; done) | simpa using k0⟩, rfl⟩
      · have g : (x == y) = false := by simpa using he
        have HK1 : Hid (x ∉ L.take (k + 1)) := by
          show _ ∉ _
          rw [htk, List.mem_append]
          simp only [List.mem_singleton]
          rintro (q | q)
          · exact hk2 q
          · exact he q
        clear htk hmem hk2 he
        go_wp2
        go_round
        case rel => exact ⟨k + 1, by omega, by go_num, HK1⟩
        case measure => simp [intOf]; omega
    · have k1 : ¬ (k : Int) < (n : Int) := by omega
      obtain rfl : r = false := by
        have := HK.out
        rw [List.take_of_length_le (by rw [HN.out]; omega)] at this
        rw [← HR.out]
        simpa using this
      go_wp2
      go_ret
      exact ⟨⟨_, rfl, by first | (simp; done) | simpa using k0⟩, rfl⟩

theorem containsInt_any (A : Option Addr) (c : Nat) (L : List Int) (x : Int) (B : Nat) (w : World) (h : Ints w B A L) (hn : L.length ≤ 1048576) :
    Calls Try.prog 99 #[.slice A L.length c, .int .i64 x] w fun e w' => e = .returned (.bool (decide (x ∈ L))) ∧ w = w' := by
  have HI := Lib.hid (indexInt_any A c L x B w h hn)
  obtain ⟨n, hN⟩ : ∃ n, L.length = n := ⟨_, rfl⟩
  obtain ⟨r0, hr0⟩ : ∃ r, decide (x ∈ L) = r := ⟨_, rfl⟩
  rw [hN, hr0] at HI
  rw [hN, hr0]
  clear h hN hn hr0
  go_enter Try.func99, Try.ntmps99
  go_wp2_with fail
  refine HI.out.mono ?_
  rintro e w1 ⟨⟨r, rfl, hr⟩, rfl⟩
  have HR := Lib.hid hr
  clear hr
  go_wp2
  go_ret
  exact ⟨by first | exact congrArg (fun x => Ending.returned (Value.bool x)) HR.out | (congr 2; rw [← HR.out]; simp), rfl⟩

/-- a board of new memory -/
def GivesB (e n j : Int) (P : List (Int × Int)) (w : World) (r : Ending) (w' : World) : Prop :=
  ∃ A cap, r = .returned (.agg #[.int .i64 e, .int .i64 n, .int .i64 j, .slice A P.length cap]) ∧ Below w.heap.size w w' ∧ WAt w' w.heap.size w'.heap.size A P
theorem wnil_owned (w : World) (base : Nat) : w.ownsRow base 38 2 (.slice none 0 0) 0 [] := ⟨rfl, Or.inl ⟨rfl, rfl⟩⟩
theorem two_newsW (W : World) (p q : Int) : ∀ j u, [Value.int .i64 p, .int .i64 q][j]? = some u → (W.alloc (.cells #[.int .i64 p, .int .i64 q] 38)).cell? ((⟨W.heap.size, 0, none⟩ : Addr).add j) = some u := by
  intro j u hj
  match j, hj with
  | 0, hj => simp at hj; subst hj; simp [Addr.add]
  | 1, hj => simp at hj; subst hj; simp [Addr.add]
theorem two_onesW (p q : Int) : ∀ u ∈ [Value.int .i64 p, .int .i64 q], u.oneCell' = true := by
  intro u hu
  simp at hu
  rcases hu with rfl | rfl <;> rfl
theorem wshape {w : World} {base k : Nat} {v : Value} {xs : List Value} (h : w.ownsRow base 38 2 v k xs) : ∃ A cap, v = .slice A k cap := by
  rcases h.2 with ⟨hv, h0⟩ | ⟨g, cap, cur, hv, _⟩
  · exact ⟨none, 0, by rw [hv, h0]⟩
  · exact ⟨_, cap, hv⟩

set_option maxRecDepth 100000 in
set_option maxHeartbeats 4000000 in
theorem without_any (e n j : Int) (A : Option Addr) (c : Nat) (P : List (Int × Int)) (B : Nat) (A' : Option Addr) (c' : Nat) (L : List Int) (B' : Nat) (w : World) (h : Wires w B A P) (hB : B ≤ w.heap.size) (h' : Ints w B' A' L) (hB' : B' ≤ w.heap.size) (hn : P.length ≤ 40) (hl : L.length ≤ 1048576) :
    Calls Try.prog 71 #[.agg #[.int .i64 e, .int .i64 n, .int .i64 j, .slice A P.length c], .slice A' L.length c'] w (GivesB e n j (keepTo L P P.length) w) := by
  obtain ⟨i0, hi0, hz0, hz1, hz2⟩ := info_parts info_wire
  have hco := fun (x : Int) (W : World) (hW : Below w.heap.size w W) => containsInt_any A' c' L x B' W (h'.below (hW.mono hB')) hl
  obtain ⟨m, hN⟩ : ∃ m, P.length = m := ⟨_, rfl⟩
  obtain ⟨l, hL⟩ : ∃ l, L.length = l := ⟨_, rfl⟩
  rw [hL] at hco
  rw [hN] at hn
  rw [hN, hL]
  obtain ⟨W0, hW0⟩ : ∃ W0, (w.alloc (.cells #[.int .i64 e, .int .i64 n, .int .i64 j, .slice A m c] 29)).alloc (.cells #[.int .i64 0, .int .i64 0, .int .i64 0, .slice none 0 0] 29) = W0 := ⟨_, rfl⟩
  have hb0 : Below w.heap.size w W0 := by rw [← hW0]; exact (below_box w _).alloc (by simp) _
  have hs0 : W0.heap.size = w.heap.size + 1 + 1 := by rw [← hW0]; simp
  have p0 : W0.cell? ⟨w.heap.size, 0, none⟩ = some (.int .i64 e) := by rw [← hW0]; simp [go_sem]
  have p1 : W0.cell? ⟨w.heap.size, 1, none⟩ = some (.int .i64 n) := by rw [← hW0]; simp [go_sem]
  have p2 : W0.cell? ⟨w.heap.size, 2, none⟩ = some (.int .i64 j) := by rw [← hW0]; simp [go_sem]
  have p3 : W0.cell? ⟨w.heap.size, 3, none⟩ = some (.slice A m c) := by rw [← hW0]; simp [go_sem]
  have q0 : W0.cell? ⟨w.heap.size + 1, 0, none⟩ = some (.int .i64 0) := by rw [← hW0]; simp [go_sem]
  have q1 : W0.cell? ⟨w.heap.size + 1, 1, none⟩ = some (.int .i64 0) := by rw [← hW0]; simp [go_sem]
  have q2 : W0.cell? ⟨w.heap.size + 1, 2, none⟩ = some (.int .i64 0) := by rw [← hW0]; simp [go_sem]
  have q3 : W0.cell? ⟨w.heap.size + 1, 3, none⟩ = some (.slice none 0 0) := by rw [← hW0]; simp [go_sem]
  have fp : ∀ i, W0.frozen? ⟨w.heap.size, i, none⟩ = false := fun i => by rw [← hW0]; simp [go_sem]
  have fq : ∀ i, W0.frozen? ⟨w.heap.size + 1, i, none⟩ = false := fun i => by rw [← hW0]; simp [go_sem]
  have H := Lib.hid h
  have HN := Lib.hid hN
  have HCO := Lib.hid hco
  have HB0 := Lib.hid hb0
  have HS0 := Lib.hid hs0
  have FP := Lib.hid fp
  have FQ := Lib.hid fq
  clear h h' hN hL hco hb0 hs0 fp fq
  go_enter Try.func71, Try.ntmps71
  go_wp2
  go_loopw [5, 11] (fun v i wr => ∃ k : Nat, ∃ vv : Value, k ≤ m ∧ i = .int .i64 k ∧ vv = v ∧ Hid (wr.ownsRow W0.heap.size 38 2 v (keepTo L P k).length (waCells (keepTo L P k))) ∧ Hid (Below W0.heap.size W0 wr)) (fun _ i _ => m - (intOf i).toNat)
  case atStart => exact ⟨0, _, Nat.zero_le _, rfl, rfl, wnil_owned _ _, Below.refl _ _⟩
  case round =>
    obtain ⟨k, vv, hk, rfl, rfl, HW, HB⟩ := hrel
    have k0 : (0 : Int) ≤ (k : Int) := Int.natCast_nonneg _
    by_cases hlt : k < m
    · obtain ⟨d, hd⟩ : ∃ d, P[k]? = some d := ⟨P[k]'(by rw [HN.out]; exact hlt), List.getElem?_eq_getElem _⟩
      obtain ⟨b, off, hAe, hb, hcell⟩ := (H.out.below ((below_step HB0.out HB.out).mono hB)) (by rw [HN.out]; omega)
      subst hAe
      obtain ⟨c1, c2⟩ := hcell k d hd
      have hbw := below_box wr (.cells #[.int .i64 d.1, .int .i64 d.2] 38)
      have s0 : (wr.alloc (.cells #[.int .i64 d.1, .int .i64 d.2] 38)).cell? ⟨wr.heap.size, 0, none⟩ = some (.int .i64 d.1) := by simp
      have s1 : (wr.alloc (.cells #[.int .i64 d.1, .int .i64 d.2] 38)).cell? ⟨wr.heap.size, 1, none⟩ = some (.int .i64 d.2) := by simp
      obtain ⟨W1, hW1⟩ : ∃ W1, wr.alloc (.cells #[.int .i64 d.1, .int .i64 d.2] 38) = W1 := ⟨_, rfl⟩
      rw [hW1] at hbw s0 s1
      have hc := HCO.out k W1 (below_step (below_step HB0.out HB.out) hbw)
      have HW1 : Hid (W1.ownsRow W0.heap.size 38 2 vv (keepTo L P k).length (waCells (keepTo L P k))) := own_moved HW.out (fun i _ hi => hbw.block i hi)
      have HB1 := Lib.hid (below_step HB.out hbw)
      have k1 : (k : Int) < (m : Int) := by omega
      have hlen := keepTo_length L P k
      have HD := Lib.hid hd
      clear hcell hbw hb HCO hd
      by_cases hin : (k : Int) ∈ L
      · rw [decide_eq_true hin] at hc
        have HI := Lib.hid (keepTo_skip (P := P) hin)
        have HC := Lib.hid hc
        clear hc hin
        go_wp2_with (go_at_call 99; refine HC.out.mono ?_; rintro r w2 ⟨rfl, rfl⟩)
        go_roundw
        case rel => exact ⟨k + 1, _, by omega, by go_num, rfl, by rw [HI.out]; exact HW1, HB1⟩
        case measure => simp [intOf]; omega
      · rw [decide_eq_false hin] at hc
        have HI := Lib.hid (keepTo_take HD.out hin)
        have HC := Lib.hid hc
        obtain ⟨Q, hQ⟩ : ∃ Q, keepTo L P k = Q := ⟨_, rfl⟩
        rw [hQ] at HI HW1 hlen
        have hs1 : W0.heap.size ≤ W1.heap.size := HB1.out.size
        clear hc hin hQ
        go_wp2_with (first
          | (go_at_call 99; refine HC.out.mono ?_; rintro r w2 ⟨rfl, rfl⟩)
          | (at_builtin; refine wpList_append_own _ rfl _ _ 27 rfl W0.heap.size 38 i0 (.agg #[.int .i64 0, .int .i64 0]) 2 16 Try.underlying27 hi0 hz0 hz1 hz2 rfl (by decide) _ _ _ rfl (HW1.out.alloc _) ⟨W1.heap.size, 0, none⟩ 1 1 [.int .i64 d.1, .int .i64 d.2] rfl rfl (two_newsW W1 d.1 d.2) (two_onesW d.1 d.2) ?c3 ?c4 ?c5 ?_; rotate_left 3; intro v' w9 hown hgrow _; obtain ⟨ho, hbb⟩ := own_wire (P := Q) (Q := [d]) hown hgrow HW1.out HB1.out (Nat.le_refl _) hs1; have HO9 := Lib.hid ho; have HB9 := Lib.hid hbb; clear hown hgrow ho hbb))
        case c3 => unfold maxLen; omega
        case c4 => omega
        case c5 => simp; omega
        go_roundw
        case rel => exact ⟨k + 1, _, by omega, by go_num, rfl, by rw [HI.out]; exact HO9, HB9⟩
        case measure => simp [intOf]; omega
    · obtain rfl : k = m := by omega
      have k1 : ¬ (k : Int) < (k : Int) := by omega
      obtain ⟨A9, cap9, hv9, hat⟩ := own_wat HW.out rfl
      obtain ⟨Q, hQ⟩ : ∃ Q, keepTo L P k = Q := ⟨_, rfl⟩
      rw [hQ] at hv9 hat
      subst hv9
      have x0 := cell_kept p0 HB.out
      have x1 := cell_kept p1 HB.out
      have x2 := cell_kept p2 HB.out
      have x3 := cell_kept p3 HB.out
      have y0 := cell_kept q0 HB.out
      have y1 := cell_kept q1 HB.out
      have y2 := cell_kept q2 HB.out
      have y3 := cell_kept q3 HB.out
      have fx : ∀ i, wr.frozen? ⟨w.heap.size, i, none⟩ = false := fun i => by rw [HB.out.frozen (by simp only; have := HS0.out; omega)]; exact FP.out i
      have fy : ∀ i, wr.frozen? ⟨w.heap.size + 1, i, none⟩ = false := fun i => by rw [HB.out.frozen (by simp only; have := HS0.out; omega)]; exact FQ.out i
      have HAT := Lib.hid hat
      have HQ := Lib.hid hQ
      have HBE := Lib.hid (below_step HB0.out HB.out)
      clear HW hat hQ p0 p1 p2 p3 q0 q1 q2 q3 HCO
      go_wp2
      refine bodyPost_ret (v := .agg #[.int .i64 e, .int .i64 n, .int .i64 j, .slice A9 Q.length cap9]) (by simp [results, Try.results71, go_sem, x0, x1, x2, x3, y0, y1, y2, y3]) rfl ?_
      have hsz := HS0.out
      rw [HQ.out]
      refine ⟨A9, cap9, rfl, ?_, ?_⟩
      · exact ((((HBE.out.setCell (by show _ ≤ _; simp only; omega) _).setCell (by show _ ≤ _; simp only; omega) _).setCell (by show _ ≤ _; simp only; omega) _).setCell (by show _ ≤ _; simp only; omega) _).setCell (by show _ ≤ _; simp only; omega) _
      · have h6 := ((((HAT.out.far (p := ⟨w.heap.size, 3, none⟩) (by simp only; omega) (.slice A9 Q.length cap9)).far (p := ⟨w.heap.size + 1, 0, none⟩) (by simp only; omega) (.int .i64 e)).far (p := ⟨w.heap.size + 1, 1, none⟩) (by simp only; omega) (.int .i64 n)).far (p := ⟨w.heap.size + 1, 2, none⟩) (by simp only; omega) (.int .i64 j)).far (p := ⟨w.heap.size + 1, 3, none⟩) (by simp only; omega) (.slice A9 Q.length cap9)
        exact h6.wide (by omega) (by simp [World.setCell]) (Nat.le_refl _)
end Go.Proofs.Ytpklmhffgbgakaa
