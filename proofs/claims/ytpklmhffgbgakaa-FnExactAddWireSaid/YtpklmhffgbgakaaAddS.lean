/- spec.AddWire answers the board with one more wire, and spec.l12Own copies a board: contracts. -/
import Derived.Test.YtpklmhffgbgakaaAddW
namespace Go.Proofs.Ytpklmhffgbgakaa
open Go.ChangeShapes Go.WideShapes Go.ChangeAt Go.RowKit

/-- a board whose wires are a row of one's own -/
def GivesOwnB (e n j : Int) (P : List (Int × Int)) (w : World) (r : Ending) (w' : World) : Prop :=
  ∃ A c, r = .returned (.agg #[.int .i64 e, .int .i64 n, .int .i64 j, .slice A P.length c]) ∧ Below w.heap.size w w' ∧ w'.ownsRow w.heap.size 38 2 (.slice A P.length c) P.length (waCells P)

set_option maxRecDepth 100000 in
set_option maxHeartbeats 2000000 in
theorem l12OwnB_any (e n j : Int) (A : Option Addr) (c : Nat) (P : List (Int × Int)) (B p o : Nat) (w : World) (h0 : w.cell? ⟨p, o, none⟩ = some (.int .i64 e)) (h1 : w.cell? ⟨p, o + 1, none⟩ = some (.int .i64 n)) (h2 : w.cell? ⟨p, o + 2, none⟩ = some (.int .i64 j)) (h3 : w.cell? ⟨p, o + 3, none⟩ = some (.slice A P.length c))
    (h : Wires w B A P) (hB : B ≤ w.heap.size) (hn : P.length ≤ 1048576) (hA : A ≠ none) :
    Calls Try.prog 66 #[.pointer (some ⟨p, o, none⟩)] w (GivesOwnB e n j P w) := by
  obtain ⟨i0, hi0, hz0, hz1, hz2⟩ := info_parts info_wire
  obtain ⟨ad, rfl⟩ : ∃ ad, A = some ad := by
    cases A with
    | none => exact absurd rfl hA
    | some ad => exact ⟨ad, rfl⟩
  have hnews : ∀ (W : World), Below w.heap.size w W → ∀ j u, (waCells P)[j]? = some u → W.cell? (ad.add j) = some u := fun W hW j u hj => by
    have h0 : 0 < P.length := by
      obtain ⟨hl, _⟩ := List.getElem?_eq_some_iff.1 hj
      rw [waCells_length] at hl
      omega
    obtain ⟨b, off, e, _, hcell⟩ := h h0
    obtain rfl : ad = ⟨b, off, none⟩ := Option.some.inj e
    rw [Go.WideShapes.add_plain]
    exact cell_kept (wcells hcell j u hj) hW
  have HL := Lib.hid (waCells_length P)
  have HO := Lib.hid (wa_one P)
  unfold GivesOwnB
  obtain ⟨Q, hQ⟩ : ∃ Q, waCells P = Q := ⟨_, rfl⟩
  obtain ⟨m, hm⟩ : ∃ m, P.length = m := ⟨_, rfl⟩
  rw [hQ] at HL HO hnews
  rw [hm] at HL h3 hn
  rw [hQ, hm]
  -- the world behind the answer's box, the copy's box and the empty row
  have hb2 := ((below_box w (.cells #[.int .i64 0, .int .i64 0, .int .i64 0, .slice none 0 0] 29)).alloc (by simp) (.cells #[.int .i64 e, .int .i64 n, .int .i64 j, .slice (some ad) m c] 29)).alloc (by simp; omega) (.cells #[] 38)
  have hans := ((bbox_new w 0 0 0 (.slice none 0 0)).later (below_box _ (.cells #[.int .i64 e, .int .i64 n, .int .i64 j, .slice (some ad) m c] 29))).later (below_box _ (.cells #[] 38))
  have hout := (bbox_new (w.alloc (.cells #[.int .i64 0, .int .i64 0, .int .i64 0, .slice none 0 0] 29)) e n j (.slice (some ad) m c)).later (below_box _ (.cells #[] 38))
  have hem := wempty_owned ((w.alloc (.cells #[.int .i64 0, .int .i64 0, .int .i64 0, .slice none 0 0] 29)).alloc (.cells #[.int .i64 e, .int .i64 n, .int .i64 j, .slice (some ad) m c] 29))
  have hsz : (((w.alloc (.cells #[.int .i64 0, .int .i64 0, .int .i64 0, .slice none 0 0] 29)).alloc (.cells #[.int .i64 e, .int .i64 n, .int .i64 j, .slice (some ad) m c] 29)).alloc (.cells #[] 38)).heap.size = w.heap.size + 1 + 1 + 1 := by simp
  simp only [World.size_alloc] at hout hem
  obtain ⟨W2, hW2⟩ : ∃ W2, ((w.alloc (.cells #[.int .i64 0, .int .i64 0, .int .i64 0, .slice none 0 0] 29)).alloc (.cells #[.int .i64 e, .int .i64 n, .int .i64 j, .slice (some ad) m c] 29)).alloc (.cells #[] 38) = W2 := ⟨_, rfl⟩
  rw [hW2] at hb2 hans hout hem hsz
  have a0 := cell_kept h0 (below_box w (.cells #[.int .i64 0, .int .i64 0, .int .i64 0, .slice none 0 0] 29))
  have a1 := cell_kept h1 (below_box w (.cells #[.int .i64 0, .int .i64 0, .int .i64 0, .slice none 0 0] 29))
  have a2 := cell_kept h2 (below_box w (.cells #[.int .i64 0, .int .i64 0, .int .i64 0, .slice none 0 0] 29))
  have a3 := cell_kept h3 (below_box w (.cells #[.int .i64 0, .int .i64 0, .int .i64 0, .slice none 0 0] 29))
  have y3 := cell_kept h3 hb2
  have HN := Lib.hid (hnews _ hb2)
  have HB2 := Lib.hid hb2
  have HA2 := Lib.hid hans
  have HX2 := Lib.hid hout
  have HEM := Lib.hid hem
  have HSZ := Lib.hid hsz
  have s3 := hout.cells.2.2.2
  have fs := hout.frozen
  clear hnews h hQ hm hb2 hans hout hem hsz hA h0 h1 h2 h3
  go_enter Try.func66, Try.ntmps66
  go_wp2_with (at_builtin; refine wpList_append_own _ rfl _ _ 27 rfl (w.heap.size + 1 + 1) 38 i0 (.agg #[.int .i64 0, .int .i64 0]) 2 16 Try.underlying27 hi0 hz0 hz1 hz2 rfl (by decide) _ _ _ rfl HEM.out ad m c Q rfl HL.out HN.out HO.out ?c3 ?c4 ?c5 ?_; rotate_left 3; intro v9 w9 hown hgrow _; go_loud (
    rw [Nat.zero_add, List.nil_append] at hown
    obtain ⟨A9, cap9, rfl⟩ := wshape hown
    have hgr : W2.grownBy w9 (some (w.heap.size + 1 + 1)) := hgrow
    have HX9 := HX2.out.only hgr (by omega)
    have HA9 := HA2.out.only hgr (by omega)
    have HB9 := Lib.hid (HB2.out.grown hgr HB2.out.size (fun z hz => by have e : w.heap.size + 1 + 1 = z := Option.some.inj hz; omega))
    have HXs := HX9.set3 (.slice A9 m cap9)
    have HAs := HA9.far (p := ⟨w.heap.size + 1, 3, none⟩) (by simp only; omega) (.slice A9 m cap9)
    have z3 := HX9.cells.2.2.2
    have fz := HX9.frozen
    obtain ⟨t0, t1, t2, t3⟩ := HXs.cells
    obtain ⟨v0, v1, v2, v3⟩ := HAs.cells
    have fv := HAs.frozen
    have HO9 := Lib.hid hown
    clear hown hgrow hgr HX9 HA9 HXs HAs))
  case c3 => unfold maxLen; omega
  case c4 => omega
  case c5 => have := HSZ.out; omega
  refine bodyPost_ret (v := .agg #[.int .i64 e, .int .i64 n, .int .i64 j, .slice A9 m cap9]) (by simp [results, Try.results66, go_sem, v0, v1, v2, v3]) rfl ?_
  refine ⟨A9, cap9, rfl, ?_, ?_⟩
  · exact ((((HB9.out.setCell (by show _ ≤ _; simp only; omega) _).setCell (by show _ ≤ _; simp only; omega) _).setCell (by show _ ≤ _; simp only; omega) _).setCell (by show _ ≤ _; simp only; omega) _).setCell (by show _ ≤ _; simp only; omega) _
  · exact own_downW (own_far (own_far (own_far (own_far (own_far HO9.out ⟨w.heap.size + 1, 3, none⟩ _ (by simp only; omega)) ⟨w.heap.size, 0, none⟩ _ (by simp only; omega)) ⟨w.heap.size, 1, none⟩ _ (by simp only; omega)) ⟨w.heap.size, 2, none⟩ _ (by simp only; omega)) ⟨w.heap.size, 3, none⟩ _ (by simp only; omega)) (by omega)

set_option maxRecDepth 100000 in
set_option maxHeartbeats 2000000 in
theorem specAddW_bad (e n j : Int) (A : Option Addr) (c : Nat) (P : List (Int × Int)) (B : Nat) (a b : Int) (w : World) (h : Wires w B A P) (hB : B ≤ w.heap.size) (hn : P.length ≤ 1048576) (hbad : addC e n j P a b ≠ 0) :
    Calls Try.prog 22 #[.agg #[.int .i64 e, .int .i64 n, .int .i64 j, .slice A P.length c], .agg #[.int .i64 a, .int .i64 b]] w (GivesBC 0 0 0 [] (addC e n j P a b) w) := by
  obtain ⟨W0, hW0⟩ : ∃ W0, (((w.alloc (.cells #[.int .i64 e, .int .i64 n, .int .i64 j, .slice A P.length c] 29)).alloc (.cells #[.int .i64 a, .int .i64 b] 38)).alloc (.cells #[.int .i64 0, .int .i64 0, .int .i64 0, .slice none 0 0] 29)) = W0 := ⟨_, rfl⟩
  have ht := three_boxes w e n j (.slice A P.length c) a b
  rw [hW0] at ht
  obtain ⟨p0, p1, p2, p3⟩ := ht.box.cells
  have hval := l12Ok_any e n j A c P B w.heap.size 0 W0 p0 p1 p2 p3 (h.below (ht.below.mono hB)) (Nat.le_trans hB ht.below.size) hn
  have hhu := fun (W : World) (hW : Below W0.heap.size W0 W) => l12Hubs_any e n j w.heap.size 0 W (cell_kept p0 hW) (cell_kept p1 hW) (cell_kept p2 hW)
  have hwi := fun W => l12Wire_any a b (hubV e n j) W
  rcases addW_cases e n j P a b with ⟨hb, hc⟩ | ⟨hb, hl, hc⟩ | ⟨hb, hl, hw, hc⟩ | ⟨_, _, _, hc⟩
  · rw [hc]
    rw [hb] at hval
    obtain ⟨m, hN⟩ : ∃ m, P.length = m := ⟨_, rfl⟩
    rw [hN] at ht hW0 ⊢
    have HC := Lib.hid hval
    have HT := Lib.hid ht
    clear hval hhu hwi h hN hn hb hc hbad ht p0 p1 p2 p3
    go_enter Try.func22, Try.ntmps22
    go_wp2_with fail
    with_reducible refine HC.out.mono ?_
    rintro r w1 ⟨rfl, hb⟩
    have HB := Lib.hid (below_step HT.out.below hb)
    have HA := HT.out.ans.later hb
    obtain ⟨y0, y1, y2, y3⟩ := HA.cells
    have fy := HA.frozen
    clear hb HA
    go_wp2
    refine bodyPost_ret (v := .tuple #[.agg #[.int .i64 0, .int .i64 0, .int .i64 0, .slice none 0 0], .int .i64 1]) (by simp [results, Try.results22, go_sem, y0, y1, y2, y3]) rfl ?_
    exact ⟨none, 0, rfl, bad_board2 HB.out, ⟨fun h => absurd h (by simp), Nat.le_refl _⟩⟩
  · have hl40 : P.length = 40 := by
      obtain ⟨E', N', J', hE', hN', hJ', _, _, _, _, _, hP, _, _⟩ := board_facts hb
      omega
    rw [hc]
    rw [hb] at hval
    rw [hl40] at ht hW0 p3 ⊢
    have HC := Lib.hid hval
    have HT := Lib.hid ht
    clear hval hhu hwi h hn hb hc hbad ht hl hl40 p0 p1 p2
    go_enter Try.func22, Try.ntmps22
    go_wp2_with fail
    with_reducible refine HC.out.mono ?_
    rintro r w1 ⟨rfl, hb⟩
    have HB := Lib.hid (below_step HT.out.below hb)
    have HA := HT.out.ans.later hb
    obtain ⟨y0, y1, y2, y3⟩ := HA.cells
    have fy := HA.frozen
    have x3 := cell_kept p3 hb
    clear hb p3 HA
    go_wp2
    refine bodyPost_ret (v := .tuple #[.agg #[.int .i64 0, .int .i64 0, .int .i64 0, .slice none 0 0], .int .i64 5]) (by simp [results, Try.results22, go_sem, y0, y1, y2, y3]) rfl ?_
    exact ⟨none, 0, rfl, bad_board2 HB.out, ⟨fun h => absurd h (by simp), Nat.le_refl _⟩⟩
  · rw [hc]
    rw [hb] at hval
    rw [hw] at hwi
    obtain ⟨m, hN⟩ : ∃ m, P.length = m := ⟨_, rfl⟩
    obtain ⟨u, hu⟩ : ∃ u, hubV e n j = u := ⟨_, rfl⟩
    simp only [hu] at hhu hwi
    simp only [hN] at ht hW0 hl p3 ⊢
    have hne : ¬ (m : Int) ≥ 40 := by omega
    have hne2 : decide ((m : Int) ≥ 40) = false := decide_eq_false hne
    have HC := Lib.hid hval
    have HT := Lib.hid ht
    have HH := Lib.hid hhu
    have HW := Lib.hid hwi
    have q0 := ht.wa
    have q1 := ht.wb
    clear hval hhu hwi h hN hn hb hc hbad ht hw hu p0 p1 p2 hl
    go_enter Try.func22, Try.ntmps22
    go_wp2_with fail
    with_reducible refine HC.out.mono ?_
    rintro r w1 ⟨rfl, hb⟩
    have HB := Lib.hid hb
    have HA := Lib.hid (HT.out.ans.later hb)
    have x3 := cell_kept p3 hb
    have z0 := cell_kept q0 hb
    have z1 := cell_kept q1 hb
    have HZ : Hid (Below W0.heap.size W0 w1.drew) := hb.drew
    have HK : Hid (Below w1.heap.size w1 w1.drew) := (Below.refl _ _).drew
    clear hb p3 q0 q1
    go_wp2
    go_region_held3 (fun W => W.cell? ⟨w.heap.size + 1, 0, none⟩ = some (.int .i64 a) ∧ W.cell? ⟨w.heap.size + 1, 1, none⟩ = some (.int .i64 b))
      (first | exact ⟨z0, z1⟩ | exact ⟨z2, z3⟩ | exact ⟨z4, z5⟩)
      (first
        | (go_at_call 65
           with_reducible refine (HH.out _ HZ.out).mono ?_
           rintro r wz ⟨rfl, hb⟩
           have z2 := cell_kept (w := w1.drew) z0 hb
           have z3 := cell_kept (w := w1.drew) z1 hb
           have HZ := Lib.hid (below_step HZ.out hb)
           have HK := Lib.hid (below_step HK.out hb)
           clear hb)
        | (go_at_call 64
           with_reducible refine (HW.out _).mono ?_
           rintro r wz ⟨rfl, hb⟩
           have z4 := cell_kept z2 hb
           have z5 := cell_kept z3 hb
           have HZ := Lib.hid (below_step HZ.out hb)
           have HK := Lib.hid (below_step HK.out hb)
           clear hb))
    all_goals
      have HA2 := HA.out.later HK.out
      obtain ⟨y0, y1, y2, y3⟩ := HA2.cells
      have fy := HA2.frozen
      go_wp2
      refine bodyPost_ret (v := .tuple #[.agg #[.int .i64 0, .int .i64 0, .int .i64 0, .slice none 0 0], .int .i64 2]) (by simp [results, Try.results22, go_sem, y0, y1, y2, y3]) rfl ?_
      exact ⟨none, 0, rfl, bad_board2 (below_step HT.out.below HZ.out), ⟨fun h => absurd h (by simp), Nat.le_refl _⟩⟩
  · exact absurd hc hbad

theorem own_set_other {w : World} {base n size : Nat} {e : TypeId} {v : Value} {xs : List Value} (h : w.ownsRow base e size v n xs) {p : Addr} (hp : v.ownBlock ≠ some p.block) (u : Value) : (w.setCell p u).ownsRow base e size v n xs := by
  refine ⟨h.1, ?_⟩
  rcases h.2 with h0 | ⟨g, cap, cur, hv, hg, hh, rest⟩
  · exact Or.inl h0
  · refine Or.inr ⟨g, cap, cur, hv, hg, (Below.heap_setCell w p u g ?_).trans hh, rest⟩
    intro e
    subst hv
    exact hp (by rw [← e]; rfl)

set_option maxRecDepth 100000 in
set_option maxHeartbeats 4000000 in
theorem specAddW_good (e n j : Int) (A : Option Addr) (c : Nat) (P : List (Int × Int)) (B : Nat) (a b : Int) (w : World) (h : Wires w B A P) (hB : B ≤ w.heap.size) (hn : P.length ≤ 1048576) (hA : A ≠ none) (hgood : addC e n j P a b = 0) :
    Calls Try.prog 22 #[.agg #[.int .i64 e, .int .i64 n, .int .i64 j, .slice A P.length c], .agg #[.int .i64 a, .int .i64 b]] w (GivesBC e n j (P ++ [(a, b)]) 0 w) := by
  obtain ⟨i0, hi0, hz0, hz1, hz2⟩ := info_parts info_wire
  obtain ⟨W0, hW0⟩ : ∃ W0, (((w.alloc (.cells #[.int .i64 e, .int .i64 n, .int .i64 j, .slice A P.length c] 29)).alloc (.cells #[.int .i64 a, .int .i64 b] 38)).alloc (.cells #[.int .i64 0, .int .i64 0, .int .i64 0, .slice none 0 0] 29)) = W0 := ⟨_, rfl⟩
  have ht := three_boxes w e n j (.slice A P.length c) a b
  rw [hW0] at ht
  obtain ⟨p0, p1, p2, p3⟩ := ht.box.cells
  have hval := l12Ok_any e n j A c P B w.heap.size 0 W0 p0 p1 p2 p3 (h.below (ht.below.mono hB)) (Nat.le_trans hB ht.below.size) hn
  have hhu := fun (W : World) (hW : Below W0.heap.size W0 W) => l12Hubs_any e n j w.heap.size 0 W (cell_kept p0 hW) (cell_kept p1 hW) (cell_kept p2 hW)
  have hwi := fun W => l12Wire_any a b (hubV e n j) W
  rcases addW_cases e n j P a b with ⟨_, hc⟩ | ⟨_, _, hc⟩ | ⟨_, _, _, hc⟩ | ⟨hb, hl, hw, hc⟩
  · rw [hc] at hgood; exact absurd hgood (by decide)
  · rw [hc] at hgood; exact absurd hgood (by decide)
  · rw [hc] at hgood; exact absurd hgood (by decide)
  · rw [hb] at hval
    rw [hw] at hwi
    have how := fun (W : World) (hW : Below W0.heap.size W0 W) => l12OwnB_any e n j A c P B w.heap.size 0 W (cell_kept p0 hW) (cell_kept p1 hW) (cell_kept p2 hW) (cell_kept p3 hW) (h.below ((below_step ht.below hW).mono hB)) (Nat.le_trans hB (below_step ht.below hW).size) hn hA
    unfold GivesOwnB at how
    have hpq : waCells P ++ [Value.int .i64 a, .int .i64 b] = waCells (P ++ [(a, b)]) := by rw [waCells_append]; rfl
    have hlq : (P ++ [(a, b)]).length = P.length + 1 := by simp
    obtain ⟨m, hN⟩ : ∃ m, P.length = m := ⟨_, rfl⟩
    obtain ⟨u, hu⟩ : ∃ u, hubV e n j = u := ⟨_, rfl⟩
    simp only [hu] at hhu hwi
    simp only [hN] at ht hW0 hl p3 ⊢
    simp only [hN] at how hlq
    have hm40 : m + 1 ≤ 40 := by omega
    have hne : ¬ (m : Int) ≥ 40 := by omega
    have HOW := Lib.hid how
    have HPQ := Lib.hid hpq
    have HLQ := Lib.hid hlq
    have hne2 : decide ((m : Int) ≥ 40) = false := decide_eq_false hne
    have HC := Lib.hid hval
    have HT := Lib.hid ht
    have HH := Lib.hid hhu
    have HW := Lib.hid hwi
    have q0 := ht.wa
    have q1 := ht.wb
    clear hval hhu hwi h hN hn hb hc hgood ht hw hu p0 p1 p2 hl hpq hlq how
    go_enter Try.func22, Try.ntmps22
    go_wp2_with fail
    with_reducible refine HC.out.mono ?_
    rintro r w1 ⟨rfl, hb⟩
    have HB := Lib.hid hb
    have HA := Lib.hid (HT.out.ans.later hb)
    have x3 := cell_kept p3 hb
    have z0 := cell_kept q0 hb
    have z1 := cell_kept q1 hb
    have HZ : Hid (Below W0.heap.size W0 w1.drew) := hb.drew
    have HK : Hid (Below w1.heap.size w1 w1.drew) := (Below.refl _ _).drew
    clear hb p3 q0 q1
    go_wp2
    go_region_held3 (fun W => W.cell? ⟨w.heap.size + 1, 0, none⟩ = some (.int .i64 a) ∧ W.cell? ⟨w.heap.size + 1, 1, none⟩ = some (.int .i64 b))
      (first | exact ⟨z0, z1⟩ | exact ⟨z2, z3⟩ | exact ⟨z4, z5⟩)
      (first
        | (go_at_call 65
           with_reducible refine (HH.out _ HZ.out).mono ?_
           rintro r wz ⟨rfl, hb⟩
           have z2 := cell_kept (w := w1.drew) z0 hb
           have z3 := cell_kept (w := w1.drew) z1 hb
           have HZ := Lib.hid (below_step HZ.out hb)
           have HK := Lib.hid (below_step HK.out hb)
           clear hb)
        | (go_at_call 64
           with_reducible refine (HW.out _).mono ?_
           rintro r wz ⟨rfl, hb⟩
           have z4 := cell_kept z2 hb
           have z5 := cell_kept z3 hb
           have HZ := Lib.hid (below_step HZ.out hb)
           have HK := Lib.hid (below_step HK.out hb)
           clear hb))
    all_goals
      have HA2 := Lib.hid (HA.out.later HK.out)
      have HB2 := Lib.hid (below_step HT.out.below HZ.out)
      go_wp2_with fail
      with_reducible refine (HOW.out _ HZ.out).mono ?_
      rintro r w5 ⟨A5, c5, rfl, hb, ho⟩
      have HB5 := Lib.hid (below_step HB2.out hb)
      have HA5 := HA2.out.later hb
      have u0 := cell_kept z4 hb
      have u1 := cell_kept z5 hb
      have HO5 := own_downW (base' := w.heap.size + 1 + 1 + 1) ho (by have h1 := HT.out.size; have h2 := HZ.out.size; omega)
      have hbx := below_box w5 (.cells #[.int .i64 e, .int .i64 n, .int .i64 j, .slice A5 m c5] 29)
      have hbb := bbox_new w5 e n j (.slice A5 m c5)
      have HO6 := own_moved HO5 (fun i _ hi => hbx.block i hi)
      obtain ⟨w6, hw6⟩ : ∃ W, w5.alloc (.cells #[.int .i64 e, .int .i64 n, .int .i64 j, .slice A5 m c5] 29) = W := ⟨_, rfl⟩
      have hx5 : (Value.slice A5 m c5).ownBlock ≠ some w5.heap.size := fun e => Nat.lt_irrefl _ (HO5.lt _ e).2
      have HX5 := Lib.hid hx5
      rw [hw6] at hbx hbb HO6
      have HB6 := Lib.hid (below_step HB5.out hbx)
      have HA6 := Lib.hid (HA5.later hbx)
      have HX6 := Lib.hid hbb
      have HOH := Lib.hid HO6
      have u2 := cell_kept u0 hbx
      have u3 := cell_kept u1 hbx
      obtain ⟨s0, s1, s2, s3⟩ := hbb.cells
      have fs := hbb.frozen
      have hs5 : w.heap.size + 1 + 1 + 1 ≤ w5.heap.size := by have h1 := HT.out.size; have h2 := HZ.out.size; have h3 := hb.size; omega
      have hs6 : w.heap.size + 1 + 1 + 1 ≤ w6.heap.size := Nat.le_trans hs5 hbx.size
      clear hb ho HA5 hbx hbb HO5 HO6 hx5 u0 u1
      go_wp2_with (at_builtin; refine wpList_append_own_at _ rfl _ _ 27 rfl (w.heap.size + 1 + 1 + 1) 38 i0 (.agg #[.int .i64 0, .int .i64 0]) 2 16 Try.underlying27 hi0 hz0 hz1 hz2 rfl (by decide) _ _ _ rfl (HOH.out.alloc _) ⟨w6.heap.size, 0, none⟩ 1 1 [.int .i64 a, .int .i64 b] rfl rfl (two_newsW w6 a b) (two_onesW a b) ?c3 ?c4 ?c5 ?_; rotate_left 3; intro v9 w9 hown hgrow _ hloc; go_loud (
        obtain ⟨A9, cap9, rfl⟩ := wshape hown
        have hgr := grown_afterW hgrow
        have HX9 := HX6.out.block (w' := w9) (hgr.block _ HX6.out.lt (fun e => HX5.out e.symm))
        have HA9 := HA6.out.block (w' := w9) (hgr.block _ HA6.out.lt (fun e => Nat.lt_irrefl _ (Nat.lt_of_lt_of_le (Nat.lt_succ_self _) (HOH.out.lt _ e.symm).1)))
        have HB9 := Lib.hid (HB6.out.grown hgr HB6.out.size (fun k hk => Nat.le_trans (by omega) (HOH.out.lt k hk).1))
        have HXs := HX9.set3 (.slice A9 (m + 1) cap9)
        have hne3 : w.heap.size + 1 + 1 ≠ w5.heap.size := by omega
        have HAs := HA9.far (p := ⟨w5.heap.size, 3, none⟩) hne3 (.slice A9 (m + 1) cap9)
        have z9 := HX9.cells.2.2.2
        have fz := HX9.frozen
        obtain ⟨t0, t1, t2, t3⟩ := HXs.cells
        obtain ⟨v0, v1, v2, v3⟩ := HAs.cells
        have fv := HAs.frozen
        have HO9 := Lib.hid hown
        have hob9 : w5.heap.size < w9.heap.size := HX9.lt
        have HLOC : Hid ((Value.slice A9 (m + 1) cap9).ownBlock ≠ some w5.heap.size) := hloc.elim (fun e1 e2 => HX5.out (e1.symm.trans e2)) (fun e1 e2 => by have e3 := Option.some.inj (e1.symm.trans e2); have h4 := HX6.out.lt; simp at e3; omega)
        clear hown hgrow hgr HX9 HA9 HXs HAs hloc))
      case c3 => unfold maxLen; omega
      case c4 => omega
      case c5 => simp; omega
      refine bodyPost_ret (v := .tuple #[.agg #[.int .i64 e, .int .i64 n, .int .i64 j, .slice A9 (m + 1) cap9], .int .i64 0]) (by simp [results, Try.results22, go_sem, v0, v1, v2, v3]) rfl ?_
      have ho0 := HO9.out
      have hl0 := HLOC.out
      rw [HPQ.out, ← HLQ.out] at ho0
      rw [← HLQ.out] at hl0
      have ho1 := own_set_other ho0 (p := ⟨w5.heap.size, 3, none⟩) hl0 (.slice A9 (m + 1) cap9)
      obtain ⟨A8, cap8, hv8, hat⟩ := own_wat ho1 rfl
      rw [HLQ.out] at hv8
      obtain ⟨rfl, rfl⟩ : A9 = A8 ∧ cap9 = cap8 := by simpa using hv8
      refine ⟨A9, cap9, by rw [HLQ.out], bad_board2 (HB9.out.setCell (p := ⟨w5.heap.size, 3, none⟩) (show w.heap.size ≤ w5.heap.size by omega) _), ?_⟩
      have h6 := (((hat.far (p := ⟨w.heap.size + 1 + 1, 0, none⟩) (show w.heap.size + 1 + 1 < w.heap.size + 1 + 1 + 1 by omega) (.int .i64 e)).far (p := ⟨w.heap.size + 1 + 1, 1, none⟩) (show w.heap.size + 1 + 1 < w.heap.size + 1 + 1 + 1 by omega) (.int .i64 n)).far (p := ⟨w.heap.size + 1 + 1, 2, none⟩) (show w.heap.size + 1 + 1 < w.heap.size + 1 + 1 + 1 by omega) (.int .i64 j)).far (p := ⟨w.heap.size + 1 + 1, 3, none⟩) (show w.heap.size + 1 + 1 < w.heap.size + 1 + 1 + 1 by omega) (.slice A9 (m + 1) cap9)
      exact h6.wide (show w.heap.size ≤ w.heap.size + 1 + 1 + 1 by omega) (by simp [World.setCell]) (Nat.le_refl _)

theorem specAddW_any (e n j : Int) (A : Option Addr) (c : Nat) (P : List (Int × Int)) (B : Nat) (a b : Int) (w : World) (h : Wires w B A P) (hB : B ≤ w.heap.size) (hn : P.length ≤ 1048576) (hA : A ≠ none) :
    Calls Try.prog 22 #[.agg #[.int .i64 e, .int .i64 n, .int .i64 j, .slice A P.length c], .agg #[.int .i64 a, .int .i64 b]] w (GivesBC (addV e n j P a b e) (addV e n j P a b n) (addV e n j P a b j) (addA e n j P a b) (addC e n j P a b) w) := by
  by_cases hg : addC e n j P a b = 0
  · obtain ⟨ha, hv⟩ := add_good hg
    rw [ha, hv, hv, hv, hg]
    exact specAddW_good e n j A c P B a b w h hB hn hA hg
  · obtain ⟨ha, hv⟩ := add_bad hg
    rw [ha, hv, hv, hv]
    exact specAddW_bad e n j A c P B a b w h hB hn hg
theorem implAddW_any (e n j : Int) (A : Option Addr) (c : Nat) (P : List (Int × Int)) (B : Nat) (a b : Int) (w : World) (h : Wires w B A P) (hB : B ≤ w.heap.size) (hn : P.length ≤ 1048576) :
    Calls Try.prog 24 #[.agg #[.int .i64 e, .int .i64 n, .int .i64 j, .slice A P.length c], .agg #[.int .i64 a, .int .i64 b]] w (GivesBC (addV e n j P a b e) (addV e n j P a b n) (addV e n j P a b j) (addA e n j P a b) (addC e n j P a b) w) := by
  by_cases hg : addC e n j P a b = 0
  · obtain ⟨ha, hv⟩ := add_good hg
    rw [ha, hv, hv, hv, hg]
    exact implAddW_good e n j A c P B a b w h hB hn hg
  · obtain ⟨ha, hv⟩ := add_bad hg
    rw [ha, hv, hv, hv]
    exact implAddW_bad e n j A c P B a b w h hB hn hg
end Go.Proofs.Ytpklmhffgbgakaa
