/- Lists of passes in memory of their own, as the laws about answered passes want them: where their block lies, what turns when they are marked; contracts of laws.markPassS and heldPassS. -/
import Derived.Test.YtfffdlmpiglojaaDoorPassList
import Derived.Test.YtfffdlmpiglojaaDoorWithin
import Derived.Maps.AppendAt
import Derived.Deep.AppendLies
import Derived.OwnWalk
namespace Go.Proofs.YtfffdlmpiglojaaDoor
open Go.ChangeShapes Go.WideShapes Go.ChangeAt Go.RowKit

/-- Block g holds the passes P, then ex. -/
def PRowX (w : World) (g : Nat) (P : List (Int × Int)) (ex : List Value) : Prop := w.heap[g]? = some (.cells (paCells P ++ ex).toArray 60 (0, 0))
section
variable {w w' : World} {g : Nat} {P : List (Int × Int)} {ex : List Value}
theorem PRowX.lt (h : PRowX w g P ex) : g < w.heap.size := by
  rcases Nat.lt_or_ge g w.heap.size with hlt | hge
  · exact hlt
  · unfold PRowX at h
    rw [Array.getElem?_eq_none hge] at h
    cases h
theorem PRowX.cell (h : PRowX w g P ex) {j : Nat} {v : Value} (hv : (paCells P)[j]? = some v) : w.cell? ⟨g, j, none⟩ = some v := by
  rw [cell_of_row w g j _ _ _ h]
  obtain ⟨hj, _⟩ := List.getElem?_eq_some_iff.1 hv
  simp only [List.getElem?_toArray]
  rw [List.getElem?_append_left hj]
  exact hv
theorem PRowX.frozen (h : PRowX w g P ex) (i : Nat) : w.frozen? ⟨g, i, none⟩ = false := by
  unfold PRowX at h
  simp [World.frozen?, h]
theorem PRowX.later (h : PRowX w g P ex) (hb : Below w.heap.size w w') : PRowX w' g P ex := (hb.block g h.lt).trans h
theorem PRowX.within {lo hi : Nat} (h : PRowX w g P ex) (hb : Within lo hi w w') (hg : g < lo ∨ hi ≤ g) : PRowX w' g P ex := hb.cells h hg
theorem PRowX.passes (h : PRowX w g P ex) : Passes w (g + 1) (some ⟨g, 0, none⟩) P := fun _ => ⟨g, 0, rfl, by omega, fun i d hi => by
  obtain ⟨h0, h1⟩ := paCells_get P i d hi
  rw [Nat.zero_add]
  exact ⟨h.cell h0, h.cell h1⟩⟩
theorem paCells_set : ∀ (P : List (Int × Int)) (j : Nat) (d : Int × Int), j < P.length → paCells (P.set j d) = ((paCells P).set (j * 2) (.int .i64 d.1)).set (j * 2 + 1) (.int .i64 d.2)
  | [], j, d, h => by simp at h
  | x :: P, 0, d, _ => rfl
  | x :: P, j + 1, d, h => by
    have ih := paCells_set P j d (by simpa using h)
    rw [List.set_cons_succ, show (j + 1) * 2 = j * 2 + 1 + 1 by omega, show j * 2 + 1 + 1 + 1 = (j * 2 + 1) + 1 + 1 by omega]
    show [Value.int .i64 x.1, .int .i64 x.2] ++ paCells (P.set j d) = (((Value.int .i64 x.1) :: (.int .i64 x.2) :: paCells P).set (j * 2 + 1 + 1) _).set (j * 2 + 1 + 1 + 1) _
    rw [ih]
    rfl
theorem PRowX.set2 {j : Nat} (h : PRowX w g P ex) (hj : j < P.length) (a b : Int) : PRowX ((w.setCell ⟨g, j * 2, none⟩ (.int .i64 a)).setCell ⟨g, j * 2 + 1, none⟩ (.int .i64 b)) g (P.set j (a, b)) ex := by
  unfold PRowX at h ⊢
  rw [paCells_set P j (a, b) hj]
  have hl := paCells_length P
  have e : (((paCells P).set (j * 2) (.int .i64 a)).set (j * 2 + 1) (.int .i64 b)) ++ ex = ((paCells P ++ ex).set (j * 2) (.int .i64 a)).set (j * 2 + 1) (.int .i64 b) := by
    rw [List.set_append_left _ _ (by omega), List.set_append_left _ _ (by simp; omega)]
  rw [e]
  simp [World.setCell, Array.getElem?_modify, h]
end

/-- A list of passes whose memory is a block from lo up to hi. -/
structure PAt (w : World) (lo hi : Nat) (A : Option Addr) (P : List (Int × Int)) : Prop where
  top : 0 < P.length → ∃ g ex, A = some ⟨g, 0, none⟩ ∧ lo ≤ g ∧ g < hi ∧ PRowX w g P ex
  room : hi ≤ w.heap.size
section
variable {w w' : World} {lo hi lo' hi' : Nat} {A : Option Addr} {P : List (Int × Int)}
theorem PAt.nil (h : hi ≤ w.heap.size) : PAt w lo hi A [] := ⟨fun h => absurd h (by simp), h⟩
theorem PAt.later (h : PAt w lo hi A P) (hb : Below w.heap.size w w') : PAt w' lo hi A P :=
  ⟨fun h0 => by obtain ⟨g, ex, e, h1, h2, h3⟩ := h.top h0; exact ⟨g, ex, e, h1, h2, h3.later hb⟩, Nat.le_trans h.room hb.size⟩
theorem PAt.within (h : PAt w lo hi A P) (k : Within lo' hi' w w') (hd : hi ≤ lo' ∨ hi' ≤ lo) : PAt w' lo hi A P :=
  ⟨fun h0 => by obtain ⟨g, ex, e, h1, h2, h3⟩ := h.top h0; exact ⟨g, ex, e, h1, h2, h3.within k (by omega)⟩, Nat.le_trans h.room k.size⟩
theorem PAt.passes (h : PAt w lo hi A P) : Passes w w.heap.size A P := fun h0 => by
  obtain ⟨g, ex, rfl, h1, h2, h3⟩ := h.top h0
  obtain ⟨b, off, e, h4, h5⟩ := h3.passes h0
  exact ⟨b, off, e, Nat.lt_of_lt_of_le h4 h3.lt, h5⟩
/-- A slice of passes of new memory. -/
def GivesP (P : List (Int × Int)) (w : World) (e : Ending) (w' : World) : Prop :=
  ∃ A cap, e = .returned (.slice A P.length cap) ∧ Below w.heap.size w w' ∧ PAt w' w.heap.size w'.heap.size A P
/-- The same with a code. -/
def GivesPC (P : List (Int × Int)) (code : Int) (w : World) (e : Ending) (w' : World) : Prop :=
  ∃ A cap, e = .returned (.tuple #[.slice A P.length cap, .int .i64 code]) ∧ Below w.heap.size w w' ∧ PAt w' w.heap.size w'.heap.size A P

theorem own_pat {base n : Nat} {v : Value} (h : w.ownsRow base 60 2 v n (paCells P)) (hl : P.length = n) : ∃ A cap, v = .slice A P.length cap ∧ PAt w base w.heap.size A P := by
  rcases h.2 with ⟨hv, h0⟩ | ⟨g, cap, cur, hv, hb, hh, hn, _, hs, ht⟩
  · exact ⟨none, 0, by rw [hv, hl, h0], fun h => absurd h (by omega), Nat.le_refl _⟩
  · have hr : PRowX w g P (cur.toList.drop (n * 2)) := by
      unfold PRowX
      rw [hh]
      congr 2
      apply Array.ext'
      rw [← List.take_append_drop (n * 2) cur.toList, ← ht]
      simp
    exact ⟨some ⟨g, 0, none⟩, cap, by rw [hv, hl], fun _ => ⟨g, _, rfl, hb, hr.lt, hr⟩, Nat.le_refl _⟩
end

/-- laws.toPassS gives passes in a block of their own. -/
theorem toPassesAt_any (A : Option Addr) (c : Nat) (P : List (Int × Int)) (B : Nat) (w : World) (h : Passes w B A P) (hB : B ≤ w.heap.size) (hn : P.length ≤ 1048576) :
    Calls Tryd.prog 20 #[.slice A P.length c] w fun e w' => ∃ g, e = .returned (.slice (some ⟨g, 0, none⟩) P.length P.length) ∧ Below w.heap.size w w' ∧ PAt w' w.heap.size w'.heap.size (some ⟨g, 0, none⟩) P := by
  refine (toPasses_any A c P B w h hB hn).mono ?_
  rintro e w' ⟨g, he, hg, hb, hr⟩
  refine ⟨g, he, hb, fun _ => ⟨g, [], rfl, hg, hr.lt, ?_⟩, Nat.le_refl _⟩
  unfold PRowX
  rw [List.append_nil]
  exact hr

theorem pa_news (W : World) (P : List (Int × Int)) (ob : Obj) (h : ob = .cells (paCells P).toArray 60 (0, 0)) : ∀ j u, (paCells P)[j]? = some u → (W.alloc ob).cell? ((⟨W.heap.size, 0, none⟩ : Addr).add j) = some u := by
  subst h
  intro j u hj
  have e : (⟨W.heap.size, 0, none⟩ : Addr).add j = ⟨W.heap.size, 0 + j, none⟩ := Go.WideShapes.add_plain _ _ _
  rw [e, Nat.zero_add, cell_of_row _ _ _ _ _ _ (heap_alloc_new W _)]
  simpa using hj
theorem pa_one (P : List (Int × Int)) : ∀ u ∈ paCells P, u.oneCell' = true := by
  intro u hu
  obtain ⟨d, _, hd⟩ := List.mem_flatMap.1 hu
  simp only [List.mem_cons, List.not_mem_nil, or_false] at hd
  rcases hd with rfl | rfl <;> rfl
theorem own_pass {w w' W : World} {base B : Nat} {v v' : Value} {P Q : List (Int × Int)} {ob : Obj}
    (hown : w'.ownsRow base 60 2 v' (P.length + Q.length) (paCells P ++ paCells Q)) (hgrow : (w.alloc ob).grownBy w' v.ownBlock)
    (hold : w.ownsRow base 60 2 v P.length (paCells P)) (hb : Below B W w) (hB : B ≤ base) (hs : B ≤ w.heap.size) :
    w'.ownsRow base 60 2 v' (P ++ Q).length (paCells (P ++ Q)) ∧ Below B W w' := by
  refine ⟨by rw [paCells_append, List.length_append]; exact hown, ?_⟩
  exact (hb.alloc hs _).grown hgrow (by simp; omega) (fun k hk => Nat.le_trans hB (hold.lt k hk).1)

/-- the passes after the first j are marked, the marks from k on -/
def pmk (P : List (Int × Int)) (k : Int) (j : Nat) : List (Int × Int) := P.mapIdx fun i d => if i < j then (k + 2 * i, k + 2 * i + 1) else d
theorem pmk_length (P : List (Int × Int)) (k : Int) (j : Nat) : (pmk P k j).length = P.length := by simp [pmk]
theorem pmk_get {P : List (Int × Int)} {k : Int} {j i : Nat} (h : i < P.length) : (pmk P k j)[i]? = some (if i < j then (k + 2 * i, k + 2 * i + 1) else (P[i]?.getD (0, 0))) := by
  simp [pmk, List.getElem?_eq_getElem h]
theorem pmk_zero (P : List (Int × Int)) (k : Int) : pmk P k 0 = P := by
  apply List.ext_getElem?
  intro i
  simp only [pmk, List.getElem?_mapIdx]
  cases P[i]? <;> simp
theorem pmk_set {P : List (Int × Int)} {k : Int} {j : Nat} (h : j < P.length) : (pmk P k j).set j (k + 2 * j, k + 2 * j + 1) = pmk P k (j + 1) := by
  apply List.ext_getElem?
  intro i
  rw [List.getElem?_set]
  by_cases hi : j = i
  · subst hi
    rw [if_pos rfl, if_pos (by rw [pmk_length]; exact h), pmk_get h, if_pos (by omega)]
  · rw [if_neg hi]
    simp only [pmk, List.getElem?_mapIdx]
    cases hE : P[i]? with
    | none => rfl
    | some e =>
      simp only [Option.map_some]
      by_cases h1 : i < j
      · rw [if_pos h1, if_pos (by omega)]
      · rw [if_neg h1, if_neg (by omega)]

theorem markPasses_any (A : Option Addr) (c : Nat) (P : List (Int × Int)) (lo hi : Nat) (k : Int) (w : World) (h : PAt w lo hi A P) (h0 : 0 ≤ k) (h1 : k ≤ 4194304) (hn : P.length ≤ 1048576) :
    Calls Tryd.prog 16 #[.slice A P.length c, .int .i64 k] w fun e w' => e = .returned (.int .i64 (k + 2 * P.length)) ∧ Within lo hi w w' ∧ PAt w' lo hi A (pmk P k P.length) := by
  obtain ⟨n, hN⟩ : ∃ n, P.length = n := ⟨_, rfl⟩
  rw [hN] at hn ⊢
  have H := Lib.hid h
  have HN := Lib.hid hN
  clear h hN
  go_enter Tryd.func16, Tryd.ntmps16
  go_wp2
  go_loopw [1, 5] (fun kk i wr => ∃ j : Nat, j ≤ n ∧ i = .int .i64 j ∧ kk = .int .i64 (k + 2 * j) ∧ Hid (Within lo hi w wr) ∧ Hid (PAt wr lo hi A (pmk P k j))) (fun _ i _ => n - (intOf i).toNat)
  case atStart => exact ⟨0, Nat.zero_le _, rfl, by simp, Within.refl _ _ _, by show PAt _ _ _ _ _; rw [pmk_zero]; exact H.out⟩
  case round =>
    obtain ⟨j, hj, rfl, rfl, HW, HP⟩ := hrel
    by_cases hlt : j < n
    · obtain ⟨g, ex, rfl, g1, g2, hr⟩ := HP.out.top (by rw [pmk_length, HN.out]; omega)
      have hm := pmk_get (P := P) (k := k) (j := j) (i := j) (by rw [HN.out]; exact hlt)
      obtain ⟨c0, c1⟩ := paCells_get _ _ _ hm
      have x0 := hr.cell c0
      have x1 := hr.cell c1
      have fz := hr.frozen
      have hs := hr.set2 (j := j) (by rw [pmk_length, HN.out]; exact hlt) (k + 2 * j) (k + 2 * j + 1)
      rw [pmk_set (by rw [HN.out]; exact hlt)] at hs
      obtain ⟨V, hV⟩ : ∃ V, (wr.setCell ⟨g, j * 2, none⟩ (.int .i64 (k + 2 * j))).setCell ⟨g, j * 2 + 1, none⟩ (.int .i64 (k + 2 * j + 1)) = V := ⟨_, rfl⟩
      have HW2 : Hid (Within lo hi w V) := by
        rw [← hV]
        exact (HW.out.set g1 g2 _).set g1 g2 _
      have HP2 : Hid (PAt V lo hi (some ⟨g, 0, none⟩) (pmk P k (j + 1))) := by
        rw [hV] at hs
        refine ⟨fun _ => ⟨g, ex, rfl, g1, g2, hs⟩, ?_⟩
        rw [← hV]
        simpa [World.setCell] using HP.out.room
      have HV := Lib.hid hV
      have k0 : (0 : Int) ≤ (j : Int) := Int.natCast_nonneg _
      have k1 : (j : Int) < (n : Int) := by omega
      have k2 : (j : Int) ≤ 1048576 := by omega
      clear hm c0 c1 hr hs hV
      go_wp2
      go_roundw
      case rel =>
        refine ⟨j + 1, by omega, by go_num, ?_, ?_, ?_⟩
        · first | go_num | (congr 1; omega)
        · rw [HV.out]; exact HW2
        · rw [HV.out]; exact HP2
      case measure => simp [intOf]; omega
    · have hjn : j = n := by omega
      have k1 : ¬ (j : Int) < (n : Int) := by omega
      have HP2 : Hid (PAt wr lo hi A (pmk P k n)) := by rw [← hjn]; exact HP
      have HV : Hid ((k + 2 * (j : Int)) = k + 2 * n) := by show _ = _; rw [hjn]
      clear hjn HP
      go_wp2
      go_ret
      exact ⟨by rw [HV.out]; rfl, HW.out, HP2.out⟩

theorem heldPasses_any (A : Option Addr) (c : Nat) (P : List (Int × Int)) (lo hi : Nat) (k : Int) (w : World) (h : PAt w lo hi A (pmk P k P.length)) (h0 : 0 ≤ k) (h1 : k ≤ 4194304) (hn : P.length ≤ 1048576) :
    Calls Tryd.prog 17 #[.slice A P.length c, .int .i64 k] w fun e w' => e = .returned (.int .i64 (k + 2 * P.length)) ∧ w = w' := by
  obtain ⟨n, hN⟩ : ∃ n, P.length = n := ⟨_, rfl⟩
  rw [hN] at h hn ⊢
  have H := Lib.hid h
  have HN := Lib.hid hN
  clear h hN
  go_enter Tryd.func17, Tryd.ntmps17
  go_wp2
  go_loop [1, 5] (fun kk i => ∃ j : Nat, j ≤ n ∧ i = .int .i64 j ∧ kk = .int .i64 (k + 2 * j)) (fun _ i => n - (intOf i).toNat)
  case atStart => exact ⟨0, Nat.zero_le _, rfl, by simp⟩
  case round =>
    obtain ⟨j, hj, rfl, rfl⟩ := hrel
    by_cases hlt : j < n
    · obtain ⟨g, ex, rfl, g1, g2, hr⟩ := H.out.top (by rw [pmk_length, HN.out]; omega)
      have hm := pmk_get (P := P) (k := k) (j := n) (i := j) (by rw [HN.out]; exact hlt)
      rw [if_pos hlt] at hm
      obtain ⟨c0, c1⟩ := paCells_get _ _ _ hm
      have x0 := hr.cell c0
      have x1 := hr.cell c1
      simp only at x0 x1
      have k0 : (0 : Int) ≤ (j : Int) := Int.natCast_nonneg _
      have k1 : (j : Int) < (n : Int) := by omega
      have k2 : (j : Int) ≤ 1048576 := by omega
      clear hm c0 c1 hr H
      go_wp2
      go_round
      case rel =>
        refine ⟨j + 1, by omega, by go_num, ?_⟩
        first | go_num | (congr 1; omega)
      case measure => simp [intOf]; omega
    · have hjn : j = n := by omega
      have k1 : ¬ (j : Int) < (n : Int) := by omega
      have HV : Hid ((k + 2 * (j : Int)) = k + 2 * n) := by show _ = _; rw [hjn]
      clear hjn H
      go_wp2
      go_ret
      exact ⟨by rw [HV.out]; rfl, rfl⟩
end Go.Proofs.YtfffdlmpiglojaaDoor
