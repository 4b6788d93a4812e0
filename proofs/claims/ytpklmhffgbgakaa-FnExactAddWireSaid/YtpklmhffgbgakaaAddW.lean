/- spec.AddWire and impl.AddWire answer the board with one more wire: contracts. -/
import Derived.Test.YtpklmhffgbgakaaRemoveS
namespace Go.Proofs.Ytpklmhffgbgakaa
open Go.ChangeShapes Go.WideShapes Go.ChangeAt Go.RowKit

/-- the code of a board and a wire -/
def addC (e n j : Int) (P : List (Int × Int)) (a b : Int) : Int := if boardB e n j P = true then (if 40 ≤ P.length then 5 else if wireB (hubV e n j) (a, b) = true then 0 else 2) else 1
def addV (e n j : Int) (P : List (Int × Int)) (a b v : Int) : Int := if addC e n j P a b = 0 then v else 0
def addA (e n j : Int) (P : List (Int × Int)) (a b : Int) : List (Int × Int) := if addC e n j P a b = 0 then P ++ [(a, b)] else []
theorem addW_cases (e n j : Int) (P : List (Int × Int)) (a b : Int) :
    (boardB e n j P = false ∧ addC e n j P a b = 1) ∨ (boardB e n j P = true ∧ 40 ≤ P.length ∧ addC e n j P a b = 5) ∨ (boardB e n j P = true ∧ ¬ 40 ≤ P.length ∧ wireB (hubV e n j) (a, b) = false ∧ addC e n j P a b = 2) ∨ (boardB e n j P = true ∧ ¬ 40 ≤ P.length ∧ wireB (hubV e n j) (a, b) = true ∧ addC e n j P a b = 0) := by
  unfold addC
  cases boardB e n j P
  · simp
  · by_cases h : 40 ≤ P.length
    · simp [h]
    · cases wireB (hubV e n j) (a, b) <;> simp [h]
theorem add_bad {e n j : Int} {P : List (Int × Int)} {a b : Int} (h : addC e n j P a b ≠ 0) : addA e n j P a b = [] ∧ ∀ v, addV e n j P a b v = 0 := ⟨if_neg h, fun _ => if_neg h⟩
theorem add_good {e n j : Int} {P : List (Int × Int)} {a b : Int} (h : addC e n j P a b = 0) : addA e n j P a b = P ++ [(a, b)] ∧ ∀ v, addV e n j P a b v = v := ⟨if_pos h, fun _ => if_pos h⟩
theorem addA_length (e n j : Int) (P : List (Int × Int)) (a b : Int) : (addA e n j P a b).length ≤ 1048576 := by
  rcases addW_cases e n j P a b with ⟨_, h⟩ | ⟨_, _, h⟩ | ⟨_, _, _, h⟩ | ⟨hb, hl, _, h⟩
  · rw [(add_bad (by rw [h]; decide)).1]; simp
  · rw [(add_bad (by rw [h]; decide)).1]; simp
  · rw [(add_bad (by rw [h]; decide)).1]; simp
  · rw [(add_good h).1, List.length_append]; simp; omega

/-- a box of a board, one of a wire, and one for the answer -/
structure Three (w W0 : World) (e n j : Int) (sl : Value) (a b : Int) : Prop where
  below : Below w.heap.size w W0
  size : W0.heap.size = w.heap.size + 1 + 1 + 1
  box : Bbox W0 w.heap.size e n j sl
  wa : W0.cell? ⟨w.heap.size + 1, 0, none⟩ = some (.int .i64 a)
  wb : W0.cell? ⟨w.heap.size + 1, 1, none⟩ = some (.int .i64 b)
  ans : Bbox W0 (w.heap.size + 1 + 1) 0 0 0 (.slice none 0 0)
theorem three_boxes (w : World) (e n j : Int) (sl : Value) (a b : Int) : Three w (((w.alloc (.cells #[.int .i64 e, .int .i64 n, .int .i64 j, sl] 29)).alloc (.cells #[.int .i64 a, .int .i64 b] 38)).alloc (.cells #[.int .i64 0, .int .i64 0, .int .i64 0, .slice none 0 0] 29)) e n j sl a b := by
  refine ⟨((below_box w _).alloc (by simp) _).alloc (by simp; omega) _, by simp, ?_, by simp [go_sem], by simp [go_sem], ?_⟩
  · exact ((bbox_new w e n j sl).later (below_box _ _)).later (below_box _ _)
  · have := bbox_new ((w.alloc (.cells #[.int .i64 e, .int .i64 n, .int .i64 j, sl] 29)).alloc (.cells #[.int .i64 a, .int .i64 b] 38)) 0 0 0 (.slice none 0 0)
    simpa using this
theorem bad_board2 {w wr : World} {v0 v1 v2 v3 : Value} (hb : Below w.heap.size w wr) :
    Below w.heap.size w ((((wr.setCell ⟨w.heap.size + 1 + 1, 0, none⟩ v0).setCell ⟨w.heap.size + 1 + 1, 1, none⟩ v1).setCell ⟨w.heap.size + 1 + 1, 2, none⟩ v2).setCell ⟨w.heap.size + 1 + 1, 3, none⟩ v3) :=
  (((hb.setCell (by show _ ≤ _; simp only; omega) _).setCell (by show _ ≤ _; simp only; omega) _).setCell (by show _ ≤ _; simp only; omega) _).setCell (by show _ ≤ _; simp only; omega) _

set_option maxRecDepth 100000 in
set_option maxHeartbeats 2000000 in
theorem implAddW_bad (e n j : Int) (A : Option Addr) (c : Nat) (P : List (Int × Int)) (B : Nat) (a b : Int) (w : World) (h : Wires w B A P) (hB : B ≤ w.heap.size) (hn : P.length ≤ 1048576) (hbad : addC e n j P a b ≠ 0) :
    Calls Try.prog 24 #[.agg #[.int .i64 e, .int .i64 n, .int .i64 j, .slice A P.length c], .agg #[.int .i64 a, .int .i64 b]] w (GivesBC 0 0 0 [] (addC e n j P a b) w) := by
  obtain ⟨W0, hW0⟩ : ∃ W0, (((w.alloc (.cells #[.int .i64 e, .int .i64 n, .int .i64 j, .slice A P.length c] 29)).alloc (.cells #[.int .i64 a, .int .i64 b] 38)).alloc (.cells #[.int .i64 0, .int .i64 0, .int .i64 0, .slice none 0 0] 29)) = W0 := ⟨_, rfl⟩
  have ht := three_boxes w e n j (.slice A P.length c) a b
  rw [hW0] at ht
  have hval := implValidBoard_any e n j A c P B W0 (h.below (ht.below.mono hB)) (Nat.le_trans hB ht.below.size) hn
  have hlo := fun W => isLoose_any e n j (.slice A P.length c) a b W
  rcases addW_cases e n j P a b with ⟨hb, hc⟩ | ⟨hb, hl, hc⟩ | ⟨hb, hl, hw, hc⟩ | ⟨_, _, _, hc⟩
  · rw [hc]
    rw [hb] at hval
    obtain ⟨m, hN⟩ : ∃ m, P.length = m := ⟨_, rfl⟩
    rw [hN] at hval ht hW0 ⊢
    have HC := Lib.hid hval
    have HT := Lib.hid ht
    obtain ⟨p0, p1, p2, p3⟩ := ht.box.cells
    clear hval hlo h hN hn hb hc hbad ht
    go_enter Try.func24, Try.ntmps24
    go_wp2_with fail
    with_reducible refine HC.out.mono ?_
    rintro r w1 ⟨rfl, hb⟩
    have HB := Lib.hid (below_step HT.out.below hb)
    have HA := HT.out.ans.later hb
    obtain ⟨y0, y1, y2, y3⟩ := HA.cells
    have fy := HA.frozen
    clear hb p0 p1 p2 p3 HA
    go_wp2
    refine bodyPost_ret (v := .tuple #[.agg #[.int .i64 0, .int .i64 0, .int .i64 0, .slice none 0 0], .int .i64 1]) (by simp [results, Try.results24, go_sem, y0, y1, y2, y3]) rfl ?_
    exact ⟨none, 0, rfl, bad_board2 HB.out, ⟨fun h => absurd h (by simp), Nat.le_refl _⟩⟩
  · have hl40 : P.length = 40 := by
      obtain ⟨E', N', J', hE', hN', hJ', _, _, _, _, _, hP, _, _⟩ := board_facts hb
      omega
    rw [hc]
    rw [hb] at hval
    rw [hl40] at hval ht hW0 ⊢
    have HC := Lib.hid hval
    have HT := Lib.hid ht
    obtain ⟨p0, p1, p2, p3⟩ := ht.box.cells
    clear hval hlo h hn hb hc hbad ht hl hl40
    go_enter Try.func24, Try.ntmps24
    go_wp2_with fail
    with_reducible refine HC.out.mono ?_
    rintro r w1 ⟨rfl, hb⟩
    have HB := Lib.hid (below_step HT.out.below hb)
    have HA := HT.out.ans.later hb
    obtain ⟨y0, y1, y2, y3⟩ := HA.cells
    have fy := HA.frozen
    have x3 := cell_kept p3 hb
    clear hb p0 p1 p2 p3 HA
    go_wp2
    refine bodyPost_ret (v := .tuple #[.agg #[.int .i64 0, .int .i64 0, .int .i64 0, .slice none 0 0], .int .i64 5]) (by simp [results, Try.results24, go_sem, y0, y1, y2, y3]) rfl ?_
    exact ⟨none, 0, rfl, bad_board2 HB.out, ⟨fun h => absurd h (by simp), Nat.le_refl _⟩⟩
  · rw [hc]
    rw [hb] at hval
    rw [hw] at hlo
    have hne : ((P.length : Int) == 40) = false := by simp; omega
    obtain ⟨m, hN⟩ : ∃ m, P.length = m := ⟨_, rfl⟩
    simp only [hN] at hval ht hW0 hlo hne ⊢
    have HC := Lib.hid hval
    have HT := Lib.hid ht
    have HL := Lib.hid hlo
    obtain ⟨p0, p1, p2, p3⟩ := ht.box.cells
    have q0 := ht.wa
    have q1 := ht.wb
    clear hval hlo h hN hn hb hc hbad ht hl hw
    go_enter Try.func24, Try.ntmps24
    go_wp2_with fail
    with_reducible refine HC.out.mono ?_
    rintro r w1 ⟨rfl, hb⟩
    have HB := Lib.hid (below_step HT.out.below hb)
    have HA := Lib.hid (HT.out.ans.later hb)
    have x0 := cell_kept p0 hb
    have x1 := cell_kept p1 hb
    have x2 := cell_kept p2 hb
    have x3 := cell_kept p3 hb
    have z0 := cell_kept q0 hb
    have z1 := cell_kept q1 hb
    clear hb p0 p1 p2 p3 q0 q1
    go_wp2_with fail
    with_reducible refine (HL.out _).mono ?_
    rintro r w2 ⟨rfl, hb⟩
    have HB2 := Lib.hid (below_step HB.out hb)
    have HA2 := HA.out.later hb
    obtain ⟨y0, y1, y2, y3⟩ := HA2.cells
    have fy := HA2.frozen
    clear hb HA2 x0 x1 x2 x3 z0 z1
    go_wp2
    refine bodyPost_ret (v := .tuple #[.agg #[.int .i64 0, .int .i64 0, .int .i64 0, .slice none 0 0], .int .i64 2]) (by simp [results, Try.results24, go_sem, y0, y1, y2, y3]) rfl ?_
    exact ⟨none, 0, rfl, bad_board2 HB2.out, ⟨fun h => absurd h (by simp), Nat.le_refl _⟩⟩
  · exact absurd hc hbad

theorem own_downW {w : World} {base base' n size : Nat} {e : TypeId} {v : Value} {xs : List Value} (h : w.ownsRow base e size v n xs) (hb : base' ≤ base) : w.ownsRow base' e size v n xs := by
  refine ⟨h.1, ?_⟩
  rcases h.2 with h0 | ⟨g, cap, cur, hv, hg, rest⟩
  · exact Or.inl h0
  · exact Or.inr ⟨g, cap, cur, hv, Nat.le_trans hb hg, rest⟩
theorem grown_afterW {w w' : World} {o : Obj} {row : Option Nat} (h : (w.alloc o).grownBy w' row) : w.grownBy w' row :=
  ⟨h.os, h.tape, h.output, by have := h.size; simp at this; omega, fun i hi hne => (h.block i (by simp; omega) hne).trans (Below.heap_alloc w o i hi)⟩
theorem after_append {w3 wz w9 : World} {n size : Nat} {e : TypeId} {v : Value} {xs : List Value} (hk : Below w3.heap.size w3 wz) (ho : wz.ownsRow w3.heap.size e size v n xs) (hg : wz.grownBy w9 v.ownBlock) : Below w3.heap.size w3 w9 :=
  hk.grown hg hk.size (fun k hk => (ho.lt k hk).1)

/-- a row of wires of one's own -/
def GivesOwnW (P : List (Int × Int)) (w : World) (e : Ending) (w' : World) : Prop :=
  ∃ A c, e = .returned (.slice A P.length c) ∧ Below w.heap.size w w' ∧ w'.ownsRow w.heap.size 38 2 (.slice A P.length c) P.length (waCells P)

theorem cloneW_any (A : Option Addr) (c : Nat) (P : List (Int × Int)) (B : Nat) (w : World) (h : Wires w B A P) (hB : B ≤ w.heap.size) (hn : P.length ≤ 1048576) :
    Calls Try.prog 67 #[.slice A P.length c] w (GivesOwnW P w) := by
  obtain ⟨i0, hi0, hz0, hz1, hz2⟩ := info_parts info_wire
  cases A with
  | none =>
    have hp : P = [] := by
      cases P with
      | nil => rfl
      | cons d P => obtain ⟨b, off, e, _⟩ := h (by simp); cases e
    subst hp
    have hnil : ∀ W : World, (binOp .eql 27 (.slice none 0 c) (.slice none 0 0)).run Try.prog W = .ok (.bool true) W := fun W => Lib.run_eql_slice_nil W 27 38 none 0 c 0 0 Try.underlying27
    show Calls _ _ #[.slice none 0 c] w _
    go_enter Try.func67, Try.ntmps67
    go_wp2
    go_ret
    exact ⟨none, 0, rfl, Below.refl _ _, wnil_owned _ _⟩
  | some ad =>
    have hnews : ∀ (W : World), Below w.heap.size w W → ∀ j u, (waCells P)[j]? = some u → W.cell? (ad.add j) = some u := fun W hW j u hj => by
      have h0 : 0 < P.length := by
        obtain ⟨hl, _⟩ := List.getElem?_eq_some_iff.1 hj
        rw [waCells_length] at hl
        omega
      obtain ⟨b, off, e, _, hcell⟩ := h h0
      obtain rfl : ad = ⟨b, off, none⟩ := Option.some.inj e
      rw [Go.WideShapes.add_plain]
      exact cell_kept (wcells hcell j u hj) hW
    have hnil : ∀ W : World, (binOp .eql 27 (.slice (some ad) P.length c) (.slice none 0 0)).run Try.prog W = .ok (.bool false) W := fun W => Lib.run_eql_slice_nil W 27 38 (some ad) P.length c 0 0 Try.underlying27
    have HN := Lib.hid (hnews _ (below_box w (.cells #[] 38)))
    have HL := Lib.hid (waCells_length P)
    have HE := Lib.hid (wempty_owned w)
    have HB := Lib.hid (below_box w (.cells #[] 38))
    unfold GivesOwnW
    obtain ⟨Q, hQ⟩ : ∃ Q, waCells P = Q := ⟨_, rfl⟩
    obtain ⟨m, hm⟩ : ∃ m, P.length = m := ⟨_, rfl⟩
    rw [hQ] at HN HL
    rw [hm] at HL hnil hn
    rw [hQ, hm]
    have HO := Lib.hid (wa_one P)
    rw [hQ] at HO
    clear hnews h hQ hm
    go_enter Try.func67, Try.ntmps67
    go_wp2_with (at_builtin; refine wpList_append_own _ rfl _ _ 27 rfl w.heap.size 38 i0 (.agg #[.int .i64 0, .int .i64 0]) 2 16 Try.underlying27 hi0 hz0 hz1 hz2 rfl (by decide) _ _ _ rfl HE.out ad m c Q rfl HL.out HN.out HO.out ?c3 ?c4 ?c5 ?_; rotate_left 3; intro v9 w9 hown hgrow _; rw [Nat.zero_add, List.nil_append] at hown; obtain ⟨A9, cap9, rfl⟩ := wshape hown; have HO9 := Lib.hid hown; have HB9 := Lib.hid (HB.out.grown hgrow HB.out.size (fun k hk => Nat.le_of_eq (Option.some.inj hk))); clear hown hgrow)
    case c3 => unfold maxLen; omega
    case c4 => omega
    case c5 => simp
    go_ret
    exact ⟨A9, cap9, rfl, HB9.out, HO9.out⟩

set_option maxRecDepth 100000 in
set_option maxHeartbeats 4000000 in
theorem implAddW_good (e n j : Int) (A : Option Addr) (c : Nat) (P : List (Int × Int)) (B : Nat) (a b : Int) (w : World) (h : Wires w B A P) (hB : B ≤ w.heap.size) (hn : P.length ≤ 1048576) (hgood : addC e n j P a b = 0) :
    Calls Try.prog 24 #[.agg #[.int .i64 e, .int .i64 n, .int .i64 j, .slice A P.length c], .agg #[.int .i64 a, .int .i64 b]] w (GivesBC e n j (P ++ [(a, b)]) 0 w) := by
  obtain ⟨i0, hi0, hz0, hz1, hz2⟩ := info_parts info_wire
  obtain ⟨W0, hW0⟩ : ∃ W0, (((w.alloc (.cells #[.int .i64 e, .int .i64 n, .int .i64 j, .slice A P.length c] 29)).alloc (.cells #[.int .i64 a, .int .i64 b] 38)).alloc (.cells #[.int .i64 0, .int .i64 0, .int .i64 0, .slice none 0 0] 29)) = W0 := ⟨_, rfl⟩
  have ht := three_boxes w e n j (.slice A P.length c) a b
  rw [hW0] at ht
  have hval := implValidBoard_any e n j A c P B W0 (h.below (ht.below.mono hB)) (Nat.le_trans hB ht.below.size) hn
  have hlo := fun W => isLoose_any e n j (.slice A P.length c) a b W
  rcases addW_cases e n j P a b with ⟨_, hc⟩ | ⟨_, _, hc⟩ | ⟨_, _, _, hc⟩ | ⟨hb, hl, hw, hc⟩
  · rw [hc] at hgood; exact absurd hgood (by decide)
  · rw [hc] at hgood; exact absurd hgood (by decide)
  · rw [hc] at hgood; exact absurd hgood (by decide)
  · rw [hb] at hval
    rw [hw] at hlo
    have hne : ((P.length : Int) == 40) = false := by simp; omega
    have hcl := fun (W : World) (hW : Below w.heap.size w W) => cloneW_any A c P B W (h.below (hW.mono hB)) (Nat.le_trans hB hW.size) hn
    unfold GivesOwnW at hcl
    have hpq : waCells P ++ [Value.int .i64 a, .int .i64 b] = waCells (P ++ [(a, b)]) := by rw [waCells_append]; rfl
    have hlq : (P ++ [(a, b)]).length = P.length + 1 := by simp
    obtain ⟨m, hN⟩ : ∃ m, P.length = m := ⟨_, rfl⟩
    simp only [hN] at hval ht hW0 hlo hne hcl hlq hl ⊢
    have HC := Lib.hid hval
    have HT := Lib.hid ht
    have HL := Lib.hid hlo
    have HCL := Lib.hid hcl
    have HPQ := Lib.hid hpq
    have HLQ := Lib.hid hlq
    obtain ⟨p0, p1, p2, p3⟩ := ht.box.cells
    have q0 := ht.wa
    have q1 := ht.wb
    have hm40 : m + 1 ≤ 40 := by omega
    clear hval hlo h hN hn hb hc hgood ht hl hw hcl hpq hlq
    go_enter Try.func24, Try.ntmps24
    go_wp2_with fail
    with_reducible refine HC.out.mono ?_
    rintro r w1 ⟨rfl, hb⟩
    have HB := Lib.hid (below_step HT.out.below hb)
    have HS1 : Hid (w.heap.size + 1 + 1 + 1 ≤ w1.heap.size) := by show _ ≤ _; have := HT.out.size; have := hb.size; omega
    have HA := Lib.hid (HT.out.ans.later hb)
    have HX := Lib.hid (HT.out.box.later hb)
    have x0 := cell_kept p0 hb
    have x1 := cell_kept p1 hb
    have x2 := cell_kept p2 hb
    have x3 := cell_kept p3 hb
    have z0 := cell_kept q0 hb
    have z1 := cell_kept q1 hb
    clear hb p0 p1 p2 p3 q0 q1
    go_wp2_with fail
    with_reducible refine (HL.out _).mono ?_
    rintro r w3 ⟨rfl, hb⟩
    have HB3 := Lib.hid (below_step HB.out hb)
    have HS3 : Hid (w.heap.size + 1 + 1 + 1 ≤ w3.heap.size) := Nat.le_trans HS1.out hb.size
    have HA3 := Lib.hid (HA.out.later hb)
    have HX3 := Lib.hid (HX.out.later hb)
    have y3 := cell_kept x3 hb
    have u0 := cell_kept z0 hb
    have u1 := cell_kept z1 hb
    have fx := HX3.out.frozen
    have HK : Hid (Below w3.heap.size w3 w3.drew) := (Below.refl _ _).drew
    clear hb x0 x1 x2 x3 z0 z1 HA HX
    have HBA := Lib.hid (below_drew (below_boxed HB3.out (.cells #[.int .i64 a, .int .i64 b] 38)))
    have HCLA := Lib.hid (HCL.out _ HBA.out)
    have ya := cell_kept y3 (below_box w3 (.cells #[.int .i64 a, .int .i64 b] 38))
    have yb : (w3.alloc (.cells #[.int .i64 a, .int .i64 b] 38)).drew.cell? ⟨w.heap.size, 3, none⟩ = some (.slice A m c) := ya
    have h63 : m + 1 ≤ maxLen := by unfold maxLen; omega
    have h8 : (m + 1) * 16 ≤ 140737488355328 := by omega
    have HNW := Lib.hid (fun W => two_newsW W a b)
    have HBA := Lib.hid (below_drew (below_boxed HB3.out (.cells #[.int .i64 a, .int .i64 b] 38)))
    have HKA := Lib.hid (below_drew (below_box w3 (.cells #[.int .i64 a, .int .i64 b] 38)))
    have HON := Lib.hid (two_onesW a b)
    go_wp2
    go_region_law (first
      | ((try go_simp); go_at_call 67; with_reducible refine (HCL.out _ (below_step HB3.out HK.out)).mono ?_; rintro e wz ⟨A1, c1, rfl, hb, ho⟩; have HKZ := Lib.hid (below_step HK.out hb); have HOZ := Lib.hid (own_downW ho (Nat.le_refl w3.heap.size)); have y4 := cell_kept y3 HKZ.out; have u4 := cell_kept u0 HKZ.out; have u5 := cell_kept u1 HKZ.out; clear hb ho)
      | ((try go_simp); go_at_call 67; refine HCLA.out.mono ?_; (rintro e wz ⟨A1, c1, rfl, hb, ho⟩; have HKZ := Lib.hid (below_step HKA.out hb); have HOZ := Lib.hid (own_downW ho HKA.out.size); have y4 := cell_kept y3 HKZ.out; have u4 := cell_kept u0 HKZ.out; have u5 := cell_kept u1 HKZ.out; have hnz := fun j u hj => cell_kept (w := (w3.alloc (.cells #[.int .i64 a, .int .i64 b] 38)).drew) (two_newsW w3 a b j u hj) hb; clear hb ho))
      | (refine step_append_own _ rfl _ _ 27 rfl w3.heap.size 38 i0 (.agg #[.int .i64 0, .int .i64 0]) 2 16 Try.underlying27 hi0 hz0 hz1 hz2 rfl (by decide) _ _ _ rfl (HOZ.out.alloc _) ⟨wz.heap.size, 0, none⟩ 1 1 [.int .i64 a, .int .i64 b] rfl rfl (HNW.out wz) HON.out h63 h8 (Nat.le_trans HKZ.out.size (by simp)) ?_; intro v9 w9 hown hgrow _; obtain ⟨A9, cap9, rfl⟩ := wshape hown; have HK9 := Lib.hid (after_append HKZ.out HOZ.out (grown_afterW hgrow)); have HO9 := Lib.hid hown; have HX9 := HX3.out.later HK9.out; have y9 := HX9.cells.2.2.2; have f9 := HX9.frozen; clear hown hgrow)
      | (refine step_append_own _ rfl _ _ 27 rfl w3.heap.size 38 i0 (.agg #[.int .i64 0, .int .i64 0]) 2 16 Try.underlying27 hi0 hz0 hz1 hz2 rfl (by decide) _ _ _ rfl HOZ.out ⟨w3.heap.size, 0, none⟩ 1 1 [.int .i64 a, .int .i64 b] rfl rfl hnz HON.out h63 h8 HKZ.out.size ?_; intro v9 w9 hown hgrow _; obtain ⟨A9, cap9, rfl⟩ := wshape hown; have HK9 := Lib.hid (after_append HKZ.out HOZ.out hgrow); have HO9 := Lib.hid hown; have HX9 := HX3.out.later HK9.out; have y9 := HX9.cells.2.2.2; have f9 := HX9.frozen; clear hown hgrow))
    all_goals
      have hs := HS3.out
      have hne2 : w.heap.size + 1 + 1 ≠ w.heap.size := by omega
      have HXs := HX9.set3 (.slice A9 (m + 1) cap9)
      have HAs := (HA3.out.later HK9.out).far (p := ⟨w.heap.size, 3, none⟩) hne2 (.slice A9 (m + 1) cap9)
      obtain ⟨s0, s1, s2, s3⟩ := HXs.cells
      obtain ⟨v0, v1, v2, v3⟩ := HAs.cells
      have fv := HAs.frozen
      go_wp2
      refine bodyPost_ret (v := .tuple #[.agg #[.int .i64 e, .int .i64 n, .int .i64 j, .slice A9 (m + 1) cap9], .int .i64 0]) (by simp [results, Try.results24, go_sem, v0, v1, v2, v3]) rfl ?_
      have ho := HO9.out
      rw [HPQ.out, ← HLQ.out] at ho
      obtain ⟨A8, cap8, hv8, hat⟩ := own_wat ho rfl
      rw [HLQ.out] at hv8
      obtain ⟨rfl, rfl⟩ : A9 = A8 ∧ cap9 = cap8 := by simpa using hv8
      refine ⟨A9, cap9, by rw [HLQ.out], bad_board2 ((below_step HB3.out HK9.out).setCell (by show _ ≤ _; simp only; omega) _), ?_⟩
      have h6 := ((((hat.far (p := ⟨w.heap.size, 3, none⟩) (by simp only; omega) (.slice A9 (m + 1) cap9)).far (p := ⟨w.heap.size + 1 + 1, 0, none⟩) (by simp only; omega) (.int .i64 e)).far (p := ⟨w.heap.size + 1 + 1, 1, none⟩) (by simp only; omega) (.int .i64 n)).far (p := ⟨w.heap.size + 1 + 1, 2, none⟩) (by simp only; omega) (.int .i64 j)).far (p := ⟨w.heap.size + 1 + 1, 3, none⟩) (by simp only; omega) (.slice A9 (m + 1) cap9)
      exact h6.wide (by omega) (by simp [World.setCell]) (Nat.le_refl _)
end Go.Proofs.Ytpklmhffgbgakaa
