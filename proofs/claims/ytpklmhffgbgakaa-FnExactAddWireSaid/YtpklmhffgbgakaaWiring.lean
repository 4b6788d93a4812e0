/- impl.wiringOf lays the wires of a board: a contract. -/
import Derived.Test.YtpklmhffgbgakaaExits
namespace Go.Proofs.Ytpklmhffgbgakaa
open Go.ChangeShapes Go.WideShapes Go.ChangeAt Go.RowKit Go.Maps Go.WideMaps

/-- whether wire i is spare -/
def spareB (R : List Int) (P : List (Int × Int)) (i : Nat) : Bool := match P[i]? with | some d => (rt (rootsW R (P.take i)) d.1 == rt (rootsW R (P.take i)) d.2) | none => false
def spareW (R : List Int) (P : List (Int × Int)) (k : Nat) : List Int := selTo (spareB R P) k

/-- Block b is the box of a wiring. -/
def Wbox (w : World) (b : Nat) (e n j : Int) (sl f sp : Value) : Prop := w.heap[b]? = some (.cells #[.int .i64 e, .int .i64 n, .int .i64 j, sl, f, sp] 87 (0, 0))
section
variable {w w' : World} {b : Nat} {e n j : Int} {sl f sp : Value}
theorem Wbox.cells (h : Wbox w b e n j sl f sp) : w.cell? ⟨b, 0, none⟩ = some (.int .i64 e) ∧ w.cell? ⟨b, 1, none⟩ = some (.int .i64 n) ∧ w.cell? ⟨b, 2, none⟩ = some (.int .i64 j) ∧ w.cell? ⟨b, 3, none⟩ = some sl ∧ w.cell? ⟨b, 4, none⟩ = some f ∧ w.cell? ⟨b, 5, none⟩ = some sp := by
  unfold Wbox at h
  refine ⟨?_, ?_, ?_, ?_, ?_, ?_⟩ <;> rw [cell_of_row w b _ _ _ _ h] <;> rfl
theorem Wbox.frozen (h : Wbox w b e n j sl f sp) (i : Nat) : w.frozen? ⟨b, i, none⟩ = false := by
  unfold Wbox at h
  simp [World.frozen?, h]
theorem Wbox.lt (h : Wbox w b e n j sl f sp) : b < w.heap.size := by
  rcases Nat.lt_or_ge b w.heap.size with hlt | hge
  · exact hlt
  · unfold Wbox at h
    rw [Array.getElem?_eq_none hge] at h
    cases h
theorem Wbox.block (h : Wbox w b e n j sl f sp) (hk : w'.heap[b]? = w.heap[b]?) : Wbox w' b e n j sl f sp := hk.trans h
theorem Wbox.later (h : Wbox w b e n j sl f sp) (hb : Below w.heap.size w w') : Wbox w' b e n j sl f sp := h.block (hb.block b h.lt)
theorem Wbox.only {g : Nat} (h : Wbox w b e n j sl f sp) (hg : w.grownBy w' (some g)) (hne : b ≠ g) : Wbox w' b e n j sl f sp := h.block (hg.block b h.lt (fun x => hne (Option.some.inj x)))
theorem Wbox.set5 (h : Wbox w b e n j sl f sp) (v : Value) : Wbox (w.setCell ⟨b, 5, none⟩ v) b e n j sl f v := by
  unfold Wbox at h ⊢
  simp [World.setCell, Array.getElem?_modify, h]
theorem Wbox.far (h : Wbox w b e n j sl f sp) {p : Addr} (hp : b ≠ p.block) (v : Value) : Wbox (w.setCell p v) b e n j sl f sp := h.block (Below.heap_setCell w p v b hp)
theorem Forest.far {m : Nat} {R : List Int} (h : Forest w b m R) {p : Addr} (hp : b ≠ p.block) (v : Value) : Forest (w.setCell p v) b m R := by
  obtain ⟨D, h1, h2⟩ := h
  exact ⟨D, h1.setCell hp v, h2⟩
theorem Forest.block {m : Nat} {R : List Int} (h : Forest w b m R) (hk : w'.heap[b]? = w.heap[b]?) : Forest w' b m R := by
  obtain ⟨D, ⟨es, clock, hb, r⟩, h2⟩ := h
  exact ⟨D, ⟨es, clock, hk.trans hb, r⟩, h2⟩
theorem Forest.more {m m' : Nat} {R : List Int} (h : Forest w b m R) (hm : m ≤ m') : Forest w b m' R := by
  obtain ⟨D, h1, h2⟩ := h
  exact ⟨D, h1.mono hm, h2⟩
theorem own_shape {base k : Nat} {v : Value} {xs : List Value} (h : w.ownsRow base 2 1 v k xs) : ∃ A cap, v = .slice A k cap := by
  rcases h.2 with ⟨hv, h0⟩ | ⟨g, cap, cur, hv, _⟩
  · exact ⟨none, 0, by rw [hv, h0]⟩
  · exact ⟨_, cap, hv⟩
theorem IAt.far {lo hi : Nat} {A : Option Addr} {L : List Int} (h : IAt w lo hi A L) {p : Addr} (hp : p.block < lo) (v : Value) : IAt (w.setCell p v) lo hi A L :=
  ⟨fun h0 => by obtain ⟨g, ex, e, h1, h2, h3⟩ := h.top h0; exact ⟨g, ex, e, h1, h2, h3.far (by omega) v⟩, by simpa [World.setCell] using h.room⟩
end

/-- A wiring of new memory. -/
def GivesWiring (e n j : Int) (sl : Value) (R L : List Int) (w : World) (r : Ending) (w' : World) : Prop :=
  ∃ mb m A cap, r = .returned (.agg #[.int .i64 e, .int .i64 n, .int .i64 j, sl, .map (some mb), .slice A L.length cap]) ∧ w.heap.size ≤ mb ∧ Below w.heap.size w w' ∧ Forest w' mb m R ∧ IAt w' w.heap.size w'.heap.size A L

set_option maxRecDepth 100000 in
set_option maxHeartbeats 4000000 in
theorem wiringOf_any (e n j : Int) (H : Nat) (A : Option Addr) (c : Nat) (P : List (Int × Int)) (B : Nat) (w : World) (h : Wires w B A P) (hB : B ≤ w.heap.size) (hn : P.length ≤ 40) (hH1 : H ≤ 100) (hv : ∀ d ∈ P, wireB H d = true) :
    Calls Try.prog 76 #[.agg #[.int .i64 e, .int .i64 n, .int .i64 j, .slice A P.length c]] w (GivesWiring e n j (.slice A P.length c) (rootsW (startR H) P) (spareW (startR H) P P.length) w) := by
  obtain ⟨i0, hi0, hz0, hz1, hz2⟩ := info_parts info_int64
  obtain ⟨m, hN⟩ : ∃ m, P.length = m := ⟨_, rfl⟩
  rw [hN] at hn ⊢
  have hmm : ∀ W : World, (Instr.makeMap 85 none).run Try.prog W = .ok (.map (some W.heap.size)) (W.alloc (.map #[] 0)) := fun W => by
    simp [Instr.makeMap, Result.andThen]
  have HS := Lib.hid h
  have HN := Lib.hid hN
  have HV := Lib.hid hv
  clear h hN hv
  go_enter Try.func76, Try.ntmps76
  have HE0 : Hid (Forest ((((w.alloc (.cells #[.int .i64 e, .int .i64 n, .int .i64 j, .slice A m c] 29)).alloc (.cells #[.int .i64 0, .int .i64 0, .int .i64 0, .slice none 0 0, .map none, .slice none 0 0] 87)).alloc (.map #[] 0)).alloc (.cells #[.int .i64 e, .int .i64 n, .int .i64 j, .slice A m c, .map (some (w.heap.size + 1 + 1)), .slice none 0 0] 87)) (w.heap.size + 1 + 1) 0 (startR H)) := by
    refine ⟨.map [], ?_, ForD.start H⟩
    have := World.ownsMap_made (H := Unit) ((w.alloc (.cells #[.int .i64 e, .int .i64 n, .int .i64 j, .slice A m c] 29)).alloc (.cells #[.int .i64 0, .int .i64 0, .int .i64 0, .slice none 0 0, .map none, .slice none 0 0] 87)) Try.prog 2 (plainElem (H := Unit) Try.prog 2)
    have h2 := this.alloc (.cells #[.int .i64 e, .int .i64 n, .int .i64 j, .slice A m c, .map (some (w.heap.size + 1 + 1)), .slice none 0 0] 87)
    simpa using h2
  have HSR := Lib.hid (startR_ok H)
  have HRL : Hid (∀ t, (rootsW (startR H) (P.take t)).length = H) := fun t => by rw [rootsW_length, startR_length]
  have HRO : Hid (∀ t, OkR (rootsW (startR H) (P.take t))) := fun t => rootsW_ok H _ (fun d hd => HV.out d (List.mem_of_mem_take hd)) _ (by rw [startR_length]) HSR.out
  go_wp2
  clear hmm
  go_loopw [13] (fun i wr => ∃ t kv cv : Nat, ∃ Av : Option Addr, t ≤ m ∧ i = .int .i64 t ∧ Hid (w.heap.size + 1 + 1 + 1 + 1 ≤ wr.heap.size) ∧ Hid (Below w.heap.size w wr) ∧ Hid (Wbox wr (w.heap.size + 1) 0 0 0 (.slice none 0 0) (.map none) (.slice none 0 0)) ∧ Hid (Wbox wr (w.heap.size + 1 + 1 + 1) e n j (.slice A m c) (.map (some (w.heap.size + 1 + 1))) (.slice Av kv cv)) ∧ Hid (Forest wr (w.heap.size + 1 + 1) t (rootsW (startR H) (P.take t))) ∧ Hid (kv = (spareW (startR H) P t).length) ∧ Hid (wr.ownsRow (w.heap.size + 1 + 1 + 1 + 1) 2 1 (.slice Av kv cv) kv ((spareW (startR H) P t).map (Value.int .i64)))) (fun i _ => m - (intOf i).toNat)
  case atStart =>
    refine ⟨0, 0, 0, none, Nat.zero_le _, rfl, by show _ ≤ _; simp, ?_, ?_, ?_, HE0, rfl, nil_owned _ _⟩
    · exact (((below_box w _).alloc (by simp) _).alloc (by simp; omega) _).alloc (by simp; omega) _
    · have h0 : Wbox ((w.alloc (.cells #[.int .i64 e, .int .i64 n, .int .i64 j, .slice A m c] 29)).alloc (.cells #[.int .i64 0, .int .i64 0, .int .i64 0, .slice none 0 0, .map none, .slice none 0 0] 87)) (w.heap.size + 1) 0 0 0 (.slice none 0 0) (.map none) (.slice none 0 0) := by
        have := heap_alloc_new (w.alloc (.cells #[.int .i64 e, .int .i64 n, .int .i64 j, .slice A m c] 29)) (.cells #[.int .i64 0, .int .i64 0, .int .i64 0, .slice none 0 0, .map none, .slice none 0 0] 87)
        unfold Wbox
        simpa using this
      exact (h0.later (below_box _ _)).later (below_box _ _)
    · have := heap_alloc_new (((w.alloc (.cells #[.int .i64 e, .int .i64 n, .int .i64 j, .slice A m c] 29)).alloc (.cells #[.int .i64 0, .int .i64 0, .int .i64 0, .slice none 0 0, .map none, .slice none 0 0] 87)).alloc (.map #[] 0)) (.cells #[.int .i64 e, .int .i64 n, .int .i64 j, .slice A m c, .map (some (w.heap.size + 1 + 1)), .slice none 0 0] 87)
      show Wbox _ _ _ _ _ _ _ _
      unfold Wbox
      simpa using this
  case round =>
    obtain ⟨t, kv, cv, Av, ht, rfl, HSZ, HB, HR, HX, HF, HK, HO⟩ := hrel
    have t0 : (0 : Int) ≤ (t : Int) := Int.natCast_nonneg _
    by_cases hlt : t < m
    · obtain ⟨d, hd⟩ : ∃ d, P[t]? = some d := ⟨P[t]'(by rw [HN.out]; exact hlt), List.getElem?_eq_getElem _⟩
      obtain ⟨b, off, hAe, hb, hcell⟩ := (HS.out.below (HB.out.mono hB)) (by rw [HN.out]; omega)
      subst hAe
      obtain ⟨c1, c2⟩ := hcell t d hd
      have hw := HV.out d (List.mem_of_getElem? hd)
      rw [wireB_iff] at hw
      have hst := rootsW_take (startR H) hd
      have hll := HRL.out t
      have hok := HRO.out t
      have hsp : spareB (startR H) P t = (rt (rootsW (startR H) (P.take t)) d.1 == rt (rootsW (startR H) (P.take t)) d.2) := by unfold spareB; rw [hd]
      obtain ⟨x, hx⟩ : ∃ x : Nat, d.1 = x := ⟨d.1.toNat, by omega⟩
      obtain ⟨y, hy⟩ : ∃ y : Nat, d.2 = y := ⟨d.2.toNat, by omega⟩
      have hde : d = ((x : Int), (y : Int)) := by rw [← hx, ← hy]
      rw [hde] at hst
      rw [hx, hy] at hsp hw
      rw [hx] at c1
      rw [hy] at c2
      obtain ⟨R, hR⟩ : ∃ R, rootsW (startR H) (P.take t) = R := ⟨_, rfl⟩
      rw [hR] at hst hll hok hsp HF
      have hbx := below_box wr (.cells #[.int .i64 x, .int .i64 y] 38)
      have s5 : (wr.alloc (.cells #[.int .i64 x, .int .i64 y] 38)).cell? ⟨wr.heap.size, 0, none⟩ = some (.int .i64 x) := by simp
      have s6 : (wr.alloc (.cells #[.int .i64 x, .int .i64 y] 38)).cell? ⟨wr.heap.size, 1, none⟩ = some (.int .i64 y) := by simp
      obtain ⟨W1, hW1⟩ : ∃ W1, wr.alloc (.cells #[.int .i64 x, .int .i64 y] 38) = W1 := ⟨_, rfl⟩
      rw [hW1] at hbx s5 s6
      have HX1 := Lib.hid (HX.out.later hbx)
      have HR1 := Lib.hid (HR.out.later hbx)
      have HO1 : Hid (W1.ownsRow (w.heap.size + 1 + 1 + 1 + 1) 2 1 (.slice Av kv cv) kv ((spareW (startR H) P t).map (Value.int .i64))) := own_moved HO.out (fun i _ hi => hbx.block i hi)
      have hj := join_any (w.heap.size + 1 + 1) t R (by omega) hok x y W1 (HF.out.later hbx) (by omega) (by omega) (by omega)
      rw [← hst] at hj
      have HB1 := Lib.hid (below_step HB.out hbx)
      have HSZ1 : Hid (w.heap.size + 1 + 1 + 1 + 1 ≤ W1.heap.size) := Nat.le_trans HSZ.out hbx.size
      obtain ⟨x0, x1, x2, x3, x4, x5⟩ := HX1.out.cells
      have t1 : (t : Int) < (m : Int) := by omega
      have HSP := Lib.hid hsp
      obtain ⟨q, hq⟩ : ∃ q, (rt R (x : Int) == rt R (y : Int)) = q := ⟨_, rfl⟩
      rw [hq] at hj
      have HQ := Lib.hid hq
      have HJ := Lib.hid hj
      clear hcell hd hw hst hll hok hsp hx hy hde hR hbx hj HX HR HO HB HSZ hq hb
      cases q
      · simp only [Bool.not_false] at HJ
        have HI : Hid (spareW (startR H) P (t + 1) = spareW (startR H) P t) := selTo_no _ _ (by rw [HSP.out, HQ.out])
        go_wp2_with fail
        refine HJ.out.mono ?_
        rintro r w2 ⟨rfl, hg2, hF2⟩
        have HX2 := Lib.hid (HX1.out.only hg2 (by omega))
        have HR2 := Lib.hid (HR1.out.only hg2 (by omega))
        have HO2 := Lib.hid (own_only HO1.out hg2 (by omega))
        have HF2 := Lib.hid hF2
        have HB2 := Lib.hid (HB1.out.grown hg2 HB1.out.size (fun z hz => by have e : w.heap.size + 1 + 1 = z := Option.some.inj hz; omega))
        have HSZ2 : Hid (w.heap.size + 1 + 1 + 1 + 1 ≤ w2.heap.size) := Nat.le_trans HSZ1.out hg2.size
        clear hg2 hF2
        go_wp2
        go_roundw
        case rel => exact ⟨t + 1, kv, cv, Av, by omega, by go_num, HSZ2, HB2, HR2, HX2, HF2, by rw [HI.out]; exact HK, by rw [HI.out]; exact HO2⟩
        case measure => simp [intOf]; omega
      · simp only [Bool.not_true] at HJ
        have HI : Hid (spareW (startR H) P (t + 1) = spareW (startR H) P t ++ [(t : Int)]) := selTo_yes _ _ (by rw [HSP.out, HQ.out])
        have hlen := selTo_length (spareB (startR H) P) t
        have hkv := HK.out
        obtain ⟨ys, hy⟩ : ∃ ys, spareW (startR H) P t = ys := ⟨_, rfl⟩
        have hlen2 : ys.length ≤ t := by rw [← hy]; exact hlen
        rw [hy] at HI HO1 hkv
        subst hkv
        clear hlen hy HK
        go_wp2_with fail
        refine HJ.out.mono ?_
        rintro r w2 ⟨rfl, hg2, hF2⟩
        have HX2 := Lib.hid (HX1.out.only hg2 (by omega))
        have HR2 := Lib.hid (HR1.out.only hg2 (by omega))
        have HO2 := Lib.hid (own_only HO1.out hg2 (by omega))
        have HF2 := Lib.hid hF2
        have HB2 := Lib.hid (HB1.out.grown hg2 HB1.out.size (fun z hz => by have e : w.heap.size + 1 + 1 = z := Option.some.inj hz; omega))
        have HSZ2 : Hid (w.heap.size + 1 + 1 + 1 + 1 ≤ w2.heap.size) := Nat.le_trans HSZ1.out hg2.size
        obtain ⟨z0, z1, z2, z3, z4, z5⟩ := HX2.out.cells
        have fz := HX2.out.frozen 5
        clear hg2 hF2 x0 x1 x2 x3 x4 x5 s5 s6
        go_wp2_with (at_builtin; refine wpList_append_own _ rfl _ _ 44 rfl (w.heap.size + 1 + 1 + 1 + 1) 2 i0 (.int .i64 0) 1 8 Try.underlying44 hi0 hz0 hz1 hz2 rfl (by decide) _ _ _ rfl (HO2.out.alloc _) ⟨w2.heap.size, 0, none⟩ 1 1 [.int .i64 t] rfl rfl (one_newsB w2 t) (one_onesB t) ?c3 ?c4 ?c5 ?_; rotate_left 3; intro v' w9 hown hgrow _; obtain ⟨ho, hbb⟩ := own_more hown hgrow HO2.out HB2.out (by omega) HB2.out.size; obtain ⟨A9, cap9, rfl⟩ := own_shape ho; have hfx := append_block hgrow HO2.out (i := w.heap.size + 1 + 1 + 1) HX2.out.lt (by omega); have hfr := append_block hgrow HO2.out (i := w.heap.size + 1) HR2.out.lt (by omega); have hff := append_block hgrow HO2.out (i := w.heap.size + 1 + 1) HF2.out.lt (by omega); have HX9 := Lib.hid (HX2.out.block hfx); have HR9 := Lib.hid (HR2.out.block hfr); have HF9 := Lib.hid (HF2.out.block hff); have HSZ9 : Hid (w.heap.size + 1 + 1 + 1 + 1 ≤ w9.heap.size) := Nat.le_trans HSZ2.out (append_size hgrow); have y5 := HX9.out.cells.2.2.2.2.2; have fy := HX9.out.frozen 5; have HO9 := Lib.hid ho; have HB9 := Lib.hid hbb; clear hown hgrow ho hbb hfx hfr hff)
        case c3 => unfold maxLen; omega
        case c4 => omega
        case c5 => have := HSZ2.out; simp; omega
        go_roundw
        case rel =>
          refine ⟨t + 1, ys.length + 1, cap9, A9, by omega, by go_num, ?_, HB9.out.setCell (by show _ ≤ _; simp only; omega) _, HR9.out.far (by simp only; omega) _, HX9.out.set5 _, HF9.out.far (by simp only; omega) _, ?_, ?_⟩
          · show _ ≤ _
            have := HSZ9.out
            simpa [World.setCell] using this
          · show _ = _
            rw [HI.out, List.length_append]
            rfl
          · show World.ownsRow _ _ _ _ _ _ _
            rw [HI.out]
            have ho := HO9.out
            simp only [List.length_append, List.length_cons, List.length_nil, Nat.zero_add] at ho
            exact own_far ho _ _ (by simp only; omega)
        case measure => simp [intOf]; omega
    · obtain rfl : t = m := by omega
      have t1 : ¬ (t : Int) < (t : Int) := by omega
      obtain ⟨x0, x1, x2, x3, x4, x5⟩ := HX.out.cells
      obtain ⟨d0, d1, d2, d3, d4, d5⟩ := HR.out.cells
      have fd := HR.out.frozen
      have hFE := HF.out
      rw [List.take_of_length_le (by rw [HN.out]; exact Nat.le_refl _)] at hFE
      obtain ⟨A9, cap9, hv9, hr9⟩ := owned_list (show World.ownsRow wr (w.heap.size + 1 + 1 + 1 + 1) 2 1 (.slice Av kv cv) kv _ from HO.out) HK.out.symm
      have hia : IAt wr (w.heap.size + 1 + 1 + 1 + 1) wr.heap.size A9 (spareW (startR H) P t) := ⟨fun h0 => by obtain ⟨g, ex, e, hg, hrow⟩ := hr9 h0; exact ⟨g, ex, e, hg, hrow.lt, hrow⟩, Nat.le_refl _⟩
      rw [hv9] at x5
      obtain ⟨L, hL⟩ : ∃ L, spareW (startR H) P t = L := ⟨_, rfl⟩
      rw [hL] at x5 hia
      have HFE := Lib.hid hFE
      have HIA := Lib.hid hia
      have HL := Lib.hid hL
      have HLN := Lib.hid HN.out
      clear hFE hia hv9 hr9 HX HR HF HO HK hL
      go_wp2
      refine bodyPost_ret (v := .agg #[.int .i64 e, .int .i64 n, .int .i64 j, .slice A t c, .map (some (w.heap.size + 1 + 1)), .slice A9 L.length cap9]) (by simp [results, Try.results76, go_sem, d0, d1, d2, d3, d4, d5]) rfl ?_
      have hsz := HSZ.out
      rw [← HL.out]
      refine ⟨w.heap.size + 1 + 1, t, A9, cap9, by rw [HL.out], by omega, ?_, ?_, ?_⟩
      · exact (((((HB.out.setCell (by show _ ≤ _; simp only; omega) _).setCell (by show _ ≤ _; simp only; omega) _).setCell (by show _ ≤ _; simp only; omega) _).setCell (by show _ ≤ _; simp only; omega) _).setCell (by show _ ≤ _; simp only; omega) _).setCell (by show _ ≤ _; simp only; omega) _
      · exact (((((HFE.out.far (by simp only; omega) _).far (by simp only; omega) _).far (by simp only; omega) _).far (by simp only; omega) _).far (by simp only; omega) _).far (by simp only; omega) _
      · rw [HL.out]
        have h6 := ((((((HIA.out.far (p := ⟨w.heap.size + 1, 0, none⟩) (by simp only; omega) (.int .i64 e)).far (p := ⟨w.heap.size + 1, 1, none⟩) (by simp only; omega) (.int .i64 n)).far (p := ⟨w.heap.size + 1, 2, none⟩) (by simp only; omega) (.int .i64 j)).far (p := ⟨w.heap.size + 1, 3, none⟩) (by simp only; omega) (.slice A t c)).far (p := ⟨w.heap.size + 1, 4, none⟩) (by simp only; omega) (.map (some (w.heap.size + 1 + 1)))).far (p := ⟨w.heap.size + 1, 5, none⟩) (by simp only; omega) (.slice A9 L.length cap9))
        exact h6.wide (by omega) (by simp [World.setCell]) (Nat.le_refl _)
end Go.Proofs.Ytpklmhffgbgakaa
