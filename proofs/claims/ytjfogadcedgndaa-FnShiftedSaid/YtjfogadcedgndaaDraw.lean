/- What spec.l02Draw and spec.A2Card give: a card of masks from 0 to 4095, in memory of its own; nothing but the source's block turns. Condition: at most 3000 bytes, at most 64 columns. -/
import Derived.Test.YtjfogadcedgndaaSrc
import Derived.Test.YtjfogadcedgndaaOwnMem
import Derived.Maps.AppendAt
import Derived.Deep.AppendLies
import Derived.OwnWalk
import Derived.Laws.AppendOwn
import Derived.Outline
namespace Go.Proofs.Ytjfogadcedgndaa
open Go.ChangeShapes Go.WideShapes Go.ChangeAt Go.RowKit

theorem Src.keep {w w' : World} {B g k : Nat} (h : Src w B g k) (hk : ∀ i, i ≤ g → w'.heap[i]? = w.heap[i]?) : Src w' B g k := by
  obtain ⟨A, n, c, j, s, h1, h2, h3, h4, h5, h6, h7⟩ := h
  exact ⟨A, n, c, j, s, h1.moved (fun p hp => World.cell?_of_block (hk p.block (by omega))), h2, h3, h4, h5, h6, (hk g (Nat.le_refl _)).trans h7⟩
theorem Src.far {w : World} {B g k : Nat} (h : Src w B g k) (p : Addr) (u : Value) (hp : g < p.block) : Src (w.setCell p u) B g k :=
  h.keep fun i hi => Below.heap_setCell w p u i (by omega)
theorem Src.boxed {w : World} {B g k : Nat} (h : Src w B g k) (o : Obj) : Src (w.alloc o) B g k := h.below (below_box w o)

def maskOk (l : List Int) : Prop := ∀ x ∈ l, 0 ≤ x ∧ x ≤ 4095
theorem maskOk.add {l : List Int} (h : maskOk l) {m : Int} (hm : 0 ≤ m ∧ m ≤ 4095) : maskOk (l ++ [m]) := by
  intro x hx
  rcases List.mem_append.1 hx with h' | h'
  · exact h x h'
  · rw [List.mem_singleton.1 h']
    exact hm
def bitsB : Bool := (List.range 10).all fun a => decide (0 ≤ wrap64 (4 * 2 ^ a)) && decide (wrap64 (4 * 2 ^ a) ≤ 4095)
def pairB : Bool := (List.range 3).all fun a => (List.range 9).all fun b => decide (0 ≤ bits .or .i64 (wrap64 (2 ^ a)) (wrap64 (8 * 2 ^ b))) && decide (bits .or .i64 (wrap64 (2 ^ a)) (wrap64 (8 * 2 ^ b)) ≤ 4095)
theorem one_ok (r : Int) (h0 : 0 ≤ r) (h1 : r < 10) : 0 ≤ wrap64 (4 * 2 ^ r.toNat) ∧ wrap64 (4 * 2 ^ r.toNat) ≤ 4095 := by
  have h : bitsB = true := by decide +kernel
  simp only [bitsB, List.all_eq_true, List.mem_range, Bool.and_eq_true, decide_eq_true_eq] at h
  exact h r.toNat (by omega)
theorem pair_ok (r q : Int) (h0 : 0 ≤ r) (h1 : r < 3) (h2 : 0 ≤ q) (h3 : q < 9) : 0 ≤ bits .or .i64 (wrap64 (2 ^ r.toNat)) (wrap64 (8 * 2 ^ q.toNat)) ∧ bits .or .i64 (wrap64 (2 ^ r.toNat)) (wrap64 (8 * 2 ^ q.toNat)) ≤ 4095 := by
  have h : pairB = true := by decide +kernel
  simp only [pairB, List.all_eq_true, List.mem_range, Bool.and_eq_true, decide_eq_true_eq] at h
  exact h r.toNat (by omega) q.toNat (by omega)

/-- What a drawing of n columns leaves. -/
def Draws (n B g K : Nat) (w : World) (e : Ending) (w' : World) : Prop :=
  ∃ gr cap l ex, e = .returned (.agg #[.slice (some ⟨gr, 0, none⟩) l.length cap]) ∧ l.length = n ∧ l.length ≤ cap ∧ cap ≤ maxLen ∧ maskOk l ∧ w.heap.size ≤ gr ∧ w.grownBy w' (some g) ∧ Src w' B g K ∧ Row w' gr l ex

theorem draws_of {n B g K : Nat} {w wr : World} {v : Value} {l : List Int} (hl : l.length = n) (h1 : 1 ≤ n) (hm : maskOk l) (hg : w.grownBy wr (some g)) (hs : Src wr B g K) (ho : wr.ownsRow (w.heap.size + 2) 2 1 v l.length (l.map (Value.int .i64))) :
    Draws n B g K w (.returned (.agg #[v])) wr := by
  rcases ho.2 with ⟨_, h0⟩ | ⟨gr, cap, cur, rfl, hb, hh, hc, hcm, _, ht⟩
  · omega
  · refine ⟨gr, cap, l, cur.toList.drop l.length, rfl, hl, hc, hcm, hm, by omega, hg, hs, ?_⟩
    unfold Row
    rw [hh]
    congr 2
    apply Array.ext'
    rw [← List.take_append_drop l.length cur.toList, ← ht, Nat.mul_one]
    simp

set_option maxRecDepth 100000 in
set_option maxHeartbeats 4000000 in
theorem l02Draw_any (n B g k0 : Nat) (w : World) (h : Src w B g k0) (h1 : 1 ≤ n) (hn : n ≤ 64) (hk : k0 ≤ 100000) :
    Calls Try.prog 51 #[.pointer (some ⟨g, 0, none⟩), .int .i64 n] w (Draws n B g (k0 + 8 * n) w) := by
  obtain ⟨i0, hi0, hz0, hz1, hz2⟩ := info_parts info_int
  have hglt := h.lt
  have H := Lib.hid h
  clear h
  go_enter Try.func51, Try.ntmps51
  go_wp2
  go_loopw [6, 7] (fun i m wr => ∃ j : Nat, ∃ l : List Int, ∃ v : Value, j ≤ n ∧ Hid (l.length = j) ∧ i = .int .i64 j ∧ Hid (maskOk l) ∧ Hid (w.grownBy wr (some g)) ∧ Hid (Src wr B g (k0 + 8 * j)) ∧ w.heap.size + 2 ≤ wr.heap.size ∧ wr.cell? ⟨w.heap.size + 1, 0, none⟩ = some v ∧ wr.frozen? ⟨w.heap.size + 1, 0, none⟩ = false ∧ (∃ u, wr.cell? ⟨w.heap.size, 0, none⟩ = some u) ∧ wr.frozen? ⟨w.heap.size, 0, none⟩ = false ∧ Hid (wr.ownsRow (w.heap.size + 2) 2 1 v l.length (l.map (Value.int .i64)))) (fun i _ _ => n - (intOf i).toNat)
  case atStart =>
    refine ⟨0, [], .slice none 0 0, Nat.zero_le _, rfl, rfl, (fun x hx => by cases hx), ?_, (H.out.boxed _).boxed _, by simp, by simp [go_sem], by simp [go_sem], ⟨.slice none 0 0, by simp [go_sem]⟩, by simp [go_sem], ⟨rfl, Or.inl ⟨rfl, rfl⟩⟩⟩
    exact only_step (only_box w _ g) (only_box _ _ g)
  case round =>
    obtain ⟨j, l, v, hj, HL, rfl, HM, HG, HS, hsz, cv, fv, ⟨u4, c4⟩, f4, HO⟩ := hrel
    by_cases hlt : j < n
    · have hk1 : (j : Int) < (n : Int) := by omega
      have HP := Lib.hid (pick_any wr B g (k0 + 8 * j) 10 HS.out (by omega) (by omega) (by omega))
      go_wp2_with fail
      refine HP.out.mono ?_
      rintro e w1 ⟨r1, rfl, hr0, hr1, hg, hs⟩
      have hm1 := one_ok r1 hr0 hr1
      obtain ⟨m1, em⟩ : ∃ m1, wrap64 (4 * 2 ^ r1.toNat) = m1 := ⟨_, rfl⟩
      rw [em] at hm1
      have HG1 := Lib.hid (only_step HG.out hg)
      have HO1 := Lib.hid (own_only HO.out hg (by omega))
      have HS1 := Lib.hid hs
      have cv1 := cell_only hg cv (by show w.heap.size + 1 ≠ g; omega)
      have fv1 := frozen_only hg cv fv (by show w.heap.size + 1 ≠ g; omega)
      have c41 := cell_only hg c4 (by show w.heap.size ≠ g; omega)
      have f41 := frozen_only hg c4 f4 (by show w.heap.size ≠ g; omega)
      have hsz1 : w.heap.size + 2 ≤ w1.heap.size := Nat.le_trans hsz hg.size
      clear hg hs HP HG HO HS fv cv f4 c4 hsz
      have HP := Lib.hid (pick_any w1 B g (k0 + 8 * j + 2) 6 HS1.out (by omega) (by omega) (by omega))
      go_wp2_with fail
      rw [em]
      clear em
      refine HP.out.mono ?_
      rintro e w2 ⟨r2, rfl, hr2, hr3, hg, hs⟩
      have HG2 := Lib.hid (only_step HG1.out hg)
      have HO2 := Lib.hid (own_only HO1.out hg (by omega))
      have HS2 := Lib.hid hs
      have cv2 := cell_only hg cv1 (by show w.heap.size + 1 ≠ g; omega)
      have fv2 := frozen_only hg cv1 fv1 (by show w.heap.size + 1 ≠ g; omega)
      have c42 := cell_only hg c41 (by show w.heap.size ≠ g; omega)
      have f42 := frozen_only hg c41 f41 (by show w.heap.size ≠ g; omega)
      have hsz2 : w.heap.size + 2 ≤ w2.heap.size := Nat.le_trans hsz1 hg.size
      clear hg hs HP HG1 HO1 HS1 fv1 cv1 f41 c41 hsz1
      by_cases e0 : r2 = 0
      · subst e0
        go_wp2_with (at_builtin; (refine wpList_append_own _ rfl _ _ 24 rfl (w.heap.size + 2) 2 i0 (.int .i64 0) 1 8 Try.underlying24 hi0 hz0 hz1 hz2 rfl (by decide) _ _ _ rfl (HO2.out.alloc _) ⟨w2.heap.size, 0, none⟩ 1 1 [.int .i64 (0)] rfl rfl ?c1 ?c2 ?c3 ?c4 ?c5 ?_; rotate_left 5; intro v' w9 hown hgrow _; obtain ⟨gq, cq, rfl⟩ := int_shape hown (Nat.succ_pos _); have HG9 := Lib.hid (only_append HG2.out hgrow HO2.out (by omega)); have HS9 := Lib.hid (HS2.out.keep (fun i hi => append_block hgrow HO2.out (by omega) (by omega))); have cv9 := cell_block (append_block hgrow HO2.out (i := w.heap.size + 1) (by omega) (by omega)) cv2; have fv9 := frozen_block (append_block hgrow HO2.out (i := w.heap.size + 1) (by omega) (by omega)) fv2; have c49 := cell_block (append_block hgrow HO2.out (i := w.heap.size) (by omega) (by omega)) c42; have f49 := frozen_block (append_block hgrow HO2.out (i := w.heap.size) (by omega) (by omega)) f42; have HO9 := Lib.hid hown; have hsz9 := Nat.le_trans hsz2 (append_size hgrow); clear hown hgrow))
        case c1 =>
          intro j u hj
          match j, hj with
          | 0, hj => simp at hj; subst hj; simp [Addr.add]
        case c2 => intro u hu; simp at hu; subst hu; rfl
        case c3 => have := HL.out; unfold maxLen; omega
        case c4 => have := HL.out; omega
        case c5 => first | omega | (simp; omega)
        go_roundw
        case rel =>
          refine ⟨j + 1, l ++ [0], .slice (some ⟨gq, 0, none⟩) (l.length + 1) cq, by omega, by have := HL.out; show _ = _; simp; omega, by go_num, HM.out.add ⟨by omega, by omega⟩, only_far HG9.out _ _ (by show _ ≤ w.heap.size + 1; omega), (HS9.out.far _ _ (by show g < w.heap.size + 1; omega)).more (by omega), ?_, ?_, ?_, ⟨u4, ?_⟩, ?_, ?_⟩
          · simpa [World.setCell] using hsz9
          · simp [go_sem, cv9]
          · simp [go_sem, fv9]
          · simp [go_sem, c49]
          · simp [go_sem, f49]
          · have := own_far HO9.out ⟨w.heap.size + 1, 0, none⟩ (.slice (some ⟨gq, 0, none⟩) (l.length + 1) cq) (by show w.heap.size + 1 < _; omega)
            simpa [Hid] using this
        case measure => simp [intOf]; omega
      · by_cases e1 : r2 = 1
        · subst e1
          have HP := Lib.hid (pick_any w2 B g (k0 + 8 * j + 2 + 2) 3 HS2.out (by omega) (by omega) (by omega))
          go_wp2_with fail
          refine HP.out.mono ?_
          rintro e w3 ⟨r3, rfl, hr4, hr5, hg, hs⟩
          have HG3 := Lib.hid (only_step HG2.out hg)
          have HO3 := Lib.hid (own_only HO2.out hg (by omega))
          have HS3 := Lib.hid hs
          have cv3 := cell_only hg cv2 (by show w.heap.size + 1 ≠ g; omega)
          have fv3 := frozen_only hg cv2 fv2 (by show w.heap.size + 1 ≠ g; omega)
          have c43 := cell_only hg c42 (by show w.heap.size ≠ g; omega)
          have f43 := frozen_only hg c42 f42 (by show w.heap.size ≠ g; omega)
          have hsz3 : w.heap.size + 2 ≤ w3.heap.size := Nat.le_trans hsz2 hg.size
          clear hg hs HP HG2 HO2 HS2 fv2 cv2 f42 c42 hsz2
          have HP := Lib.hid (pick_any w3 B g (k0 + 8 * j + 2 + 2 + 2) 9 HS3.out (by omega) (by omega) (by omega))
          go_wp2_with fail
          refine HP.out.mono ?_
          rintro e w4 ⟨r4, rfl, hr6, hr7, hg, hs⟩
          have hm2 := pair_ok r3 r4 hr4 hr5 hr6 hr7
          have HG4 := Lib.hid (only_step HG3.out hg)
          have HO4 := Lib.hid (own_only HO3.out hg (by omega))
          have HS4 := Lib.hid hs
          have cv4 := cell_only hg cv3 (by show w.heap.size + 1 ≠ g; omega)
          have fv4 := frozen_only hg cv3 fv3 (by show w.heap.size + 1 ≠ g; omega)
          have c44 := cell_only hg c43 (by show w.heap.size ≠ g; omega)
          have f44 := frozen_only hg c43 f43 (by show w.heap.size ≠ g; omega)
          have hsz4 : w.heap.size + 2 ≤ w4.heap.size := Nat.le_trans hsz3 hg.size
          clear hg hs HP HG3 HO3 HS3 fv3 cv3 f43 c43 hsz3
          go_wp2_with (at_builtin; refine wpList_append_own _ rfl _ _ 24 rfl (w.heap.size + 2) 2 i0 (.int .i64 0) 1 8 Try.underlying24 hi0 hz0 hz1 hz2 rfl (by decide) _ _ _ rfl (HO4.out.alloc _) ⟨w4.heap.size, 0, none⟩ 1 1 [.int .i64 (bits .or .i64 (wrap64 (2 ^ r3.toNat)) (wrap64 (8 * 2 ^ r4.toNat)))] rfl rfl ?c1 ?c2 ?c3 ?c4 ?c5 ?_; rotate_left 5; intro v' w9 hown hgrow _; obtain ⟨gq, cq, rfl⟩ := int_shape hown (Nat.succ_pos _); have HG9 := Lib.hid (only_append HG4.out hgrow HO4.out (by omega)); have HS9 := Lib.hid (HS4.out.keep (fun i hi => append_block hgrow HO4.out (by omega) (by omega))); have cv9 := cell_block (append_block hgrow HO4.out (i := w.heap.size + 1) (by omega) (by omega)) cv4; have fv9 := frozen_block (append_block hgrow HO4.out (i := w.heap.size + 1) (by omega) (by omega)) fv4; have c49 := cell_block (append_block hgrow HO4.out (i := w.heap.size) (by omega) (by omega)) c44; have f49 := frozen_block (append_block hgrow HO4.out (i := w.heap.size) (by omega) (by omega)) f44; have HO9 := Lib.hid hown; have hsz9 := Nat.le_trans hsz4 (append_size hgrow); clear hown hgrow)
          case c1 =>
            intro j u hj
            match j, hj with
            | 0, hj => simp at hj; subst hj; simp [Addr.add]
          case c2 => intro u hu; simp at hu; subst hu; rfl
          case c3 => have := HL.out; unfold maxLen; omega
          case c4 => have := HL.out; omega
          case c5 => first | omega | (simp; omega)
          go_roundw
          case rel =>
            refine ⟨j + 1, l ++ [bits .or .i64 (wrap64 (2 ^ r3.toNat)) (wrap64 (8 * 2 ^ r4.toNat))], .slice (some ⟨gq, 0, none⟩) (l.length + 1) cq, by omega, by have := HL.out; show _ = _; simp; omega, by go_num, HM.out.add hm2, only_far HG9.out _ _ (by show _ ≤ w.heap.size + 1; omega), (HS9.out.far _ _ (by show g < w.heap.size + 1; omega)).more (by omega), ?_, ?_, ?_, ⟨u4, ?_⟩, ?_, ?_⟩
            · simpa [World.setCell] using hsz9
            · simp [go_sem, cv9]
            · simp [go_sem, fv9]
            · simp [go_sem, c49]
            · simp [go_sem, f49]
            · have := own_far HO9.out ⟨w.heap.size + 1, 0, none⟩ (.slice (some ⟨gq, 0, none⟩) (l.length + 1) cq) (by show w.heap.size + 1 < _; omega)
              simpa [Hid] using this
          case measure => simp [intOf]; omega
        · by_cases e2 : r2 = 2
          · subst e2
            have HP := Lib.hid (pick_any w2 B g (k0 + 8 * j + 2 + 2) 4096 HS2.out (by omega) (by omega) (by omega))
            go_wp2_with fail
            refine HP.out.mono ?_
            rintro e w3 ⟨r3, rfl, hr4, hr5, hg, hs⟩
            have HG3 := Lib.hid (only_step HG2.out hg)
            have HO3 := Lib.hid (own_only HO2.out hg (by omega))
            have HS3 := Lib.hid hs
            have cv3 := cell_only hg cv2 (by show w.heap.size + 1 ≠ g; omega)
            have fv3 := frozen_only hg cv2 fv2 (by show w.heap.size + 1 ≠ g; omega)
            have c43 := cell_only hg c42 (by show w.heap.size ≠ g; omega)
            have f43 := frozen_only hg c42 f42 (by show w.heap.size ≠ g; omega)
            have hsz3 : w.heap.size + 2 ≤ w3.heap.size := Nat.le_trans hsz2 hg.size
            clear hg hs HP HG2 HO2 HS2 fv2 cv2 f42 c42 hsz2
            go_wp2_with (at_builtin; refine wpList_append_own _ rfl _ _ 24 rfl (w.heap.size + 2) 2 i0 (.int .i64 0) 1 8 Try.underlying24 hi0 hz0 hz1 hz2 rfl (by decide) _ _ _ rfl (HO3.out.alloc _) ⟨w3.heap.size, 0, none⟩ 1 1 [.int .i64 (r3)] rfl rfl ?c1 ?c2 ?c3 ?c4 ?c5 ?_; rotate_left 5; intro v' w9 hown hgrow _; obtain ⟨gq, cq, rfl⟩ := int_shape hown (Nat.succ_pos _); have HG9 := Lib.hid (only_append HG3.out hgrow HO3.out (by omega)); have HS9 := Lib.hid (HS3.out.keep (fun i hi => append_block hgrow HO3.out (by omega) (by omega))); have cv9 := cell_block (append_block hgrow HO3.out (i := w.heap.size + 1) (by omega) (by omega)) cv3; have fv9 := frozen_block (append_block hgrow HO3.out (i := w.heap.size + 1) (by omega) (by omega)) fv3; have c49 := cell_block (append_block hgrow HO3.out (i := w.heap.size) (by omega) (by omega)) c43; have f49 := frozen_block (append_block hgrow HO3.out (i := w.heap.size) (by omega) (by omega)) f43; have HO9 := Lib.hid hown; have hsz9 := Nat.le_trans hsz3 (append_size hgrow); clear hown hgrow)
            case c1 =>
              intro j u hj
              match j, hj with
              | 0, hj => simp at hj; subst hj; simp [Addr.add]
            case c2 => intro u hu; simp at hu; subst hu; rfl
            case c3 => have := HL.out; unfold maxLen; omega
            case c4 => have := HL.out; omega
            case c5 => first | omega | (simp; omega)
            go_roundw
            case rel =>
              refine ⟨j + 1, l ++ [r3], .slice (some ⟨gq, 0, none⟩) (l.length + 1) cq, by omega, by have := HL.out; show _ = _; simp; omega, by go_num, HM.out.add ⟨by omega, by omega⟩, only_far HG9.out _ _ (by show _ ≤ w.heap.size + 1; omega), (HS9.out.far _ _ (by show g < w.heap.size + 1; omega)).more (by omega), ?_, ?_, ?_, ⟨u4, ?_⟩, ?_, ?_⟩
              · simpa [World.setCell] using hsz9
              · simp [go_sem, cv9]
              · simp [go_sem, fv9]
              · simp [go_sem, c49]
              · simp [go_sem, f49]
              · have := own_far HO9.out ⟨w.heap.size + 1, 0, none⟩ (.slice (some ⟨gq, 0, none⟩) (l.length + 1) cq) (by show w.heap.size + 1 < _; omega)
                simpa [Hid] using this
            case measure => simp [intOf]; omega
          · have e0' : ¬ r2 = 0 := e0
            go_wp2_with (at_builtin; refine wpList_append_own _ rfl _ _ 24 rfl (w.heap.size + 2) 2 i0 (.int .i64 0) 1 8 Try.underlying24 hi0 hz0 hz1 hz2 rfl (by decide) _ _ _ rfl (HO2.out.alloc _) ⟨w2.heap.size, 0, none⟩ 1 1 [.int .i64 (m1)] rfl rfl ?c1 ?c2 ?c3 ?c4 ?c5 ?_; rotate_left 5; intro v' w9 hown hgrow _; obtain ⟨gq, cq, rfl⟩ := int_shape hown (Nat.succ_pos _); have HG9 := Lib.hid (only_append HG2.out hgrow HO2.out (by omega)); have HS9 := Lib.hid (HS2.out.keep (fun i hi => append_block hgrow HO2.out (by omega) (by omega))); have cv9 := cell_block (append_block hgrow HO2.out (i := w.heap.size + 1) (by omega) (by omega)) cv2; have fv9 := frozen_block (append_block hgrow HO2.out (i := w.heap.size + 1) (by omega) (by omega)) fv2; have c49 := cell_block (append_block hgrow HO2.out (i := w.heap.size) (by omega) (by omega)) c42; have f49 := frozen_block (append_block hgrow HO2.out (i := w.heap.size) (by omega) (by omega)) f42; have HO9 := Lib.hid hown; have hsz9 := Nat.le_trans hsz2 (append_size hgrow); clear hown hgrow)
            case c1 =>
              intro j u hj
              match j, hj with
              | 0, hj => simp at hj; subst hj; simp [Addr.add]
            case c2 => intro u hu; simp at hu; subst hu; rfl
            case c3 => have := HL.out; unfold maxLen; omega
            case c4 => have := HL.out; omega
            case c5 => first | omega | (simp; omega)
            go_roundw
            case rel =>
              refine ⟨j + 1, l ++ [m1], .slice (some ⟨gq, 0, none⟩) (l.length + 1) cq, by omega, by have := HL.out; show _ = _; simp; omega, by go_num, HM.out.add hm1, only_far HG9.out _ _ (by show _ ≤ w.heap.size + 1; omega), (HS9.out.far _ _ (by show g < w.heap.size + 1; omega)).more (by omega), ?_, ?_, ?_, ⟨u4, ?_⟩, ?_, ?_⟩
              · simpa [World.setCell] using hsz9
              · simp [go_sem, cv9]
              · simp [go_sem, fv9]
              · simp [go_sem, c49]
              · simp [go_sem, f49]
              · have := own_far HO9.out ⟨w.heap.size + 1, 0, none⟩ (.slice (some ⟨gq, 0, none⟩) (l.length + 1) cq) (by show w.heap.size + 1 < _; omega)
                simpa [Hid] using this
            case measure => simp [intOf]; omega
    · have hjn : j = n := by omega
      have hk1 : ¬ (j : Int) < (n : Int) := by omega
      obtain ⟨gq, cq, rfl⟩ := int_shape HO.out (by have := HL.out; omega)
      have HD : Hid (Draws n B g (k0 + 8 * n) w (.returned (.agg #[.slice (some ⟨gq, 0, none⟩) l.length cq])) (wr.setCell ⟨w.heap.size, 0, none⟩ (.slice (some ⟨gq, 0, none⟩) l.length cq))) := draws_of (HL.out.trans hjn) h1 HM.out (only_far HG.out _ _ (by show _ ≤ w.heap.size; omega)) ((HS.out.far _ _ (by show g < w.heap.size; omega)).more (by omega)) (own_far HO.out _ _ (by show w.heap.size < _; omega))
      clear hjn
      have hc4 : (wr.setCell ⟨w.heap.size, 0, none⟩ (.slice (some ⟨gq, 0, none⟩) l.length cq)).cell? ⟨w.heap.size, 0, none⟩ = some (.slice (some ⟨gq, 0, none⟩) l.length cq) := cell_put c4 _
      go_wp2
      exact bodyPost_ret (v := .agg #[.slice (some ⟨gq, 0, none⟩) l.length cq]) (by simp [results, Try.results51, go_sem, hc4]) rfl HD.out

theorem l00From_any (A : Option Addr) (n c B : Nat) (w : World) (h : BytesAt w B A n) (hB : B ≤ w.heap.size) (hn : n ≤ 4096) :
    Calls Try.prog 50 #[.slice A n c] w fun e w' => e = .returned (.pointer (some ⟨w.heap.size, 0, none⟩)) ∧ Below w.heap.size w w' ∧ Src w' B w.heap.size 0 := by
  have H := Lib.hid h
  clear h
  go_enter Try.func50, Try.ntmps50
  go_wp2
  go_ret
  refine ⟨rfl, below_box w _, A, n, c, 0, 0, H.out.below ((below_box w _).mono hB), hB, hn, Nat.le_refl _, by omega, by omega, ?_⟩
  exact heap_alloc_new w _

/-- A card that was drawn. -/
def Drawn (w : World) (e : Ending) (w' : World) : Prop :=
  ∃ gr cap l ex, e = .returned (.agg #[.slice (some ⟨gr, 0, none⟩) l.length cap]) ∧ 1 ≤ l.length ∧ l.length ≤ 6 ∧ l.length ≤ cap ∧ cap ≤ maxLen ∧ maskOk l ∧ w.heap.size ≤ gr ∧ Below w.heap.size w w' ∧ Row w' gr l ex

set_option maxHeartbeats 2000000 in
theorem A2Card_any (A : Option Addr) (n c B : Nat) (w : World) (h : BytesAt w B A n) (hB : B ≤ w.heap.size) (hn : n ≤ 3000) :
    Calls Try.prog 8 #[.slice A n c] w (Drawn w) := by
  have HC := Lib.hid (l00From_any A n c B (w.alloc (.cells #[.slice none 0 0] 26)) (h.below ((below_box w _).mono hB)) (by simp; omega) (by omega))
  clear h
  have f0 : (w.alloc (.cells #[.slice none 0 0] 26)).frozen? ⟨w.heap.size, 0, none⟩ = false := by simp [go_sem]
  have c0 : (w.alloc (.cells #[.slice none 0 0] 26)).cell? ⟨w.heap.size, 0, none⟩ = some (.slice none 0 0) := by simp [go_sem]
  have B0 := Lib.hid (below_box w (.cells #[.slice none 0 0] 26))
  go_enter Try.func8, Try.ntmps8
  go_wp2_with fail
  refine HC.out.mono ?_
  rintro e w1 ⟨rfl, hb, hs⟩
  have B1 := Lib.hid (below_step B0.out hb)
  have c1 := cell_kept c0 hb
  have f1 := (frozen_block (hb.block w.heap.size (by simp)) f0 : w1.frozen? ⟨w.heap.size, 0, none⟩ = false)
  have s1 := hb.size
  have es : (w.alloc (.cells #[.slice none 0 0] 26)).heap.size = w.heap.size + 1 := by simp
  have hlt1 := hs.lt
  rw [es] at s1 hs hlt1
  have HP := Lib.hid (pick_any w1 B (w.heap.size + 1) 0 6 hs (by omega) (by omega) (by omega))
  clear hb hs HC c0 f0 B0
  go_wp2_with fail
  refine HP.out.mono ?_
  rintro e w2 ⟨r, rfl, hr0, hr1, hg, hs⟩
  obtain ⟨m, hm⟩ : ∃ m : Nat, r = m := ⟨r.toNat, by omega⟩
  subst hm
  have HD := Lib.hid (l02Draw_any (1 + m) B (w.heap.size + 1) (0 + 2) w2 hs (by omega) (by omega) (by omega))
  rw [show ((1 + m : Nat) : Int) = 1 + (m : Int) by omega] at HD
  have B2 := Lib.hid (below_only B1.out hg (by omega))
  have c2 := cell_only hg c1 (by show w.heap.size ≠ w.heap.size + 1; omega)
  have f2 := frozen_only hg c1 f1 (by show w.heap.size ≠ w.heap.size + 1; omega)
  have s2 : w.heap.size + 1 + 1 ≤ w2.heap.size := Nat.le_trans hlt1 hg.size
  clear hg hs HP B1 c1 f1
  go_wp2_with fail
  refine HD.out.mono ?_
  rintro e w3 ⟨gr, cap, l, ex, rfl, hl, hc, hcm, hok, hgr, hg, hs, hrow⟩
  have B3 := Lib.hid (below_only B2.out hg (by omega))
  have c3 := cell_only hg c2 (by show w.heap.size ≠ w.heap.size + 1; omega)
  have f3 := frozen_only hg c2 f2 (by show w.heap.size ≠ w.heap.size + 1; omega)
  have HR := Lib.hid (hrow.far (p := ⟨w.heap.size, 0, none⟩) (by show gr ≠ w.heap.size; omega) (.slice (some ⟨gr, 0, none⟩) l.length cap))
  have HD2 : Hid (Drawn w (.returned (.agg #[.slice (some ⟨gr, 0, none⟩) l.length cap])) (w3.setCell ⟨w.heap.size, 0, none⟩ (.slice (some ⟨gr, 0, none⟩) l.length cap))) :=
    ⟨gr, cap, l, ex, rfl, by omega, by omega, hc, hcm, hok, by omega, B3.out.setCell (Nat.le_refl _) _, HR.out⟩
  have c4 := cell_put c3 (.slice (some ⟨gr, 0, none⟩) l.length cap)
  clear hg hs hrow HD B2 c2 f2 hl hc hcm hok HR B3
  go_wp2
  exact bodyPost_ret (v := .agg #[.slice (some ⟨gr, 0, none⟩) l.length cap]) (by simp [results, Try.results8, go_sem, c4]) rfl HD2.out

end Go.Proofs.Ytjfogadcedgndaa
