/- What an append to a list of numbers of the call's own leaves: lemmas on memory. No function of the program is spoken of. -/
import Derived.Test.YtdakbbgbglgioaaDoorM1
import Derived.Maps.AppendAt
import Derived.Deep.AppendLies
import Derived.OwnWalk
import Derived.Laws.AppendOwn
import Derived.Outline
import Derived.Deep.RegionLaw
namespace Go.Proofs.YtdakbbgbglgioaaDoor
open Go.ChangeShapes Go.WideShapes Go.ChangeAt Go.RowKit

theorem info_int : (Tryd.prog.info? 2).map (fun i => (i.zero, i.size, i.bytes)) = some (some (.int .i64 0), 1, 8) := by kernel_rfl

theorem own_moved {w w' : World} {base n size : Nat} {e : TypeId} {v : Value} {xs : List Value} (h : w.ownsRow base e size v n xs) (hk : ∀ i, base ≤ i → i < w.heap.size → w'.heap[i]? = w.heap[i]?) : w'.ownsRow base e size v n xs := by
  refine ⟨h.1, ?_⟩
  rcases h.2 with h0 | ⟨g, cap, cur, hv, hb, hh, rest⟩
  · exact Or.inl h0
  · refine Or.inr ⟨g, cap, cur, hv, hb, ?_, rest⟩
    rw [hk g hb ?_]
    · exact hh
    · rcases Nat.lt_or_ge g w.heap.size with hlt | hge
      · exact hlt
      · rw [Array.getElem?_eq_none hge] at hh
        cases hh
theorem own_only {w w' : World} {base n size g : Nat} {e : TypeId} {v : Value} {xs : List Value} (h : w.ownsRow base e size v n xs) (hg : w.grownBy w' (some g)) (hlt : g < base) : w'.ownsRow base e size v n xs :=
  own_moved h fun i hi hiw => hg.block i hiw (fun e => by injection e with e; omega)
theorem own_far {w : World} {base n size : Nat} {e : TypeId} {v : Value} {xs : List Value} (h : w.ownsRow base e size v n xs) (p : Addr) (u : Value) (hlt : p.block < base) : (w.setCell p u).ownsRow base e size v n xs :=
  own_moved h fun i hi _ => Below.heap_setCell w p u i (by omega)
theorem frozen_only {w w' : World} {g : Nat} (h : w.grownBy w' (some g)) {p : Addr} {v : Value} (hc : w.cell? p = some v) (f : w.frozen? p = false) (hne : p.block ≠ g) : w'.frozen? p = false := by
  have hb := h.block p.block (World.block_lt_of_cell? _ _ hc) (fun e => hne (by injection e))
  unfold World.frozen? at f ⊢
  rw [hb]
  exact f
/-- What an append to a row above the source leaves. -/
theorem only_append {w0 wr w' : World} {g base n size : Nat} {et : TypeId} {v : Value} {xs : List Value} {o : Obj} (h : w0.grownBy wr (some g)) (hgrow : (wr.alloc o).grownBy w' v.ownBlock) (hown : wr.ownsRow base et size v n xs) (hb : w0.heap.size ≤ base) : w0.grownBy w' (some g) := by
  refine ⟨hgrow.os.trans h.os, hgrow.tape.trans h.tape, hgrow.output.trans h.output, ?_, fun i hi hne => ?_⟩
  · have := hgrow.size
    have := h.size
    simp at *
    omega
  · have h1 : i < wr.heap.size := Nat.lt_of_lt_of_le hi h.size
    rw [hgrow.block i (by simp; omega) (fun e => by have := (hown.lt i e.symm).1; omega), Below.heap_alloc wr o i h1, h.block i hi hne]
theorem append_block {wr w' : World} {base n size : Nat} {et : TypeId} {v : Value} {xs : List Value} {o : Obj} (hgrow : (wr.alloc o).grownBy w' v.ownBlock) (hown : wr.ownsRow base et size v n xs) {i : Nat} (hi : i < wr.heap.size) (hb : i < base) : w'.heap[i]? = wr.heap[i]? := by
  rw [hgrow.block i (by simp; omega) (fun e => by have := (hown.lt i e.symm).1; omega), Below.heap_alloc wr o i hi]
theorem append_size {wr w' : World} {o : Obj} {x : Option Nat} (hgrow : (wr.alloc o).grownBy w' x) : wr.heap.size ≤ w'.heap.size := by
  have := hgrow.size
  simp at this
  omega
theorem int_shape {w : World} {base n size : Nat} {et : TypeId} {v : Value} {xs : List Value} (h : w.ownsRow base et size v n xs) (h0 : 0 < n) : ∃ g cap, v = .slice (some ⟨g, 0, none⟩) n cap := by
  rcases h.2 with ⟨_, hz⟩ | ⟨g, cap, cur, rfl, _⟩
  · omega
  · exact ⟨g, cap, rfl⟩
theorem cell_put {w : World} {p : Addr} {v : Value} (h : w.cell? p = some v) (u : Value) : (w.setCell p u).cell? p = some u :=
  World.cell?_setCell_same w p u h
theorem cell_block {w w' : World} {p : Addr} {v : Value} (h : w'.heap[p.block]? = w.heap[p.block]?) (hc : w.cell? p = some v) : w'.cell? p = some v := by
  rw [World.cell?_of_block h]
  exact hc
theorem frozen_block {w w' : World} {p : Addr} (h : w'.heap[p.block]? = w.heap[p.block]?) (hf : w.frozen? p = false) : w'.frozen? p = false := by
  unfold World.frozen? at hf ⊢
  rw [h]
  exact hf
theorem only_far {w0 w : World} {g : Nat} (h : w0.grownBy w (some g)) (p : Addr) (u : Value) (hp : w0.heap.size ≤ p.block) : w0.grownBy (w.setCell p u) (some g) :=
  ⟨h.os, h.tape, h.output, by simpa [World.setCell] using h.size, fun i hi hne => (Below.heap_setCell w p u i (by omega)).trans (h.block i hi hne)⟩

theorem one_news (W : World) (x : Int) : ∀ j u, [Value.int .i64 x][j]? = some u → (W.alloc (.cells #[.int .i64 x] 2)).cell? ((⟨W.heap.size, 0, none⟩ : Addr).add j) = some u := by
  intro j u hj
  match j, hj with
  | 0, hj => simp at hj; subst hj; simp [Addr.add]
theorem one_cell (x : Int) : ∀ u ∈ [Value.int .i64 x], u.oneCell' = true := by
  intro u hu
  simp at hu
  subst hu
  rfl

theorem below_append {W w w' : World} {B base n size : Nat} {et : TypeId} {v : Value} {xs : List Value} {o : Obj} (hb : Below B W w) (hgrow : (w.alloc o).grownBy w' v.ownBlock) (hown : w.ownsRow base et size v n xs) (hs : B ≤ w.heap.size) (hB : B ≤ base) : Below B W w' :=
  (hb.alloc hs _).grown hgrow (by simp; omega) (fun k hk => Nat.le_trans hB (hown.lt k hk).1)
theorem own_drew {w : World} {base n size : Nat} {et : TypeId} {v : Value} {xs : List Value} (h : w.ownsRow base et size v n xs) : w.drew.ownsRow base et size v n xs := h
end Go.Proofs.YtdakbbgbglgioaaDoor

/- What spec.l02Draw and spec.A2Card give: a card of masks from 0 to 4095, in memory of its own; nothing but the source's block turns. Condition: at most 3000 bytes, at most 64 columns. -/
namespace Go.Proofs.YtdakbbgbglgioaaDoor
open Go.ChangeShapes Go.WideShapes Go.ChangeAt Go.RowKit

theorem Src.keep {w w' : World} {B g k : Nat} (h : Src w B g k) (hk : ∀ i, i ≤ g → w'.heap[i]? = w.heap[i]?) : Src w' B g k := by
  obtain ⟨A, n, c, j, s, h1, h2, h3, h4, h5, h6, h7⟩ := h
  exact ⟨A, n, c, j, s, h1.moved (fun p hp => World.cell?_of_block (hk p.block (by omega))), h2, h3, h4, h5, h6, (hk g (Nat.le_refl _)).trans h7⟩
theorem Src.far {w : World} {B g k : Nat} (h : Src w B g k) (p : Addr) (u : Value) (hp : g < p.block) : Src (w.setCell p u) B g k :=
  h.keep fun i hi => Below.heap_setCell w p u i (by omega)
theorem Src.boxed {w : World} {B g k : Nat} (h : Src w B g k) (o : Obj) : Src (w.alloc o) B g k := h.below (below_box w o)

def maskOk (l : List Int) : Prop := ∀ x ∈ l, 0 ≤ x ∧ x ≤ 4095
theorem maskOk.add {l : List Int} (h : maskOk l) {m : Int} (hm : 0 ≤ m ∧ m ≤ 4095) : maskOk (l ++ [m]) := by
  intro x hx
  rcases List.mem_append.1 hx with h' | h'
  · exact h x h'
  · rw [List.mem_singleton.1 h']
    exact hm
def bitsB : Bool := (List.range 10).all fun a => decide (0 ≤ wrap64 (4 * 2 ^ a)) && decide (wrap64 (4 * 2 ^ a) ≤ 4095)
def pairB : Bool := (List.range 3).all fun a => (List.range 9).all fun b => decide (0 ≤ bits .or .i64 (wrap64 (2 ^ a)) (wrap64 (8 * 2 ^ b))) && decide (bits .or .i64 (wrap64 (2 ^ a)) (wrap64 (8 * 2 ^ b)) ≤ 4095)
theorem one_ok (r : Int) (h0 : 0 ≤ r) (h1 : r < 10) : 0 ≤ wrap64 (4 * 2 ^ r.toNat) ∧ wrap64 (4 * 2 ^ r.toNat) ≤ 4095 := by
  have h : bitsB = true := by decide +kernel
  simp only [bitsB, List.all_eq_true, List.mem_range, Bool.and_eq_true, decide_eq_true_eq] at h
  exact h r.toNat (by omega)
theorem pair_ok (r q : Int) (h0 : 0 ≤ r) (h1 : r < 3) (h2 : 0 ≤ q) (h3 : q < 9) : 0 ≤ bits .or .i64 (wrap64 (2 ^ r.toNat)) (wrap64 (8 * 2 ^ q.toNat)) ∧ bits .or .i64 (wrap64 (2 ^ r.toNat)) (wrap64 (8 * 2 ^ q.toNat)) ≤ 4095 := by
  have h : pairB = true := by decide +kernel
  simp only [pairB, List.all_eq_true, List.mem_range, Bool.and_eq_true, decide_eq_true_eq] at h
  exact h r.toNat (by omega) q.toNat (by omega)

/-- What a drawing of n columns leaves. -/
def Draws (n B g K : Nat) (w : World) (e : Ending) (w' : World) : Prop :=
  ∃ gr cap l ex, e = .returned (.agg #[.slice (some ⟨gr, 0, none⟩) l.length cap]) ∧ l.length = n ∧ l.length ≤ cap ∧ cap ≤ maxLen ∧ maskOk l ∧ w.heap.size ≤ gr ∧ w.grownBy w' (some g) ∧ Src w' B g K ∧ Row w' gr l ex

theorem draws_of {n B g K : Nat} {w wr : World} {v : Value} {l : List Int} (hl : l.length = n) (h1 : 1 ≤ n) (hm : maskOk l) (hg : w.grownBy wr (some g)) (hs : Src wr B g K) (ho : wr.ownsRow (w.heap.size + 2) 2 1 v l.length (l.map (Value.int .i64))) :
    Draws n B g K w (.returned (.agg #[v])) wr := by
  rcases ho.2 with ⟨_, h0⟩ | ⟨gr, cap, cur, rfl, hb, hh, hc, hcm, _, ht⟩
  · omega
  · refine ⟨gr, cap, l, cur.toList.drop l.length, rfl, hl, hc, hcm, hm, by omega, hg, hs, ?_⟩
    unfold Row
    rw [hh]
    congr 2
    apply Array.ext'
    rw [← List.take_append_drop l.length cur.toList, ← ht, Nat.mul_one]
    simp

theorem l00From_any (A : Option Addr) (n c B : Nat) (w : World) (h : BytesAt w B A n) (hB : B ≤ w.heap.size) (hn : n ≤ 4096) :
    Calls Tryd.prog 29 #[.slice A n c] w fun e w' => e = .returned (.pointer (some ⟨w.heap.size, 0, none⟩)) ∧ Below w.heap.size w w' ∧ Src w' B w.heap.size 0 := by
  have H := Lib.hid h
  clear h
  go_enter Tryd.func29, Tryd.ntmps29
  go_wp2
  go_ret
  refine ⟨rfl, below_box w _, A, n, c, 0, 0, H.out.below ((below_box w _).mono hB), hB, hn, Nat.le_refl _, by omega, by omega, ?_⟩
  exact heap_alloc_new w _

/-- A card that was drawn. -/
def Drawn (w : World) (e : Ending) (w' : World) : Prop :=
  ∃ gr cap l ex, e = .returned (.agg #[.slice (some ⟨gr, 0, none⟩) l.length cap]) ∧ 1 ≤ l.length ∧ l.length ≤ 6 ∧ l.length ≤ cap ∧ cap ≤ maxLen ∧ maskOk l ∧ w.heap.size ≤ gr ∧ Below w.heap.size w w' ∧ Row w' gr l ex

end Go.Proofs.YtdakbbgbglgioaaDoor

/- What the helpers of the named laws do (laws.a2Long, a2At, a2Width, a2Field): contracts. -/
namespace Go.Proofs.YtdakbbgbglgioaaDoor
open Go.ChangeShapes Go.WideShapes Go.ChangeAt Go.RowKit

theorem a2Long_any (A A' : Option Addr) (n n' c c' : Nat) (w : World) (hn : n ≤ 9223372036854775807) (hn' : n' ≤ 9223372036854775807) :
    Calls Tryd.prog 7 #[.slice A n c, .slice A' n' c'] w fun e w' => e = .returned (.bool (decide (3000 < n) || decide (3000 < n'))) ∧ w = w' := by
  by_cases h : 3000 < n
  · have h1 : (3000 : Int) < (n : Int) := by omega
    go_enter Tryd.func7, Tryd.ntmps7
    go_wp2
    go_ret
    exact ⟨by simp [h], rfl⟩
  · have h1 : ¬ (3000 : Int) < (n : Int) := by omega
    by_cases h' : 3000 < n'
    · have h2 : (3000 : Int) < (n' : Int) := by omega
      go_enter Tryd.func7, Tryd.ntmps7
      go_wp2
      go_ret
      exact ⟨by first | (simp; done) | (simp; omega), rfl⟩
    · have h2 : ¬ (3000 : Int) < (n' : Int) := by omega
      go_enter Tryd.func7, Tryd.ntmps7
      go_wp2
      go_ret
      exact ⟨by first | (simp; done) | (simp; omega), rfl⟩

theorem a2At_any (A : Option Addr) (n c B k : Nat) (m : Int) (w : World) (h : BytesAt w B A n) (hn : n ≤ 3000) (hk : k ≤ 1000) (h1 : 1 ≤ m) (h2 : m ≤ 1048576) :
    Calls Tryd.prog 17 #[.slice A n c, .int .i64 k, .int .i64 m] w fun e w' => ∃ r : Nat, e = .returned (.int .i64 r) ∧ (r : Int) < m ∧ w = w' := by
  by_cases hkn : n ≤ k
  · have hk1 : (n : Int) ≤ (k : Int) := by omega
    clear h
    go_enter Tryd.func17, Tryd.ntmps17
    go_wp2
    go_ret
    exact ⟨0, rfl, by omega, rfl⟩
  · have hk1 : ¬ (n : Int) ≤ (k : Int) := by omega
    have hk2 : (k : Int) < (n : Int) := by omega
    have hk0 : (0 : Int) ≤ (k : Int) := Int.natCast_nonneg _
    have hm1 : ¬ m < 1 := by omega
    have hm0 : m ≠ 0 := by omega
    obtain ⟨b, off, rfl, hb, hc⟩ := h (by omega)
    obtain ⟨u, hu, cu⟩ := hc k (by omega)
    clear h hc
    go_enter Tryd.func17, Tryd.ntmps17
    go_wp2
    go_ret
    have e0 := Int.emod_nonneg (u : Int) hm0
    have e1 := Int.emod_lt_of_pos (u : Int) (show 0 < m by omega)
    exact ⟨((u : Int) % m).toNat, by rw [Int.toNat_of_nonneg e0]; rfl, by rw [Int.toNat_of_nonneg e0]; exact e1, rfl⟩

theorem a2Width_one (b : Nat) (A : Option Addr) (n c : Nat) (w : World) (hc : w.cell? ⟨b, 0, none⟩ = some (.slice A n c)) :
    Calls Tryd.prog 60 #[.slice (some ⟨b, 0, none⟩) 1 1] w fun e w' => e = .returned (.int .i64 n) ∧ w = w' := by
  go_enter Tryd.func60, Tryd.ntmps60
  go_wp2
  go_ret
  exact ⟨rfl, rfl⟩

theorem a2Field_one (b : Nat) (A A' : Option Addr) (n c n' c' B : Nat) (w : World) (hc : w.cell? ⟨b, 0, none⟩ = some (.slice A n c)) (h1 : 1 ≤ n) (hn : n ≤ 1048576) (h : BytesAt w B A' n') (hB : B ≤ w.heap.size) (hn' : n' ≤ 3000) :
    Calls Tryd.prog 25 #[.slice (some ⟨b, 0, none⟩) 1 1, .slice A' n' c'] w fun e w' => ∃ i j : Nat, e = .returned (.agg #[.int .i64 i, .int .i64 j]) ∧ i < j ∧ j ≤ n ∧ Below w.heap.size w w' := by
  have hb := World.block_lt_of_cell? _ _ hc
  have c1 := cell_kept hc (below_box w (.cells #[.int .i64 0, .int .i64 0] 26))
  have f0 : (w.alloc (.cells #[.int .i64 0, .int .i64 0] 26)).frozen? ⟨w.heap.size, 0, none⟩ = false := by simp [go_sem]
  have f1 : (w.alloc (.cells #[.int .i64 0, .int .i64 0] 26)).frozen? ⟨w.heap.size, 1, none⟩ = false := by simp [go_sem]
  have H := Lib.hid (h.below ((below_box w (.cells #[.int .i64 0, .int .i64 0] 26)).mono hB))
  have HW := Lib.hid (a2Width_one b A n c _ c1)
  have HX := Lib.hid (a2At_any A' n' c' B 0 n _ H.out hn' (by omega) (by omega) (by omega))
  clear h hc
  go_enter Tryd.func25, Tryd.ntmps25
  go_wp2_with fail
  refine HW.out.mono ?_
  rintro e w1 ⟨rfl, rfl⟩
  go_wp2_with fail
  refine HX.out.mono ?_
  rintro e w1 ⟨i, rfl, hi, rfl⟩
  have HY := Lib.hid (a2At_any A' n' c' B 1 ((n : Int) - i) _ H.out hn' (by omega) (by omega) (by omega))
  go_wp2_with fail
  refine HY.out.mono ?_
  rintro e w1 ⟨r, rfl, hr, rfl⟩
  go_wp2
  exact bodyPost_ret (v := .agg #[.int .i64 i, .int .i64 ((i : Int) + 1 + r)]) (by simp [results, Tryd.results25, go_sem]) rfl ⟨i, i + 1 + r, by simp, by omega, by omega, below_box w _⟩
end Go.Proofs.YtdakbbgbglgioaaDoor

/- laws.a2Width and laws.a2Field of a list of one card or more: contracts. -/
namespace Go.Proofs.YtdakbbgbglgioaaDoor
open Go.ChangeShapes Go.WideShapes Go.ChangeAt Go.RowKit

theorem a2Width_deck (b N C : Nat) (hN : 1 ≤ N) (A : Option Addr) (n c : Nat) (w : World) (hc : w.cell? ⟨b, 0, none⟩ = some (.slice A n c)) :
    Calls Tryd.prog 60 #[.slice (some ⟨b, 0, none⟩) N C] w fun e w' => e = .returned (.int .i64 n) ∧ w = w' := by
  have hn1 : ¬ (N : Int) = 0 := by omega
  have hn2 : ((N : Int) == 0) = false := by simpa using hn1
  have hn3 : 0 < N := hN
  have hn4 : (0 : Int) < (N : Int) := by omega
  go_enter Tryd.func60, Tryd.ntmps60
  go_wp2
  go_ret
  exact ⟨rfl, rfl⟩

theorem a2Field_deck (b N C : Nat) (hN : 1 ≤ N) (A A' : Option Addr) (n c n' c' B : Nat) (w : World) (hc : w.cell? ⟨b, 0, none⟩ = some (.slice A n c)) (h1 : 1 ≤ n) (hn : n ≤ 1048576) (h : BytesAt w B A' n') (hB : B ≤ w.heap.size) (hn' : n' ≤ 3000) :
    Calls Tryd.prog 25 #[.slice (some ⟨b, 0, none⟩) N C, .slice A' n' c'] w fun e w' => ∃ i j : Nat, e = .returned (.agg #[.int .i64 i, .int .i64 j]) ∧ i < j ∧ j ≤ n ∧ Below w.heap.size w w' := by
  have hb := World.block_lt_of_cell? _ _ hc
  have c1 := cell_kept hc (below_box w (.cells #[.int .i64 0, .int .i64 0] 26))
  have f0 : (w.alloc (.cells #[.int .i64 0, .int .i64 0] 26)).frozen? ⟨w.heap.size, 0, none⟩ = false := by simp [go_sem]
  have f1 : (w.alloc (.cells #[.int .i64 0, .int .i64 0] 26)).frozen? ⟨w.heap.size, 1, none⟩ = false := by simp [go_sem]
  have H := Lib.hid (h.below ((below_box w (.cells #[.int .i64 0, .int .i64 0] 26)).mono hB))
  have HW := Lib.hid (a2Width_deck b N C hN A n c _ c1)
  have HX := Lib.hid (a2At_any A' n' c' B 0 n _ H.out hn' (by omega) (by omega) (by omega))
  clear h hc
  go_enter Tryd.func25, Tryd.ntmps25
  go_wp2_with fail
  refine HW.out.mono ?_
  rintro e w1 ⟨rfl, rfl⟩
  go_wp2_with fail
  refine HX.out.mono ?_
  rintro e w1 ⟨i, rfl, hi, rfl⟩
  have HY := Lib.hid (a2At_any A' n' c' B 1 ((n : Int) - i) _ H.out hn' (by omega) (by omega) (by omega))
  go_wp2_with fail
  refine HY.out.mono ?_
  rintro e w1 ⟨r, rfl, hr, rfl⟩
  go_wp2
  exact bodyPost_ret (v := .agg #[.int .i64 i, .int .i64 ((i : Int) + 1 + r)]) (by simp [results, Tryd.results25, go_sem]) rfl ⟨i, i + 1 + r, by simp, by omega, by omega, below_box w _⟩
end Go.Proofs.YtdakbbgbglgioaaDoor

/- An append to a list of the call's own, as a step of a region that draws its order. -/
namespace Go.Proofs.YtdakbbgbglgioaaDoor
open Go.ChangeShapes Go.WideShapes Go.ChangeAt Go.RowKit

theorem step_append_own {P : Program} (w : World) {ops : Array Oper} {o : Oper} {a : Act} {K : Act → World → Prop} {Q : Exit → Act → World → Prop} {E : Prop} (hgd : o.guard = none) (s x : Operand) (t : TypeId)
    (ho : o.op = .call { callee := .builtin .append, args := #[s, x], argTypes := #[t, t] })
    (base : Nat) (e : TypeId) (i : TypeInfo) (z : Value) (size bytes : Nat) (ht : P.underlying t = some (.slice e)) (hi : P.info? e = some i) (hz : i.zero = some z)
    (hsize : i.size = size) (hby : i.bytes = bytes) (hzs : z.cells.size = size) (hsz : 0 < size)
    (v : Value) (n : Nat) (xs : List Value) (hs : a.eval s = v) (hown : w.ownsRow base e size v n xs)
    (ad : Addr) (m c : Nat) (news : List Value) (hx : a.eval x = .slice (some ad) m c) (hl : news.length = m * size) (hnews : ∀ j u, news[j]? = some u → w.cell? (ad.add j) = some u) (h1 : ∀ u ∈ news, u.oneCell' = true)
    (h63 : n + m ≤ maxLen) (hbytes : (n + m) * bytes ≤ 140737488355328) (hbase : base ≤ w.heap.size)
    (h : ∀ v' w', w'.ownsRow base e size v' (n + m) (xs ++ news) → w.grownBy w' v.ownBlock → (v' = .slice none 0 0 ↔ v = .slice none 0 0 ∧ m = 0) → K (a.put o.dst v') w') :
    if Region.wanted o (yielded ops a.tmps) = true then Oper.wp P o a w K Q else E := by
  have hw : Region.wanted o (yielded ops a.tmps) = true := by simp [Region.wanted, hgd]
  rw [if_pos hw]
  exact wp_append_own w s x t ho base e i z size bytes ht hi hz hsize hby hzs hsz v n xs hs hown ad m c news hx hl hnews h1 h63 hbytes hbase h
end Go.Proofs.YtdakbbgbglgioaaDoor
