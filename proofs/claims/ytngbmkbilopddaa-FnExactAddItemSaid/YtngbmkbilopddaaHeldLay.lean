/- The laws' helpers that look for marks in the items of a layout find those that were written: contracts of laws.heldItemS and heldLayout, for at most 1048576 items; and what a statement leaves that puts a function's layout and code into two variables. -/
import Derived.Test.YtngbmkbilopddaaMarkLay
import Derived.Test.YtngbmkbilopddaaAdd
namespace Go.Proofs.Ytngbmkbilopddaa
open Go.ChangeShapes Go.WideShapes Go.ChangeAt Go.RowKit

set_option maxHeartbeats 1000000 in
theorem heldItems_any (g c n : Nat) (ex : List Value) (k : Nat) (w : World) (h : IRow w g (mitems k n) ex) (h0 : 1 ≤ k) (h1 : k ≤ 1073741824) (hn : n ≤ 1048576) :
    Calls Try.prog 40 #[.slice (some ⟨g, 0, none⟩) n c, .int .i64 k] w fun e w' => e = .returned (.int .i64 ((k : Int) + n * 4)) ∧ Below w.heap.size w w' := by
  have H := Lib.hid h
  clear h
  go_enter Try.func40, Try.ntmps40
  go_wp2
  go_loopw [1, 5] (fun kk i wr => ∃ j q : Nat, j ≤ n ∧ i = .int .i64 j ∧ kk = .int .i64 q ∧ Hid (q = k + j * 4) ∧ Hid (Below w.heap.size w wr)) (fun _ i _ => n - (intOf i).toNat)
  case atStart => exact ⟨0, k, Nat.zero_le _, rfl, rfl, rfl, Below.refl _ _⟩
  case round =>
    obtain ⟨j, q, hj, rfl, rfl, HQ, HB⟩ := hrel
    have hq1 : 1 ≤ q := by have := HQ.out; omega
    have hq2 : q ≤ 1099511627776 := by have := HQ.out; omega
    by_cases hlt : j < n
    · have HR := Lib.hid (H.out.later HB.out)
      have hu := mitems_get k n j hlt
      rw [← HQ.out] at hu
      obtain ⟨g0, g1, g2, g3⟩ := itCells_get _ _ _ hu
      have x0 := HR.out.cell g0
      have x1 := HR.out.cell g1
      have x2 := HR.out.cell g2
      have x3 := HR.out.cell g3
      have HC := Lib.hid (markText_any q wr.drew hq1 hq2)
      simp only [mitem] at x0 x1 x2 x3
      have hk0 : (0 : Int) ≤ (j : Int) := Int.natCast_nonneg _
      have hk1 : (j : Int) < (n : Int) := by omega
      obtain ⟨s, hs⟩ : ∃ s, mtext q = s := ⟨_, rfl⟩
      rw [hs] at x0 HC
      clear H hs hu g0 g1 g2 g3 HR
      go_wp2
      go_region_held3 (fun W => W.cell? ⟨g, j * 4, none⟩ = some (.string s))
        (first | exact x0 | exact y0)
        (first
          | (go_at_call 65
             refine HC.out.mono ?_
             rintro e2 w2 ⟨rfl, hb2⟩
             have HB2 := Lib.hid (below_step HB.out.drew hb2)
             have y0 := cell_kept (w := wr.drew) x0 hb2
             have y1 := cell_kept (w := wr.drew) x1 hb2
             have y2 := cell_kept (w := wr.drew) x2 hb2
             have y3 := cell_kept (w := wr.drew) x3 hb2
             clear hb2))
      clear x0 x1 x2 x3
      go_wp2
      go_roundw
      case rel => exact ⟨j + 1, q + 4, by omega, by go_num, by go_num, by have := HQ.out; show _ = _; omega, HB2.out⟩
      case measure => simp [intOf]; omega
    · have HQ2 : Hid ((q : Int) = k + n * 4) := by have := HQ.out; show _ = _; omega
      have hk1 : ¬ (j : Int) < (n : Int) := by omega
      clear H
      go_wp2
      go_ret
      have hq := HQ2.out
      refine ⟨?_, HB.out⟩
      rw [← hq]
      rfl

theorem heldLayout_any (g c n : Nat) (u : Int) (ex : List Value) (k : Nat) (w : World) (h : IRow w g (mitems k n) ex) (h0 : 1 ≤ k) (h1 : k ≤ 1073741824) (hn : n ≤ 1048576) :
    Calls Try.prog 13 #[.agg #[.int .i64 u, .slice (some ⟨g, 0, none⟩) n c], .int .i64 k] w fun e w' => e = .returned (.int .i64 ((k : Int) + n * 4)) ∧ Below w.heap.size w w' := by
  have HC := Lib.hid (heldItems_any g c n ex k _ (h.alloc (.cells #[.int .i64 u, .slice (some ⟨g, 0, none⟩) n c] 33)) h0 h1 hn)
  have hk : ¬ ((k : Int) + n * 4) < 0 := by omega
  obtain ⟨q, hq⟩ : ∃ q : Int, (k : Int) + n * 4 = q := ⟨_, rfl⟩
  rw [hq] at HC hk ⊢
  clear h hq
  go_enter Try.func13, Try.ntmps13
  go_wp2_with fail
  refine HC.out.mono ?_
  rintro e w' ⟨rfl, hb⟩
  have HB := Lib.hid (below_step (below_box w _) hb)
  clear hb
  go_wp2
  go_ret
  exact ⟨rfl, HB.out⟩

theorem heldItems_nil (A : Option Addr) (c : Nat) (k : Int) (w : World) :
    Calls Try.prog 40 #[.slice A 0 c, .int .i64 k] w fun e w' => e = .returned (.int .i64 k) ∧ Below w.heap.size w w' := by
  go_enter Try.func40, Try.ntmps40
  go_wp2
  go_loop [1, 5] (fun kk i => i = .int .i64 0 ∧ kk = .int .i64 k) (fun _ _ => 0)
  case atStart => exact ⟨rfl, rfl⟩
  case round =>
    obtain ⟨rfl, rfl⟩ := hrel
    go_wp2
    go_ret
    exact ⟨rfl, Below.refl _ _⟩

theorem heldLayout_nil (A : Option Addr) (c : Nat) (u : Int) (k : Int) (w : World) (hk : ¬ k < 0) :
    Calls Try.prog 13 #[.agg #[.int .i64 u, .slice A 0 c], .int .i64 k] w fun e w' => e = .returned (.int .i64 k) ∧ Below w.heap.size w w' := by
  have HC := Lib.hid (fun W => heldItems_nil A c k W)
  go_enter Try.func13, Try.ntmps13
  go_wp2_with fail
  refine (HC.out _).mono ?_
  rintro e w1 ⟨rfl, hb⟩
  have HB := Lib.hid (below_step (below_box w _) hb)
  clear hb
  go_wp2
  go_ret
  exact ⟨rfl, HB.out⟩

/-- A box with a layout whose items lie in new memory, and OK. -/
def BoxedLay (W : World) (u : Int) (ys : List It) (s t : Value) (wx : World) : Prop :=
  ∃ b g c ex, s = .pointer (some ⟨b, 0, none⟩) ∧ t = .int .i64 0 ∧ Below W.heap.size W wx ∧ W.heap.size ≤ b ∧ W.heap.size ≤ g ∧ b ≠ g ∧ wx.cell? ⟨b, 0, none⟩ = some (.int .i64 u) ∧ wx.cell? ⟨b, 1, none⟩ = some (.slice (some ⟨g, 0, none⟩) ys.length c) ∧ IRow wx g ys ex
/-- A box with no layout, and a code. -/
def BoxedNoLay (W : World) (a : Int) (s t : Value) (wx : World) : Prop :=
  ∃ b, s = .pointer (some ⟨b, 0, none⟩) ∧ t = .int .i64 a ∧ Below W.heap.size W wx ∧ W.heap.size ≤ b ∧ wx.cell? ⟨b, 0, none⟩ = some (.int .i64 0) ∧ wx.cell? ⟨b, 1, none⟩ = some (.slice none 0 0)
/-- the box of a variable for a layout -/
def LBox (w : World) (b : Nat) : Prop := w.cell? ⟨b, 0, none⟩ = some (.int .i64 0) ∧ w.cell? ⟨b, 1, none⟩ = some (.slice none 0 0) ∧ ∀ j, w.frozen? ⟨b, j, none⟩ = false
theorem lbox_new (w : World) : LBox (w.alloc (.cells #[.int .i64 0, .slice none 0 0] 33)) w.heap.size := ⟨by simp [go_sem], by simp [go_sem], fun j => by simp [go_sem]⟩
theorem lbox_kept {w w' : World} {b : Nat} (h : LBox w b) (hb : Below w.heap.size w w') : LBox w' b :=
  ⟨cell_kept h.1 hb, cell_kept h.2.1 hb, fun j => (hb.frozen (p := ⟨b, j, none⟩) (show b < w.heap.size from World.block_lt_of_cell? _ ⟨b, 0, none⟩ h.1)).trans (h.2.2 j)⟩
theorem lbox_0 {w : World} {b : Nat} (h : LBox w b) : w.cell? ⟨b, 0, none⟩ = some (.int .i64 0) := h.1
theorem lbox_1 {w : World} {b : Nat} (h : LBox w b) : w.cell? ⟨b, 1, none⟩ = some (.slice none 0 0) := h.2.1
theorem lbox_f {w : World} {b : Nat} (h : LBox w b) : ∀ j, w.frozen? ⟨b, j, none⟩ = false := h.2.2
theorem lbox_lt {w : World} {b : Nat} (h : LBox w b) : b < w.heap.size := World.block_lt_of_cell? _ _ h.1
theorem l_below_drew {w W : World} (h : Below w.heap.size w W) : Below w.heap.size w W.drew := h.drew
theorem l_below_boxed {w W : World} (h : Below w.heap.size w W) (o : Obj) : Below w.heap.size w (W.alloc o) := h.alloc h.size o
theorem l_below_stored {w W : World} (h : Below w.heap.size w W) {b : Nat} (hp : w.heap.size ≤ b) {u v : Value} : Below w.heap.size w ((W.setCell ⟨b, 0, none⟩ u).setCell ⟨b, 1, none⟩ v) := (h.setCell hp u).setCell hp v
section
variable {W w : World} {u : Int} {ys : List It} {g c b : Nat} {ex : List Value} {a : Int}
theorem boxedLay_last (h : Below W.heap.size W w) (hr : IRow w g ys ex) (hg : W.heap.size ≤ g) :
    BoxedLay W u ys (.pointer (some ⟨w.heap.size, 0, none⟩)) (.int .i64 0) (w.alloc (.cells #[.int .i64 u, .slice (some ⟨g, 0, none⟩) ys.length c] 33)) :=
  ⟨w.heap.size, g, c, ex, rfl, rfl, l_below_boxed h _, h.size, hg, Nat.ne_of_gt hr.lt, by simp [go_sem], by simp [go_sem], hr.alloc _⟩
theorem boxedLay_early (h : Below W.heap.size W w) (hr : IRow w g ys ex) (hb : W.heap.size ≤ b) (hQ : LBox w b) (hlt : b < g) (hg : W.heap.size ≤ g) :
    BoxedLay W u ys (.pointer (some ⟨b, 0, none⟩)) (.int .i64 0) ((w.setCell ⟨b, 0, none⟩ (.int .i64 u)).setCell ⟨b, 1, none⟩ (.slice (some ⟨g, 0, none⟩) ys.length c)) :=
  ⟨b, g, c, ex, rfl, rfl, l_below_stored h hb, hb, hg, Nat.ne_of_lt hlt, by simp [go_sem, hQ.1, hQ.2.1], by simp [go_sem, hQ.1, hQ.2.1], (hr.far (Nat.ne_of_gt hlt) _).far (Nat.ne_of_gt hlt) _⟩
theorem boxedNoLay_last (h : Below W.heap.size W w) : BoxedNoLay W a (.pointer (some ⟨w.heap.size, 0, none⟩)) (.int .i64 a) (w.alloc (.cells #[.int .i64 0, .slice none 0 0] 33)) :=
  ⟨w.heap.size, rfl, rfl, l_below_boxed h _, h.size, by simp [go_sem], by simp [go_sem]⟩
theorem boxedNoLay_early (h : Below W.heap.size W w) (hb : W.heap.size ≤ b) (hQ : LBox w b) :
    BoxedNoLay W a (.pointer (some ⟨b, 0, none⟩)) (.int .i64 a) ((w.setCell ⟨b, 0, none⟩ (.int .i64 0)).setCell ⟨b, 1, none⟩ (.slice none 0 0)) :=
  ⟨b, rfl, rfl, l_below_stored h hb, hb, by simp [go_sem, hQ.1, hQ.2.1], by simp [go_sem, hQ.1, hQ.2.1]⟩
end
end Go.Proofs.Ytngbmkbilopddaa
