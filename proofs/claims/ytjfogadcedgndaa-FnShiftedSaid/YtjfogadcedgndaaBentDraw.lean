/- What spec.l03Draw gives: a card of so many columns in memory of its own; nothing but the source's block turns, and new blocks. -/
import Derived.Test.YtjfogadcedgndaaDrawCard
namespace Go.Proofs.Ytjfogadcedgndaa
open Go.ChangeShapes Go.WideShapes Go.ChangeAt Go.RowKit

theorem only_under {w0 w w' : World} {g : Nat} (h : w0.grownBy w (some g)) (hb : Below w.heap.size w w') : w0.grownBy w' (some g) :=
  ⟨hb.os.trans h.os, hb.tape.trans h.tape, hb.output.trans h.output, Nat.le_trans h.size hb.size, fun i hi hne => (hb.block i (Nat.lt_of_lt_of_le hi h.size)).trans (h.block i hi hne)⟩

/-- The card at A has the numbers xs, in a block from base on. -/
def CardFrom (base : Nat) (W : World) (A : Option Addr) (xs : List Int) : Prop := 0 < xs.length → ∃ gr ex, A = some ⟨gr, 0, none⟩ ∧ base ≤ gr ∧ Row W gr xs ex
theorem CardFrom.ints {base : Nat} {W : World} {A : Option Addr} {xs : List Int} (h : CardFrom base W A xs) : Ints W W.heap.size A xs := fun hn => by
  obtain ⟨gr, ex, rfl, _, hr⟩ := h hn
  exact (hr.ints.more hr.lt) hn

/-- What a drawing of a card of n columns leaves. -/
def GivesRow (n B g K : Nat) (w : World) (e : Ending) (w' : World) : Prop :=
  ∃ gr cap xs ex, e = .returned (.agg #[.slice (some ⟨gr, 0, none⟩) n cap]) ∧ xs.length = n ∧ n ≤ cap ∧ cap ≤ 9223372036854775807 ∧ w.heap.size ≤ gr ∧ w.grownBy w' (some g) ∧ Src w' B g K ∧ Row w' gr xs ex

set_option maxHeartbeats 2000000 in
theorem l03Draw_any (n B g k0 : Nat) (w : World) (h : Src w B g k0) (h1 : 1 ≤ n) (hn : n ≤ 64) (hk : k0 ≤ 90000) :
    Calls Try.prog 114 #[.pointer (some ⟨g, 0, none⟩), .int .i64 n] w (GivesRow n B g (k0 + 8 * n + 2) w) := by
  have hglt := h.lt
  have h2 := h.boxed (.cells #[.slice none 0 0] 26)
  have HO := Lib.hid (one_any (w.alloc (.cells #[.slice none 0 0] 26)) B g k0 8 h2 (by omega) (by omega) (by omega))
  have f0 : (w.alloc (.cells #[.slice none 0 0] 26)).frozen? ⟨w.heap.size, 0, none⟩ = false := by simp [go_sem]
  have c0 : (w.alloc (.cells #[.slice none 0 0] 26)).cell? ⟨w.heap.size, 0, none⟩ = some (.slice none 0 0) := by simp [go_sem]
  have G0 := Lib.hid (only_box w (.cells #[.slice none 0 0] 26) g)
  clear h h2
  go_enter Try.func114, Try.ntmps114
  go_wp2_with fail
  refine HO.out.mono ?_
  rintro e w1 ⟨b, rfl, hg, hs⟩
  have c1 := cell_only hg c0 (by show w.heap.size ≠ g; omega)
  have f1 := frozen_only hg c0 f0 (by show w.heap.size ≠ g; omega)
  have G1 := Lib.hid (only_step G0.out hg)
  have S1 := Lib.hid hs
  have z1 : w.heap.size < w1.heap.size := World.block_lt_of_cell? _ _ c1
  clear hg hs HO c0 f0 G0
  cases b
  · have HT := Lib.hid (l03DrawText_any n B g (k0 + 2) w1 S1.out hn (by omega))
    go_wp2_with fail
    refine HT.out.mono ?_
    rintro e w2 ⟨l, rfl, hl, hleg, hg, hs⟩
    have c2 := cell_only hg c1 (by show w.heap.size ≠ g; omega)
    have f2 := frozen_only hg c1 f1 (by show w.heap.size ≠ g; omega)
    have G2 := Lib.hid (only_step G1.out hg)
    have S2 := Lib.hid hs
    have z2 : w.heap.size < w2.heap.size := World.block_lt_of_cell? _ _ c2
    obtain ⟨s, hs'⟩ : ∃ s : ByteArray, (⟨(l.map UInt8.ofNat).toArray⟩ : ByteArray) = s := ⟨_, rfl⟩
    have hsz : s.size = n := by rw [← hs', ← hl]; simp [ByteArray.size]
    rw [hs']
    have HC := Lib.hid (l03Card_any s (by omega) (by omega) w2)
    have HZ := Lib.hid hsz
    clear hg hs hs' hl hleg HT hsz
    go_wp2_with fail
    refine HC.out.mono ?_
    rintro e w3 ⟨gr, cap, ex, rfl, hcp, hcm, hgr, hb, hrow⟩
    have c3 := cell_kept c2 hb
    have f3 : w3.frozen? ⟨w.heap.size, 0, none⟩ = false := by rw [hb.frozen z2]; exact f2
    have G3 := Lib.hid (only_under G2.out hb)
    have S3 := Lib.hid (S2.out.below hb)
    have HR := Lib.hid hrow
    rw [HZ.out]
    have c4 := cell_put c3 (.slice (some ⟨gr, 0, none⟩) n cap)
    clear hb hrow HC c2 f2
    go_wp2
    refine bodyPost_ret (v := .agg #[.slice (some ⟨gr, 0, none⟩) n cap]) (by simp [results, Try.results114, go_sem, c4]) rfl ⟨gr, cap, textCodes s, ex, rfl, by rw [textCodes_length, HZ.out], by have := HZ.out; omega, Nat.le_trans hcm (by decide), by omega, only_far G3.out _ _ (by simp), (S3.out.far _ _ hglt).more (by omega), HR.out.far (by show gr ≠ w.heap.size; omega) _⟩
  · have HD := Lib.hid (l02Draw_any n B g (k0 + 2) w1 S1.out h1 hn (by omega))
    go_wp2_with fail
    refine HD.out.mono ?_
    rintro e w2 ⟨gr, cap, l, ex, rfl, hl, hcp1, hcp2, hcp3, hgr, hg, hs, hrow⟩
    have c3 := cell_only hg c1 (by show w.heap.size ≠ g; omega)
    have f3 := frozen_only hg c1 f1 (by show w.heap.size ≠ g; omega)
    have G3 := Lib.hid (only_step G1.out hg)
    have S3 := Lib.hid hs
    have HR := Lib.hid hrow
    have HL := Lib.hid hl
    rw [hl]
    have c4 := cell_put c3 (.slice (some ⟨gr, 0, none⟩) n cap)
    clear hg hs hrow HD c1 f1 hl
    go_wp2
    refine bodyPost_ret (v := .agg #[.slice (some ⟨gr, 0, none⟩) n cap]) (by simp [results, Try.results114, go_sem, c4]) rfl ⟨gr, cap, l, ex, rfl, HL.out, by have := HL.out; omega, Nat.le_trans hcp2 (by decide), by omega, only_far G3.out _ _ (by simp), (S3.out.far _ _ hglt).more (by omega), HR.out.far (by show gr ≠ w.heap.size; omega) _⟩
end Go.Proofs.Ytjfogadcedgndaa
