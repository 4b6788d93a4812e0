/- What the drawing source of the statements does (spec.l00From, next, pick): a number that is drawn is between 0 and n - 1; nothing but the source's own block turns. Condition: at most 3000 bytes. -/
import Derived.Test.YtdakbbgbglgioaaDoorMem
import Derived.Deep.QuietTactic
import Derived.BigQuiet
import Derived.Laws.Bits64b
namespace Go.Proofs.YtdakbbgbglgioaaDoor
open Go.ChangeShapes Go.WideShapes Go.ChangeAt Go.RowKit

/-- n bytes lie at address A, in a block below B. -/
def BytesAt (w : World) (B : Nat) (A : Option Addr) (n : Nat) : Prop :=
  0 < n → ∃ b off, A = some ⟨b, off, none⟩ ∧ b < B ∧ ∀ i, i < n → ∃ u : Nat, u < 256 ∧ w.cell? ⟨b, off + i, none⟩ = some (.int .u8 u)
theorem BytesAt.moved {w w' : World} {B n : Nat} {A : Option Addr} (h : BytesAt w B A n) (hk : ∀ p : Addr, p.block < B → w'.cell? p = w.cell? p) : BytesAt w' B A n := fun hn => by
  obtain ⟨b, off, rfl, hb, hc⟩ := h hn
  refine ⟨b, off, rfl, hb, fun i hi => ?_⟩
  obtain ⟨u, hu, e⟩ := hc i hi
  exact ⟨u, hu, (hk ⟨b, off + i, none⟩ hb).trans e⟩
theorem BytesAt.below {w w' : World} {B n : Nat} {A : Option Addr} (h : BytesAt w B A n) (hb : Below B w w') : BytesAt w' B A n := h.moved fun _ hp => hb.cell hp

/-- Block g is a source over bytes that lie below B; it was asked k times at most. -/
def Src (w : World) (B g k : Nat) : Prop :=
  ∃ (A : Option Addr) (n c j : Nat) (s : Int), BytesAt w B A n ∧ B ≤ g ∧ n ≤ 4096 ∧ j ≤ k ∧ 0 ≤ s ∧ s < 18446744073709551616 ∧
    w.heap[g]? = some (.cells #[.slice A n c, .int .i64 j, .int .u64 s] 106 (0, 0))

theorem Src.lt {w : World} {B g k : Nat} (h : Src w B g k) : g < w.heap.size := by
  obtain ⟨A, n, c, j, s, _, _, _, _, _, _, hh⟩ := h
  rcases Nat.lt_or_ge g w.heap.size with hlt | hge
  · exact hlt
  · rw [Array.getElem?_eq_none hge] at hh
    cases hh
theorem Src.more {w : World} {B g k k' : Nat} (h : Src w B g k) (hk : k ≤ k') : Src w B g k' := by
  obtain ⟨A, n, c, j, s, h1, h2, h3, h4, h5, h6, h7⟩ := h
  exact ⟨A, n, c, j, s, h1, h2, h3, by omega, h5, h6, h7⟩
theorem Src.below {w w' : World} {B g k : Nat} (h : Src w B g k) (hb : Below w.heap.size w w') : Src w' B g k := by
  have hlt := h.lt
  obtain ⟨A, n, c, j, s, h1, h2, h3, h4, h5, h6, h7⟩ := h
  exact ⟨A, n, c, j, s, h1.below (hb.mono (by omega)), h2, h3, h4, h5, h6, (hb.block g hlt).trans h7⟩

theorem wrap_u64 (x : Int) : 0 ≤ IntKind.u64.wrap x ∧ IntKind.u64.wrap x < 18446744073709551616 := by
  unfold IntKind.wrap
  simp only [IntKind.signed, IntKind.bits, Bool.false_and]
  constructor
  · exact Int.emod_nonneg _ (by decide)
  · exact Int.emod_lt_of_pos _ (by decide)

theorem wrap64_same (n : Int) (h : 0 ≤ n ∧ n < 256) : wrap64 n = n := by
  unfold wrap64
  omega

theorem low_u64 (S : Int) (h0 : 0 ≤ S) (h1 : S < 18446744073709551616) : 0 ≤ bits .and .u64 (S / 1099511627776) 255 ∧ bits .and .u64 (S / 1099511627776) 255 < 256 := by
  obtain ⟨a, ha⟩ : ∃ a : Nat, S / 1099511627776 = a := ⟨(S / 1099511627776).toNat, by omega⟩
  have h := bits_and_u64_nat a 255 (by omega) (by omega)
  rw [ha, show (255 : Int) = ((255 : Nat) : Int) from rfl, h]
  have : a &&& 255 ≤ 255 := Nat.and_le_right
  omega

theorem src_step {w : World} {B g k n c j q q' : Nat} {A : Option Addr} {s s' : Int} (hB : BytesAt w B A n) (hBg : B ≤ g) (hn : n ≤ 4096) (hj : j ≤ k) (h0 : 0 ≤ s') (h1 : s' < 18446744073709551616)
    (hh : w.heap[g]? = some (.cells #[.slice A n c, .int .i64 j, .int .u64 s] 106 (0, 0))) :
    w.grownBy ((((w.drewN q).setCell ⟨g, 1, none⟩ (.int .i64 ((j : Int) + 1))).setCell ⟨g, 2, none⟩ (.int .u64 s')).drewN q') (some g) ∧
    Src ((((w.drewN q).setCell ⟨g, 1, none⟩ (.int .i64 ((j : Int) + 1))).setCell ⟨g, 2, none⟩ (.int .u64 s')).drewN q') B g (k + 1) := by
  have e1 : w.grownBy ((((w.drewN q).setCell ⟨g, 1, none⟩ (.int .i64 ((j : Int) + 1))).setCell ⟨g, 2, none⟩ (.int .u64 s')).drewN q') (some g) := by
    refine ⟨rfl, rfl, rfl, by simp [World.setCell, World.drewN], fun i hi hne => ?_⟩
    have : i ≠ g := fun e => hne (by rw [e])
    simp [World.setCell, World.drewN, Array.getElem?_modify, this.symm]
  refine ⟨e1, A, n, c, j + 1, s', ?_, hBg, hn, by omega, h0, h1, ?_⟩
  · refine hB.moved fun p hp => ?_
    have hne : p.block ≠ g := by omega
    have hb := e1.block p.block
    simp [World.cell?, World.setCell, World.drewN, Array.getElem?_modify, hne.symm]
  · simp [World.setCell, World.drewN, Array.getElem?_modify, hh]

set_option maxHeartbeats 2000000 in
theorem next_any (w : World) (B g k : Nat) (h : Src w B g k) (hk : k ≤ 1048576) :
    Calls Tryd.prog 68 #[.pointer (some ⟨g, 0, none⟩)] w fun e w' => ∃ r : Int, e = .returned (.int .i64 r) ∧ 0 ≤ r ∧ r < 256 ∧ w.grownBy w' (some g) ∧ Src w' B g (k + 1) := by
  obtain ⟨A, n, c, j, s, hB, hBg, hn, hj, hs0, hs1, hh⟩ := h
  have c0 : w.cell? ⟨g, 0, none⟩ = some (.slice A n c) := by rw [cell_of_row w g 0 _ _ _ hh]; rfl
  have c1 : w.cell? ⟨g, 1, none⟩ = some (.int .i64 j) := by rw [cell_of_row w g 1 _ _ _ hh]; rfl
  have c2 : w.cell? ⟨g, 2, none⟩ = some (.int .u64 s) := by rw [cell_of_row w g 2 _ _ _ hh]; rfl
  have f1 : w.frozen? ⟨g, 1, none⟩ = false := by simp [World.frozen?, hh]
  have f2 : w.frozen? ⟨g, 2, none⟩ = false := by simp [World.frozen?, hh]
  have HH := Lib.hid hh
  by_cases hlt : j < n
  · obtain ⟨b, off, rfl, hb, hc⟩ := hB (by omega)
    obtain ⟨u, hu, cu⟩ := hc j hlt
    have HB := Lib.hid hB
    have hj0 : (0 : Int) ≤ (j : Int) := Int.natCast_nonneg _
    have hj1 : (j : Int) < (n : Int) := by omega
    clear hc hB hh
    go_enter Tryd.func68, Tryd.ntmps68
    go_wp2
    go_quiet (fail)
    go_wp2
    go_quiet (fail)
    go_wp2
    go_quiet (fail)
    go_wp2
    · go_ret
      have hw := wrap_u64 (IntKind.u64.wrap (IntKind.u64.wrap (s * 6364136223846793005) + u) + 1442695040888963407)
      exact ⟨u, rfl, by omega, by omega, (src_step HB.out hBg hn hj hw.1 hw.2 HH.out).1, (src_step HB.out hBg hn hj hw.1 hw.2 HH.out).2⟩
  · have HB := Lib.hid hB
    have hj1 : ¬ (j : Int) < (n : Int) := by omega
    clear hB hh
    go_enter Tryd.func68, Tryd.ntmps68
    go_wp2
    go_quiet (fail)
    go_wp2
    go_quiet (fail)
    go_wp2
    go_ret
    have hw := wrap_u64 (IntKind.u64.wrap (IntKind.u64.wrap (s * 6364136223846793005)) + 1442695040888963407)
    have hl := low_u64 _ hw.1 hw.2
    refine ⟨_, rfl, ?_, ?_, (src_step HB.out hBg hn hj hw.1 hw.2 HH.out).1, (src_step HB.out hBg hn hj hw.1 hw.2 HH.out).2⟩
    · rw [wrap64_same _ (by omega)]
      exact hl.1
    · rw [wrap64_same _ (by omega)]
      exact hl.2

theorem pick_any (w : World) (B g k : Nat) (n : Int) (h : Src w B g k) (hk : k ≤ 1048000) (h1 : 1 ≤ n) (h2 : n ≤ 4096) :
    Calls Tryd.prog 31 #[.pointer (some ⟨g, 0, none⟩), .int .i64 n] w fun e w' => ∃ r : Int, e = .returned (.int .i64 r) ∧ 0 ≤ r ∧ r < n ∧ w.grownBy w' (some g) ∧ Src w' B g (k + 2) := by
  by_cases hn : n ≤ 1
  · obtain rfl : n = 1 := by omega
    have H := Lib.hid h
    clear h
    go_enter Tryd.func31, Tryd.ntmps31
    go_wp2
    go_ret
    exact ⟨0, rfl, by omega, by omega, ⟨rfl, rfl, rfl, Nat.le_refl _, fun _ _ _ => rfl⟩, H.out.more (by omega)⟩
  · have hn1 : ¬ n ≤ 1 := hn
    have hn0 : n ≠ 0 := by omega
    have HC := Lib.hid (next_any w B g k h (by omega))
    clear h
    by_cases hb : 200 < n
    · go_enter Tryd.func31, Tryd.ntmps31
      go_wp2_with fail
      refine HC.out.mono ?_
      rintro e w1 ⟨r, rfl, hr0, hr1, hg, hs⟩
      have HG := Lib.hid hg
      have HD := Lib.hid (next_any w1 B g (k + 1) hs (by omega))
      clear hg hs HC
      go_wp2_with fail
      refine HD.out.mono ?_
      rintro e w2 ⟨r2, rfl, hr2, hr3, hg, hs⟩
      have HG2 := Lib.hid (only_step HG.out hg)
      have HS := Lib.hid hs
      clear hg hs HD HG
      go_wp2
      go_ret
      exact ⟨(r * 256 + r2) % n, rfl, Int.emod_nonneg _ (by omega), Int.emod_lt_of_pos _ (by omega), HG2.out, HS.out⟩
    · have hb' : ¬ 200 < n := hb
      go_enter Tryd.func31, Tryd.ntmps31
      go_wp2_with fail
      refine HC.out.mono ?_
      rintro e w1 ⟨r, rfl, hr0, hr1, hg, hs⟩
      have HG := Lib.hid hg
      have HS := Lib.hid (hs.more (show k + 1 ≤ k + 2 by omega))
      clear hg hs HC
      go_wp2
      go_ret
      exact ⟨r % n, rfl, Int.emod_nonneg _ (by omega), Int.emod_lt_of_pos _ (by omega), HG.out, HS.out⟩
end Go.Proofs.YtdakbbgbglgioaaDoor
