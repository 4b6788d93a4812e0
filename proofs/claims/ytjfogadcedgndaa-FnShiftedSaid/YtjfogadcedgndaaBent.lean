/- What spec.l03Bent, spec.l06Pair and spec.DrawRepairCard give: cards of at most 64 columns in memory of their own. -/
import Derived.Test.YtjfogadcedgndaaSpoil
import Derived.Test.YtjfogadcedgndaaDamaged
namespace Go.Proofs.Ytjfogadcedgndaa
open Go.ChangeShapes Go.WideShapes Go.ChangeAt Go.RowKit

theorem CardFrom.only {base g : Nat} {W W' : World} {A : Option Addr} {xs : List Int} (h : CardFrom base W A xs) (hg : W.grownBy W' (some g)) (hb : g < base) : CardFrom base W' A xs := fun h0 => by
  obtain ⟨gr, ex, hA, hr, hrow⟩ := h h0
  exact ⟨gr, ex, hA, hr, hrow.only hg (by omega)⟩
theorem CardFrom.later {base : Nat} {W W' : World} {A : Option Addr} {xs : List Int} (h : CardFrom base W A xs) (hb : Below W.heap.size W W') : CardFrom base W' A xs := fun h0 => by
  obtain ⟨gr, ex, hA, hr, hrow⟩ := h h0
  exact ⟨gr, ex, hA, hr, hrow.later hb⟩
theorem CardFrom.far {base : Nat} {W : World} {A : Option Addr} {xs : List Int} (h : CardFrom base W A xs) {p : Addr} (hp : p.block < base) (u : Value) : CardFrom base (W.setCell p u) A xs := fun h0 => by
  obtain ⟨gr, ex, hA, hr, hrow⟩ := h h0
  exact ⟨gr, ex, hA, hr, hrow.far (by omega) u⟩
theorem CardFrom.lower {base b : Nat} {W : World} {A : Option Addr} {xs : List Int} (h : CardFrom base W A xs) (hb : b ≤ base) : CardFrom b W A xs := fun h0 => by
  obtain ⟨gr, ex, hA, hr, hrow⟩ := h h0
  exact ⟨gr, ex, hA, by omega, hrow⟩

theorem l06DamagedAt_any (B g k p o c : Nat) (A : Option Addr) (xs : List Int) (w : World) (h : Src w B g k) (hk : k ≤ 90000) (hp : w.cell? ⟨p, o, none⟩ = some (.slice A xs.length c)) (hI : Ints w w.heap.size A xs) (h64 : xs.length ≤ 64) :
    Calls Try.prog 76 #[.pointer (some ⟨g, 0, none⟩), .pointer (some ⟨p, o, none⟩)] w (DrawsCard B g (k + 30) w) := by
  by_cases h0 : xs.length = 0
  · rw [h0] at hp
    exact l06DamagedAt_none B g k p o c A w h hp
  · exact l06DamagedAt_some B g k p o xs.length c w.heap.size A xs w h hk hp hI (Nat.le_refl _) rfl (by omega) h64
theorem l06Damaged_any (B g k p c : Nat) (A : Option Addr) (xs : List Int) (w : World) (h : Src w B g k) (hk : k ≤ 90000) (hp : w.cell? ⟨p, 0, none⟩ = some (.slice A xs.length c)) (hI : Ints w w.heap.size A xs) (h64 : xs.length ≤ 64) :
    Calls Try.prog 76 #[.pointer (some ⟨g, 0, none⟩), .pointer (some ⟨p, 0, none⟩)] w (DrawsCard B g (k + 30) w) :=
  l06DamagedAt_any B g k p 0 c A xs w h hk hp hI h64

/-- What a drawing of a card of at most 64 columns leaves, with its capacity. -/
def DrawsCardC (B g K : Nat) (w : World) (e : Ending) (w' : World) : Prop :=
  ∃ A cap xs, e = .returned (.agg #[.slice A xs.length cap]) ∧ xs.length ≤ 64 ∧ (xs.length ≤ cap ∧ cap ≤ 9223372036854775807) ∧ CardFrom w.heap.size w' A xs ∧ w.grownBy w' (some g) ∧ Src w' B g K

set_option maxRecDepth 100000 in
set_option maxHeartbeats 4000000 in
theorem l03BentC_any (B g k : Nat) (w : World) (h : Src w B g k) (hk : k ≤ 80000) :
    Calls Try.prog 73 #[.pointer (some ⟨g, 0, none⟩)] w (DrawsCardC B g (k + 100) w) := by
  have hglt := h.lt
  have HP := Lib.hid (pick_any (w.alloc (.cells #[.slice none 0 0] 26)) B g k 6 (h.boxed _) (by omega) (by omega) (by omega))
  have c0 : (w.alloc (.cells #[.slice none 0 0] 26)).cell? ⟨w.heap.size, 0, none⟩ = some (.slice none 0 0) := by simp [go_sem]
  have f0 : (w.alloc (.cells #[.slice none 0 0] 26)).frozen? ⟨w.heap.size, 0, none⟩ = false := by simp [go_sem]
  clear h
  go_enter Try.func73, Try.ntmps73
  go_wp2_with fail
  refine HP.out.mono ?_
  rintro e w1 ⟨r, rfl, hr0, hr1, hg, hs⟩
  obtain ⟨i, rfl⟩ : ∃ i : Nat, r = i := ⟨r.toNat, by omega⟩
  have c1 := cell_only hg c0 (by show w.heap.size ≠ g; omega)
  have f1 := frozen_only hg c0 f0 (by show w.heap.size ≠ g; omega)
  have c1' := c1
  have f1' := f1
  have G1 := Lib.hid (only_step (only_box w (.cells #[.slice none 0 0] 26) g) hg)
  have z1 : w.heap.size < w1.heap.size := World.block_lt_of_cell? _ _ c1
  have hd := l03Draw_any (1 + i) B g (k + 2) w1 hs (by omega) (by omega) (by omega)
  rw [show ((1 + i : Nat) : Int) = 1 + (i : Int) by omega] at hd
  have HD := Lib.hid hd
  clear hg hs hd HP c0 f0
  go_wp2_with fail
  refine HD.out.mono ?_
  rintro e w2 ⟨gr, cap, xs, ex, rfl, hl, hcp, hcm, hgr, hg, hs, hrow⟩
  have c2 := cell_only hg c1 (by show w.heap.size ≠ g; omega)
  have f2 := frozen_only hg c1 f1 (by show w.heap.size ≠ g; omega)
  have z2 : w1.heap.size ≤ w2.heap.size := hg.size
  have G2 := Lib.hid (only_step hg (only_box w2 (.cells #[.slice (some ⟨gr, 0, none⟩) (1 + i) cap] 26) g))
  have c3 := cell_kept c2 (below_box w2 (.cells #[.slice (some ⟨gr, 0, none⟩) (1 + i) cap] 26))
  have f3 : (w2.alloc (.cells #[.slice (some ⟨gr, 0, none⟩) (1 + i) cap] 26)).frozen? ⟨w.heap.size, 0, none⟩ = false := by rw [(below_box w2 _).frozen (World.block_lt_of_cell? _ _ c2)]; exact f2
  have d3 : (w2.alloc (.cells #[.slice (some ⟨gr, 0, none⟩) (1 + i) cap] 26)).cell? ⟨w2.heap.size, 0, none⟩ = some (.slice (some ⟨gr, 0, none⟩) (1 + i) cap) := by simp [go_sem]
  have e3 : (w2.alloc (.cells #[.slice (some ⟨gr, 0, none⟩) (1 + i) cap] 26)).frozen? ⟨w2.heap.size, 0, none⟩ = false := by simp [go_sem]
  have R3 := Lib.hid (hrow.alloc (.cells #[.slice (some ⟨gr, 0, none⟩) (1 + i) cap] 26))
  have HO := Lib.hid (one_any _ B g (k + 60) 12 ((hs.boxed (.cells #[.slice (some ⟨gr, 0, none⟩) (1 + i) cap] 26)).more (by omega)) (by omega) (by omega) (by omega))
  have HL := Lib.hid hl
  obtain ⟨p, hp⟩ : ∃ p, w2.heap.size = p := ⟨_, rfl⟩
  rw [hp] at d3 e3 z2
  clear hg hs HD c1 f1 c2 f2 hrow hl
  go_wp2_with fail
  try rw [hp]
  refine HO.out.mono ?_
  rintro e w4 ⟨b, rfl, hg, hs⟩
  have c4 := cell_only hg c3 (by show w.heap.size ≠ g; omega)
  have f4 := frozen_only hg c3 f3 (by show w.heap.size ≠ g; omega)
  have d4 := cell_only hg d3 (by show p ≠ g; omega)
  have e4 := frozen_only hg d3 e3 (by show p ≠ g; omega)
  have G4 := Lib.hid (only_step G2.out hg)
  have R4 := Lib.hid (R3.out.only hg (by omega))
  have S4 := Lib.hid hs
  clear hg hs HO c3 f3 d3 e3 G2 R3 hp
  cases b
  · have c5 := cell_put c4 (.slice (some ⟨gr, 0, none⟩) (1 + i) cap)
    go_wp2
    refine bodyPost_ret (v := .agg #[.slice (some ⟨gr, 0, none⟩) (1 + i) cap]) (by simp [results, Try.results73, go_sem, c5]) rfl ⟨some ⟨gr, 0, none⟩, cap, xs, by rw [HL.out], by rw [HL.out]; omega, ⟨by rw [HL.out]; omega, hcm⟩, fun _ => ⟨gr, ex, rfl, by omega, R4.out.far (by show gr ≠ w.heap.size; omega) _⟩, only_far (only_step G1.out G4.out) ⟨w.heap.size, 0, none⟩ _ (by simp), (S4.out.far ⟨w.heap.size, 0, none⟩ _ hglt).more (by omega)⟩
  · have HSP := Lib.hid (l02Spoil_any w1 w4 B g (k + 60 + 2) p (1 + i) cap gr xs ex G4.out S4.out (by omega) (by omega) (by omega) d4 e4 HL.out (by omega) (by omega) ⟨hcp, hcm⟩ hgr R4.out)
    go_wp2_with fail
    refine HSP.out.mono ?_
    rintro e w5 ⟨A', cap', ys, ⟨v, rfl⟩, d5, e5, hy, hcy, hcf, hg, hs⟩
    have c5 := cell_only hg c1' (by show w.heap.size ≠ g; omega)
    have f5 := frozen_only hg c1' f1' (by show w.heap.size ≠ g; omega)
    have c6 := cell_put c5 (.slice A' ys.length cap')
    have G5 := Lib.hid (only_step G1.out hg)
    have S5 := Lib.hid hs
    have HCF := Lib.hid hcf
    clear hg hs hcf HSP
    go_wp2
    refine bodyPost_ret (v := .agg #[.slice A' ys.length cap']) (by simp [results, Try.results73, go_sem, c6]) rfl ⟨A', cap', ys, rfl, hy, hcy, (HCF.out.far (by show w.heap.size < w1.heap.size; exact z1) _).lower (by omega), only_far G5.out ⟨w.heap.size, 0, none⟩ _ (by simp), (S5.out.far ⟨w.heap.size, 0, none⟩ _ hglt).more (by omega)⟩
theorem l03Bent_any (B g k : Nat) (w : World) (h : Src w B g k) (hk : k ≤ 80000) :
    Calls Try.prog 73 #[.pointer (some ⟨g, 0, none⟩)] w (DrawsCard B g (k + 100) w) :=
  (l03BentC_any B g k w h hk).mono (by
    rintro e w' ⟨A, cap, xs, he, h64, _, hr⟩
    exact ⟨A, cap, xs, he, h64, hr⟩)
end Go.Proofs.Ytjfogadcedgndaa
