/- What spec.l06Damaged gives: a card of as many columns in memory of its own; nothing but the source's block turns, and new blocks. -/
import Derived.Test.YtjfogadcedgndaaBentDraw
import Derived.Deep.RegionHeld3
namespace Go.Proofs.Ytjfogadcedgndaa
open Go.ChangeShapes Go.WideShapes Go.ChangeAt Go.RowKit

theorem only_below0 {w w' : World} {g : Nat} (hb : Below w.heap.size w w') : w.grownBy w' (some g) := ⟨hb.os, hb.tape, hb.output, hb.size, fun i hi _ => hb.block i hi⟩

theorem append_nothing (W : World) (b0 : Addr) (p : Option Addr) (c : Nat) :
    (Builtin.append_ #[24, 24] 24 #[.slice (some b0) 0 0, .slice p 0 c]).run Try.prog W = .ok (.slice (some b0) 0 0) W := by
  obtain ⟨i, hi, _⟩ := Option.map_eq_some_iff.1 info_int64
  cases p <;> simp [Builtin.append_, run_underlying Try.underlying24, sizeOf, typeInfo, hi, Builtin.lenOf, Builtin.firstCells, loadCells, loadCellsFrom, storeCells]

theorem l00Own_none (A : Option Addr) (c : Nat) (w : World) :
    Calls Try.prog 118 #[.slice A 0 c] w fun e w' => (∃ A' c', e = .returned (.slice A' 0 c')) ∧ Below w.heap.size w w' := by
  have hp : ∀ W : World, Sem.run Try.prog (pure (#[] : Array Value)) W = .ok #[] W := fun _ => rfl
  have hs : ∀ (W : World) (a : Addr), Sem.run Try.prog (storeCells a []) W = .ok () W := fun _ _ => rfl
  cases A
  all_goals
    go_enter Try.func118, Try.ntmps118
    go_wp2
    go_ret
    exact ⟨⟨_, _, rfl⟩, below_box w _⟩

theorem l02Own_none (A : Option Addr) (c p o : Nat) (w : World) (hp : w.cell? ⟨p, o, none⟩ = some (.slice A 0 c)) :
    Calls Try.prog 87 #[.pointer (some ⟨p, o, none⟩)] w fun e w' => (∃ A' c', e = .returned (.agg #[.slice A' 0 c'])) ∧ Below w.heap.size w w' := by
  have HC := Lib.hid (l00Own_none A c (w.alloc (.cells #[.slice none 0 0] 26)))
  have hp2 := cell_kept hp (below_box w (.cells #[.slice none 0 0] 26))
  go_enter Try.func87, Try.ntmps87
  go_wp2_with fail
  refine HC.out.mono ?_
  rintro e w1 ⟨⟨A', c', rfl⟩, hb⟩
  have B1 := Lib.hid (below_step (below_box w _) hb)
  have c1 := cell_kept (p := ⟨w.heap.size, 0, none⟩) (v := .slice none 0 0) (by simp) hb
  have f1 : w1.frozen? ⟨w.heap.size, 0, none⟩ = false := by rw [hb.frozen (by simp)]; simp
  clear hb hp2 hp
  go_wp2
  refine bodyPost_ret (v := .agg #[.slice A' 0 c']) (by simp [results, Try.results87, go_sem, c1]) rfl ⟨⟨_, _, rfl⟩, ?_⟩
  exact B1.out.setCell (by simp) _

/-- What a drawing of a card of at most 64 columns leaves. -/
def DrawsCard (B g K : Nat) (w : World) (e : Ending) (w' : World) : Prop :=
  ∃ A cap xs, e = .returned (.agg #[.slice A xs.length cap]) ∧ xs.length ≤ 64 ∧ CardFrom w.heap.size w' A xs ∧ w.grownBy w' (some g) ∧ Src w' B g K

set_option maxRecDepth 100000 in
set_option maxHeartbeats 4000000 in
theorem l06DamagedAt_none (B g k p o c : Nat) (A : Option Addr) (w : World) (h : Src w B g k) (hp : w.cell? ⟨p, o, none⟩ = some (.slice A 0 c)) :
    Calls Try.prog 76 #[.pointer (some ⟨g, 0, none⟩), .pointer (some ⟨p, o, none⟩)] w (DrawsCard B g (k + 30) w) := by
  have hp2 := cell_kept hp (below_box w (.cells #[.slice none 0 0] 26))
  have HC := Lib.hid (l02Own_none A c p o (w.alloc (.cells #[.slice none 0 0] 26)) hp2)
  have HS := Lib.hid h
  clear h hp hp2
  go_enter Try.func76, Try.ntmps76
  go_wp2_with fail
  refine HC.out.mono ?_
  rintro e w1 ⟨⟨A', c', rfl⟩, hb⟩
  have B1 := Lib.hid (below_step (below_box w _) hb)
  have c1 := cell_kept (p := ⟨w.heap.size, 0, none⟩) (v := .slice none 0 0) (by simp) hb
  have f1 : w1.frozen? ⟨w.heap.size, 0, none⟩ = false := by rw [hb.frozen (by simp)]; simp
  clear hb
  have c2 := cell_kept c1 (below_box w1 (.cells #[.slice A' 0 c'] 26))
  have f2 : (w1.alloc (.cells #[.slice A' 0 c'] 26)).frozen? ⟨w.heap.size, 0, none⟩ = false := by rw [(below_box w1 _).frozen (World.block_lt_of_cell? _ _ c1)]; exact f1
  have B2 := Lib.hid (below_step B1.out (below_box w1 (.cells #[.slice A' 0 c'] 26)))
  have c3 := cell_put c2 (.slice A' 0 c')
  go_wp2
  refine bodyPost_ret (v := .agg #[.slice A' 0 c']) (by simp [results, Try.results76, go_sem, c3]) rfl ⟨A', c', [], rfl, by simp, fun h => absurd h (by simp), ?_, ?_⟩
  · exact only_far (only_below0 B2.out) ⟨w.heap.size, 0, none⟩ _ (by simp)
  · exact ((HS.out.below B2.out).far ⟨w.heap.size, 0, none⟩ _ (by show g < w.heap.size; exact HS.out.lt)).more (by omega)

set_option maxRecDepth 100000 in
set_option maxHeartbeats 4000000 in
theorem l06DamagedAt_some (B g k p o n c B' : Nat) (A : Option Addr) (xs : List Int) (w : World) (h : Src w B g k) (hk : k ≤ 90000) (hp : w.cell? ⟨p, o, none⟩ = some (.slice A xs.length c)) (hI : Ints w B' A xs) (hB : B' ≤ w.heap.size) (hn : xs.length = n) (h1 : 1 ≤ n) (h64 : n ≤ 64) :
    Calls Try.prog 76 #[.pointer (some ⟨g, 0, none⟩), .pointer (some ⟨p, o, none⟩)] w (DrawsCard B g (k + 30) w) := by
  have hglt := h.lt
  have hp2 := cell_kept hp (below_box w (.cells #[.slice none 0 0] 26))
  have HC := Lib.hid (l02OwnC_any A c xs B' p o (w.alloc (.cells #[.slice none 0 0] 26)) hp2 (hI.alloc hB _) (by simp; omega) (by omega) (by omega))
  have HS := Lib.hid h
  have HN := Lib.hid hn
  rw [hn] at HC
  clear h hp hp2 hI hn
  go_enter Try.func76, Try.ntmps76
  go_wp2_with fail
  refine HC.out.mono ?_
  rintro e w1 ⟨gr, cap, ex, rfl, hgr, hb, hr⟩
  have B1 := Lib.hid (below_step (below_box w _) hb)
  have c1 := cell_kept (p := ⟨w.heap.size, 0, none⟩) (v := .slice none 0 0) (by simp) hb
  have f1 : w1.frozen? ⟨w.heap.size, 0, none⟩ = false := by rw [hb.frozen (by simp)]; simp
  have S1 := Lib.hid (HS.out.below B1.out)
  have hgr' : w.heap.size + 1 ≤ gr := by simpa using hgr
  have z1 : gr < w1.heap.size := hr.lt
  have R2 := Lib.hid (hr.alloc (.cells #[.slice (some ⟨gr, 0, none⟩) n cap] 26))
  have c2 := cell_kept c1 (below_box w1 (.cells #[.slice (some ⟨gr, 0, none⟩) n cap] 26))
  have d2 : (w1.alloc (.cells #[.slice (some ⟨gr, 0, none⟩) n cap] 26)).cell? ⟨w1.heap.size, 0, none⟩ = some (.slice (some ⟨gr, 0, none⟩) n cap) := by simp [go_sem]
  have f2 : (w1.alloc (.cells #[.slice (some ⟨gr, 0, none⟩) n cap] 26)).frozen? ⟨w.heap.size, 0, none⟩ = false := by rw [(below_box w1 _).frozen (World.block_lt_of_cell? _ _ c1)]; exact f1
  have B2 := Lib.hid (below_step B1.out (below_box w1 (.cells #[.slice (some ⟨gr, 0, none⟩) n cap] 26)))
  have S2 := Lib.hid (S1.out.boxed (.cells #[.slice (some ⟨gr, 0, none⟩) n cap] 26))
  obtain ⟨q, hq⟩ : ∃ q, w1.heap.size = q := ⟨_, rfl⟩
  rw [hq] at d2 z1
  have zq : w.heap.size < q := by rw [← hq]; exact World.block_lt_of_cell? _ _ c1
  have HP := Lib.hid (pick_any _ B g k 4 S2.out (by omega) (by omega) (by omega))
  clear hb hr hgr
  have hn0 : (((n : Nat) : Int) == 0) = false := by simp; omega
  go_wp2_with fail
  rw [hq] at *
  refine HP.out.mono ?_
  rintro e w3 ⟨r, rfl, hr0, hr1, hg, hs⟩
  obtain ⟨m, rfl⟩ : ∃ m : Nat, r = m := ⟨r.toNat, by omega⟩
  have c3 := cell_only hg c2 (by show w.heap.size ≠ g; omega)
  have f3 := frozen_only hg c2 f2 (by show w.heap.size ≠ g; omega)
  have d3 := cell_only hg d2 (by show q ≠ g; omega)
  have R3 := Lib.hid (R2.out.only hg (by omega))
  have G3 := Lib.hid (only_step (only_below0 B2.out) hg)
  have S3 := Lib.hid hs
  clear hg hs HP c2 f2 d2 R2 S2 S1 c1 f1 B1 B2 HC hq
  go_wp2
  go_loopw [6, 7, 8] (fun i _ _ wr => ∃ j : Nat, ∃ ys : List Int, j ≤ 4 ∧ i = .int .i64 j ∧ Hid (ys.length = n) ∧ Hid (w.grownBy wr (some g)) ∧ Hid (Src wr B g (k + 2 + 4 * (4 - j))) ∧ wr.cell? ⟨q, 0, none⟩ = some (.slice (some ⟨gr, 0, none⟩) n cap) ∧ wr.cell? ⟨w.heap.size, 0, none⟩ = some (.slice none 0 0) ∧ wr.frozen? ⟨w.heap.size, 0, none⟩ = false ∧ Hid (Row wr gr ys ex)) (fun i _ _ _ => (intOf i).toNat)
  case atStart => exact ⟨m, xs, by omega, rfl, HN.out, G3.out, S3.out.more (by omega), d3, c3, f3, R3.out⟩
  case round =>
    obtain ⟨j, ys, hj, rfl, HY, HG, HS2, d, c, f, HR⟩ := hrel
    by_cases hlt : 0 < j
    · obtain ⟨t, rfl⟩ : ∃ t, j = t + 1 := ⟨j - 1, by omega⟩
      have j1 : (0 : Int) < ((t + 1 : Nat) : Int) := by omega
      have HPK := Lib.hid (pick_any wr B g (k + 2 + 4 * (4 - (t + 1))) n HS2.out (by omega) (by omega) (by omega))
      go_wp2_with fail
      refine HPK.out.mono ?_
      rintro e w4 ⟨r, rfl, hr2, hr3, hg, hs⟩
      obtain ⟨at_, rfl⟩ : ∃ m : Nat, r = m := ⟨r.toNat, by omega⟩
      have hat : at_ < ys.length := by rw [HY.out]; omega
      have c4 := cell_only hg c (by show w.heap.size ≠ g; omega)
      have f4 := frozen_only hg c f (by show w.heap.size ≠ g; omega)
      have d4 := cell_only hg d (by show q ≠ g; omega)
      have R4 := Lib.hid (HR.out.only hg (by omega))
      have G4 := Lib.hid (only_step HG.out hg)
      have S4 : Hid (Src w4.drew B g (k + 2 + 4 * (4 - (t + 1)) + 2)) := hs
      have y4 := R4.out.cell hat
      obtain ⟨y, hy⟩ : ∃ y, ys[at_]?.getD 0 = y := ⟨_, rfl⟩
      rw [hy] at y4
      have HAT := Lib.hid hat
      have HP2 := Lib.hid (pick_any w4.drew B g (k + 2 + 4 * (4 - (t + 1)) + 2) 12 S4.out (by omega) (by omega) (by omega))
      have d4d : w4.drew.cell? ⟨q, 0, none⟩ = some (.slice (some ⟨gr, 0, none⟩) n cap) := d4
      have c4d : w4.drew.cell? ⟨w.heap.size, 0, none⟩ = some (.slice none 0 0) := c4
      have f4d : w4.drew.frozen? ⟨w.heap.size, 0, none⟩ = false := f4
      have R4d : Hid (Row w4.drew gr ys ex) := R4
      have G4d : Hid (w.grownBy w4.drew (some g)) := ⟨G4.out.os, G4.out.tape, G4.out.output, G4.out.size, G4.out.block⟩
      clear hg hs HPK c f d HR HG HS2 hy hat
      go_wp2
      go_region_with (go_at_call 52; refine HP2.out.mono ?_; rintro e w5 ⟨u, rfl, hu0, hu1, hg, hs⟩; have c5 := cell_only hg c4d (by show w.heap.size ≠ g; omega); have f5 := frozen_only hg c4d f4d (by show w.heap.size ≠ g; omega); have d5 := cell_only hg d4d (by show q ≠ g; omega); have R5 := Lib.hid (R4d.out.only hg (by omega)); have G5 := Lib.hid (only_step G4d.out hg); have S5 := Lib.hid hs; have y5 := R5.out.cell HAT.out; have x5 := R5.out.frozen at_; obtain ⟨y', hy'⟩ : ∃ y, ys[at_]?.getD 0 = y := ⟨_, rfl⟩; rw [hy'] at y5; clear hg hs hy')
      all_goals
        go_wp2
        go_roundw
        case rel =>
          refine ⟨t, _, by omega, by go_num, ?_, only_far G5.out _ _ (by show w.heap.size ≤ gr; omega), (S5.out.far _ _ (by show g < gr; omega)).more (by omega), ?_, ?_, ?_, R5.out.set HAT.out _⟩
          · show _ = _
            rw [List.length_set]
            exact HY.out
          · rw [World.cell?_setCell_other _ _ _ _ (by intro e; injection e with e; omega)]
            exact d5
          · rw [World.cell?_setCell_other _ _ _ _ (by intro e; injection e with e; omega)]
            exact c5
          · rw [World.frozen?_setCell]
            exact f5
        case measure => simp [intOf]
    · obtain rfl : j = 0 := by omega
      have j1 : ¬ (0 : Int) < ((0 : Nat) : Int) := by omega
      have c5 := cell_put c (.slice (some ⟨gr, 0, none⟩) n cap)
      go_wp2
      refine bodyPost_ret (v := .agg #[.slice (some ⟨gr, 0, none⟩) n cap]) (by simp [results, Try.results76, go_sem, c5]) rfl ⟨some ⟨gr, 0, none⟩, cap, ys, by rw [HY.out], by rw [HY.out]; exact h64, fun _ => ⟨gr, ex, rfl, by omega, ?_⟩, ?_, ?_⟩
      · exact HR.out.far (by show gr ≠ w.heap.size; omega) _
      · exact only_far HG.out ⟨w.heap.size, 0, none⟩ _ (by simp)
      · exact (HS2.out.far ⟨w.heap.size, 0, none⟩ _ hglt).more (by omega)
end Go.Proofs.Ytjfogadcedgndaa
