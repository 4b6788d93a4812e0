/- A deck and passes for it: spec.l07Width and impl.widthOf, and impl.checkPasses: contracts. -/
import Derived.Test.YtfffdlmpiglojaaDoorPocket
import Derived.Test.YtfffdlmpiglojaaDoorPassMem
import Derived.Test.YtfffdlmpiglojaaDoorSortWidth
namespace Go.Proofs.YtfffdlmpiglojaaDoor
open Go.ChangeShapes Go.WideShapes Go.ChangeAt Go.RowKit

/-- whether all passes are ones of n columns -/
def passesB (P : List (Int × Int)) (n : Nat) : Bool := P.all fun p => passB p.1 p.2 n
/-- the code of a deck and passes -/
def passesC (H : List (List Int)) (P : List (Int × Int)) : Int := if deckB H = false then 1 else if 40 < P.length then 2 else if passesB P (widthH H) = false then 2 else 0

theorem checkPasses_any (A A' : Option Addr) (c c' : Nat) (D : List CardV) (P : List (Int × Int)) (B B' : Nat) (w : World) (h : Deck w B A D) (h' : Passes w B' A' P) (hB : B ≤ w.heap.size) (hB' : B' ≤ w.heap.size) (hn : D.length ≤ 1048576) (hl : ∀ d ∈ D, d.xs.length ≤ 1048576) (hn' : P.length ≤ 1048576) :
    Calls Tryd.prog 50 #[.slice A D.length c, .slice A' P.length c'] w fun e w' => e = .returned (.int .i64 (passesC (holes D) P)) ∧ Below w.heap.size w w' := by
  have ho := implValidDeck_any A c D B w h hB hn hl
  have hw := fun W (hW : Below w.heap.size w W) => widthOf_any A c D B W (h.below (hW.mono hB)) hn hl
  obtain ⟨n, hN⟩ : ∃ n, D.length = n := ⟨_, rfl⟩
  obtain ⟨m, hM⟩ : ∃ m, P.length = m := ⟨_, rfl⟩
  obtain ⟨r, hr⟩ : ∃ r, passesC (holes D) P = r := ⟨_, rfl⟩
  obtain ⟨z, hz⟩ : ∃ z, widthH (holes D) = z := ⟨_, rfl⟩
  rw [hr]
  rw [passesC, hz] at hr
  simp only [hN, hz] at ho hw ⊢
  rw [hM] at hr hn' ⊢
  cases hd : deckB (holes D)
  · rw [hd] at ho
    obtain rfl : r = 1 := by rw [← hr, hd]; rfl
    have HO := Lib.hid ho
    clear ho hw h h' hr
    go_enter Tryd.func50, Tryd.ntmps50
    go_wp2_with fail
    refine HO.out.mono ?_
    rintro e w1 ⟨rfl, hb⟩
    have B1 := Lib.hid hb
    clear hb
    go_wp2
    go_ret
    exact ⟨rfl, B1.out⟩
  · rw [hd] at ho hr
    have HO := Lib.hid ho
    have HW := Lib.hid hw
    have H' := Lib.hid h'
    have HMM := Lib.hid hM
    rw [if_neg (by simp)] at hr
    by_cases h40 : 40 < m
    · obtain rfl : r = 2 := by rw [← hr, if_pos h40]
      have i1 : (m : Int) > 40 := by omega
      clear ho hw h h' hr hM
      go_enter Tryd.func50, Tryd.ntmps50
      go_wp2_with fail
      refine HO.out.mono ?_
      rintro e w1 ⟨rfl, hb⟩
      have B1 := Lib.hid hb
      clear hb
      go_wp2
      go_ret
      exact ⟨rfl, B1.out⟩
    · rw [if_neg h40] at hr
      have HR := Lib.hid hr
      have i1 : ¬ (m : Int) > 40 := by omega
      clear ho hw h h' hr hM
      go_enter Tryd.func50, Tryd.ntmps50
      go_wp2_with fail
      refine HO.out.mono ?_
      rintro e w1 ⟨rfl, hb⟩
      have B1 := Lib.hid hb
      clear hb
      go_wp2_with fail
      go_loopw [15] (fun i wr => ∃ k : Nat, k ≤ m ∧ i = .int .i64 k ∧ Hid (Below w.heap.size w wr) ∧ Hid (passesB (P.take k) z = true)) (fun i _ => m - (intOf i).toNat)
      case atStart => exact ⟨0, Nat.zero_le _, rfl, B1, by show _ = _; simp [passesB]⟩
      case round =>
        obtain ⟨k, hk, rfl, HB, HK⟩ := hrel
        by_cases hlt : k < m
        · obtain ⟨q, hq⟩ : ∃ q, P[k]? = some q := ⟨P[k]'(by rw [HMM.out]; exact hlt), List.getElem?_eq_getElem _⟩
          obtain ⟨b, off, rfl, hb, hcell⟩ := (H'.out.below (HB.out.mono hB')) (by rw [HMM.out]; omega)
          obtain ⟨c1, c2⟩ := hcell k q hq
          obtain ⟨q1, q2⟩ := q
          simp only at c1 c2
          have k0 : (0 : Int) ≤ (k : Int) := Int.natCast_nonneg _
          have k1 : (k : Int) < (m : Int) := by omega
          have HF := Lib.hid (fun W => isFor_any q1 q2 z W)
          obtain ⟨t, ht⟩ : ∃ t, passB q1 q2 z = t := ⟨_, rfl⟩
          simp only [ht] at HF
          have Hq := Lib.hid hq
          have Ht := Lib.hid ht
          have bx := below_box wr (.cells #[.int .i64 q1, .int .i64 q2] 60)
          have p0 : (wr.alloc (.cells #[.int .i64 q1, .int .i64 q2] 60)).cell? ⟨wr.heap.size, 0, none⟩ = some (.int .i64 q1) := by simp
          have p1 : (wr.alloc (.cells #[.int .i64 q1, .int .i64 q2] 60)).cell? ⟨wr.heap.size, 1, none⟩ = some (.int .i64 q2) := by simp
          have BB := Lib.hid (below_step HB.out bx)
          clear hcell hq ht bx hb
          go_wp2_with fail
          go_region_held3 (fun W => W.cell? ⟨wr.heap.size, 0, none⟩ = some (.int .i64 q1) ∧ W.cell? ⟨wr.heap.size, 1, none⟩ = some (.int .i64 q2))
            (first | exact ⟨p0, p1⟩ | exact ⟨cell_kept p0 K1.out, cell_kept p1 K1.out⟩ | exact ⟨cell_kept (cell_kept p0 K1.out) K3.out, cell_kept (cell_kept p1 K1.out) K3.out⟩ | go_keep)
            (first
              | (go_at_call 68
                 refine (HW.out _ BB.out.drew).mono ?_
                 rintro e w2 ⟨rfl, hb⟩
                 have K1 : Hid (Below (wr.alloc (.cells #[.int .i64 q1, .int .i64 q2] 60)).heap.size (wr.alloc (.cells #[.int .i64 q1, .int .i64 q2] 60)) w2) := ⟨hb.os, hb.tape, hb.output, hb.size, hb.block⟩
                 clear hb)
              | (go_at_call 80
                 refine (HF.out _).mono ?_
                 rintro e w3 ⟨rfl, hb⟩
                 have K2 := Lib.hid (below_step (below_step BB.out K1.out) hb)
                 have K3 := Lib.hid hb
                 clear hb))
          cases t
          · obtain rfl : r = 2 := by
              rw [← HR.out, passesB, all_bad _ _ k _ Hq.out Ht.out, if_pos rfl]
            all_goals
              go_wp2
              go_ret
              exact ⟨rfl, K2.out⟩
          · have HK1 : Hid (passesB (P.take (k + 1)) z = true) := all_more _ _ k _ Hq.out HK.out Ht.out
            all_goals
              go_wp2
              go_roundw
              case rel => exact ⟨k + 1, by omega, by go_num, K2, HK1⟩
              case measure => simp [intOf]; omega
        · have hkm : k = m := by omega
          have k1 : ¬ (k : Int) < (m : Int) := by omega
          obtain rfl : r = 0 := by
            have := HK.out
            rw [List.take_of_length_le (by rw [HMM.out]; omega)] at this
            rw [← HR.out, this]
            rfl
          clear hkm
          go_wp2
          go_ret
          exact ⟨rfl, HB.out⟩
end Go.Proofs.YtfffdlmpiglojaaDoor
