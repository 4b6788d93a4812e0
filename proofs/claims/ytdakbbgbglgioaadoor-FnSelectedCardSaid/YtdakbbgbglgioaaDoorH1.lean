/- spec.ValidDeck and impl.ValidDeck answer whether a list has at most 40 cards, all valid and as wide as the first, for every list of at most 1048576 cards of at most 1048576 columns: contracts. -/
import Derived.Test.YtdakbbgbglgioaaDoorDecks
import Derived.Test.YtdakbbgbglgioaaDoorValid
import Derived.Deep.RegionHeld3
import Derived.Laws.StructEq
import Derived.Laws.Build
import Derived.Test.YtdakbbgbglgioaaDoorCompare
import Derived.Test.YtdakbbgbglgioaaDoorOwnMem
import Derived.Maps.AppendAt
import Derived.Deep.AppendLies
import Derived.OwnWalk
namespace Go.Proofs.YtdakbbgbglgioaaDoor
open Go.ChangeShapes Go.WideShapes Go.ChangeAt Go.RowKit

def goodB (z : Nat) (xs : List Int) : Bool := okB xs && decide (xs.length = z)
def firstZ (H : List (List Int)) : Nat := (H[0]?.getD []).length
def deckB (H : List (List Int)) : Bool := H.all (goodB (firstZ H)) && decide (H.length ≤ 40)

theorem all_more {α : Type} (p : α → Bool) (H : List α) (k : Nat) (x : α) (hx : H[k]? = some x) (h : (H.take k).all p = true) (e : p x = true) : (H.take (k + 1)).all p = true := by
  obtain ⟨h1, rfl⟩ := List.getElem?_eq_some_iff.1 hx
  rw [List.take_succ_eq_append_getElem h1, List.all_append, h]
  simp [e]
theorem all_bad {α : Type} (p : α → Bool) (H : List α) (k : Nat) (x : α) (hx : H[k]? = some x) (e : p x = false) : H.all p = false := by
  rw [List.all_eq_false]
  exact ⟨x, List.mem_of_getElem? hx, by simp [e]⟩

@[go_sem] theorem neq_shape (a c : Int) (b d : Bool) (w : World) : (binOp .neq 142 (.agg #[.int .i64 a, .bool b]) (.agg #[.int .i64 c, .bool d])).run Tryd.prog w = .ok (.bool (!(a == c && b == d))) w := by
  have u3 := Tryd.underlying2
  have u4 := Tryd.underlying4
  have ui := Tryd.underlying3
  have a3 := Tryd.isAgg3
  have z3 := Tryd.sizeOf3
  have a4 := Tryd.isAgg4
  have z4 := Tryd.sizeOf4
  have hS : Tryd.prog.underlying 142 = some (.struct (Tryd.prog.fieldsOf 142)) := by kernel_rfl
  have hp : Tryd.prog.stoodInHeld 142 = false := by kernel_rfl
  rw [run_neq_struct, show (10000 : Nat) = 9999 + 1 from rfl, run_equalIn_agg w 9999 142 _ _ hS hp]
  simp only [Program.fieldsOf, Tryd.underlying142]
  go_simp
  by_cases h1 : a = c <;> by_cases h2 : b = d <;> simp [h1, h2]
@[go_sem] theorem guard_shape (op : BinOp) (x y : Operand) (xs ys : Array Value) (w : World) : (eqGuard op 142 x y (.agg xs) (.agg ys)).run Tryd.prog w = .ok () w := run_eqGuard_agg w op _ x y xs ys (by kernel_rfl)

theorem l02Deck_any (A : Option Addr) (c : Nat) (D : List CardV) (B : Nat) (w : World) (h : Deck w B A D) (hB : B ≤ w.heap.size) (hn : D.length ≤ 1048576) (hl : ∀ d ∈ D, d.xs.length ≤ 1048576) :
    Calls Tryd.prog 45 #[.slice A D.length c] w fun e w' => e = .returned (.bool (deckB (holes D))) ∧ Below w.heap.size w w' := by
  obtain ⟨n, hN⟩ : ∃ n, D.length = n := ⟨_, rfl⟩
  obtain ⟨r, hr⟩ : ∃ r, deckB (holes D) = r := ⟨_, rfl⟩
  obtain ⟨z, hz⟩ : ∃ z, firstZ (holes D) = z := ⟨_, rfl⟩
  rw [hr]
  rw [hN] at hn ⊢
  have H := Lib.hid h
  have HN := Lib.hid hN
  have HR := Lib.hid hr
  have HZ := Lib.hid hz
  have HL := Lib.hid hl
  clear h hN hr hz hl
  go_enter Tryd.func45, Tryd.ntmps45
  go_wp2
  go_loopw [3] (fun i wr => ∃ k : Nat, k ≤ n ∧ i = .int .i64 k ∧ Hid (Below w.heap.size w wr) ∧ Hid (((holes D).take k).all (goodB z) = true)) (fun i _ => n - (intOf i).toNat)
  case atStart => exact ⟨0, Nat.zero_le _, rfl, Below.refl _ _, by show _ = _; simp⟩
  case round =>
    obtain ⟨k, hk, rfl, HB, HK⟩ := hrel
    by_cases hlt : k < n
    · obtain ⟨d, hd⟩ : ∃ d, D[k]? = some d := ⟨D[k]'(by rw [HN.out]; exact hlt), List.getElem?_eq_getElem _⟩
      obtain ⟨d0, hd0⟩ : ∃ d, D[0]? = some d := ⟨D[0]'(by rw [HN.out]; omega), List.getElem?_eq_getElem _⟩
      obtain ⟨b, off, rfl, hb, hcell⟩ := (H.out.below (HB.out.mono hB)) (by rw [HN.out]; omega)
      obtain ⟨hc, hi⟩ := hcell k d hd
      have hc0 : wr.cell? ⟨b, off, none⟩ = some d0.value := (hcell 0 d0 hd0).1
      have hm := HL.out d (List.mem_of_getElem? hd)
      have hm0 := HL.out d0 (List.mem_of_getElem? hd0)
      unfold CardV.value at hc hc0
      have hC : ∀ m, Calls Tryd.prog 46 #[.pointer (some ⟨b, off + k, none⟩)] (wr.drewN m) fun e w' => e = .returned (.bool (okB d.xs)) ∧ w' = wr.drewN m := fun m =>
        (l02Ok_any d.at_ d.cap d.xs B b (off + k) (wr.drewN m) hc (hi.drewN m) hm).mono fun _ _ hh => And.intro hh.1 hh.2.symm
      have hdx : (holes D)[k]? = some d.xs := by simp [holes, hd]
      have hz0 : d0.xs.length = z := by rw [← HZ.out]; simp [firstZ, holes, hd0]
      have hk0 : (0 : Int) ≤ (k : Int) := Int.natCast_nonneg _
      have hk1 : (k : Int) < (n : Int) := by omega
      have hk2 : (0 : Int) < (n : Int) := by omega
      obtain ⟨g, hg⟩ : ∃ g, okB d.xs = g := ⟨_, rfl⟩
      obtain ⟨m, hme⟩ : ∃ m, d.xs.length = m := ⟨_, rfl⟩
      rw [hg] at hC
      rw [hz0] at hc0
      rw [hme] at hc
      have HC := Lib.hid hC
      have HX := Lib.hid hdx
      have HG := Lib.hid hg
      have HM := Lib.hid hme
      clear hcell hd hd0 hi hdx hg hC hme hz0 hm hm0 H
      cases g
      · obtain rfl : r = false := by
          rw [← HR.out, deckB, HZ.out, all_bad _ _ k _ HX.out (by rw [goodB, HG.out]; rfl)]
          rfl
        go_wp2
        go_quiet ((go_at_call 46; exact Calls.quiet_of_same (HC.out _)))
        go_wp2
        go_ret
        exact ⟨rfl, below_drewN HB.out _⟩
      · by_cases hmz : m = z
        · subst hmz
          have HK1 : Hid (((holes D).take (k + 1)).all (goodB m) = true) := all_more _ _ k _ HX.out HK.out (by rw [goodB, HG.out, HM.out]; simp)
          go_wp2
          go_quiet ((go_at_call 46; exact Calls.quiet_of_same (HC.out _)))
          go_wp2
          go_roundw
          case rel => exact ⟨k + 1, by omega, by go_num, below_drewN HB.out _, HK1⟩
          case measure => simp [intOf]; omega
        · obtain rfl : r = false := by
            rw [← HR.out, deckB, HZ.out, all_bad _ _ k _ HX.out (by rw [goodB, HG.out, HM.out]; simp [hmz])]
            rfl
          have hne : ((m : Int) != (z : Int)) = true := by rw [bne_iff_ne]; omega
          go_wp2
          go_quiet ((go_at_call 46; exact Calls.quiet_of_same (HC.out _)))
          go_wp2
          go_ret
          exact ⟨rfl, below_drewN HB.out _⟩
    · have hkn : k = n := by omega
      obtain rfl : r = decide ((n : Int) ≤ 40) := by
        rw [← HR.out, deckB, HZ.out]
        have := HK.out
        rw [List.take_of_length_le (by simp [holes]; rw [HN.out]; omega)] at this
        rw [this, Bool.true_and]
        simp only [holes, List.length_map, HN.out]
        congr 1
        simp only [eq_iff_iff]
        omega
      have hk1 : ¬ (k : Int) < (n : Int) := by omega
      clear hkn H
      go_wp2
      go_ret
      exact ⟨rfl, HB.out⟩

theorem specValidDeck_any (A : Option Addr) (c : Nat) (D : List CardV) (B : Nat) (w : World) (h : Deck w B A D) (hB : B ≤ w.heap.size) (hn : D.length ≤ 1048576) (hl : ∀ d ∈ D, d.xs.length ≤ 1048576) :
    Calls Tryd.prog 15 #[.slice A D.length c] w fun e w' => e = .returned (.bool (deckB (holes D))) ∧ Below w.heap.size w w' := by
  have HC := Lib.hid (l02Deck_any A c D B w h hB hn hl)
  obtain ⟨n, hN⟩ : ∃ n, D.length = n := ⟨_, rfl⟩
  obtain ⟨r, hr⟩ : ∃ r, deckB (holes D) = r := ⟨_, rfl⟩
  rw [hN, hr] at HC
  rw [hN, hr]
  clear h hl hN hr hn
  go_enter Tryd.func15, Tryd.ntmps15
  go_wp2_with (go_at_call 45; refine HC.out.mono ?_; rintro e w2 ⟨rfl, hb2⟩; have HB2 := Lib.hid hb2; clear hb2)
  go_ret
  exact ⟨rfl, HB2.out⟩

theorem implValidDeck_any (A : Option Addr) (c : Nat) (D : List CardV) (B : Nat) (w : World) (h : Deck w B A D) (hB : B ≤ w.heap.size) (hn : D.length ≤ 1048576) (hl : ∀ d ∈ D, d.xs.length ≤ 1048576) :
    Calls Tryd.prog 86 #[.slice A D.length c] w fun e w' => e = .returned (.bool (deckB (holes D))) ∧ Below w.heap.size w w' := by
  obtain ⟨n, hN⟩ : ∃ n, D.length = n := ⟨_, rfl⟩
  obtain ⟨r, hr⟩ : ∃ r, deckB (holes D) = r := ⟨_, rfl⟩
  obtain ⟨z, hz⟩ : ∃ z, firstZ (holes D) = z := ⟨_, rfl⟩
  rw [hr]
  rw [hN] at hn ⊢
  have H := Lib.hid h
  have HN := Lib.hid hN
  have HR := Lib.hid hr
  have HZ := Lib.hid hz
  have HL := Lib.hid hl
  clear h hN hr hz hl
  by_cases h40 : (40 : Int) < (n : Int)
  · obtain rfl : r = false := by
      rw [← HR.out, deckB]
      have : ¬ (holes D).length ≤ 40 := by simp only [holes, List.length_map, HN.out]; omega
      simp [this]
    clear H
    go_enter Tryd.func86, Tryd.ntmps86
    go_wp2
    go_ret
    exact ⟨rfl, Below.refl _ _⟩
  · go_enter Tryd.func86, Tryd.ntmps86
    go_wp2
    go_loopw [10] (fun i wr => ∃ k : Nat, k ≤ n ∧ i = .int .i64 k ∧ Hid (Below w.heap.size w wr) ∧ Hid (((holes D).take k).all (goodB z) = true)) (fun i _ => n - (intOf i).toNat)
    case atStart => exact ⟨0, Nat.zero_le _, rfl, Below.refl _ _, by show _ = _; simp⟩
    case round =>
      obtain ⟨k, hk, rfl, HB, HK⟩ := hrel
      by_cases hlt : k < n
      · obtain ⟨d, hd⟩ : ∃ d, D[k]? = some d := ⟨D[k]'(by rw [HN.out]; exact hlt), List.getElem?_eq_getElem _⟩
        obtain ⟨d0, hd0⟩ : ∃ d, D[0]? = some d := ⟨D[0]'(by rw [HN.out]; omega), List.getElem?_eq_getElem _⟩
        obtain ⟨b, off, rfl, hb, hcell⟩ := (H.out.below (HB.out.mono hB)) (by rw [HN.out]; omega)
        obtain ⟨hc, hi⟩ := hcell k d hd
        have hc0 : wr.cell? ⟨b, off, none⟩ = some d0.value := (hcell 0 d0 hd0).1
        have hm := HL.out d (List.mem_of_getElem? hd)
        unfold CardV.value at hc hc0
        have hlt0 := World.block_lt_of_cell? _ _ hc0
        have hS := fun W hh hb => shape_any d.at_ d.cap d.xs B W hh hb hm
        have hdx : (holes D)[k]? = some d.xs := by simp [holes, hd]
        have hz0 : d0.xs.length = z := by rw [← HZ.out]; simp [firstZ, holes, hd0]
        have hk0 : (0 : Int) ≤ (k : Int) := Int.natCast_nonneg _
        have hk1 : (k : Int) < (n : Int) := by omega
        have hk2 : (0 : Int) < (n : Int) := by omega
        have hk3 : 0 < n := by omega
        obtain ⟨g, hg⟩ : ∃ g, okB d.xs = g := ⟨_, rfl⟩
        obtain ⟨m, hme⟩ : ∃ m, d.xs.length = m := ⟨_, rfl⟩
        rw [hz0] at hc0
        rw [hg, hme] at hS
        rw [hme] at hc
        have HS := Lib.hid hS
        have HX := Lib.hid hdx
        have HG := Lib.hid hg
        have HM := Lib.hid hme
        have HI := Lib.hid hi
        clear hcell hd hd0 hi hdx hg hS hme hz0 hm H
        by_cases hgood : g = true ∧ m = z
        · obtain ⟨rfl, rfl⟩ := hgood
          have HK1 : Hid (((holes D).take (k + 1)).all (goodB m) = true) := all_more _ _ k _ HX.out HK.out (by rw [goodB, HG.out, HM.out]; simp)
          go_wp2_with fail
          have B1 := Lib.hid (below_step HB.out (below_box wr (.cells #[.slice d.at_ m d.cap] 36)))
          have c1 : (wr.alloc (.cells #[.slice d.at_ m d.cap] 36)).cell? ⟨wr.heap.size, 0, none⟩ = some (.slice d.at_ m d.cap) := by simp
          have d1 : (wr.alloc (.cells #[.slice d.at_ m d.cap] 36)).cell? ⟨b, off, none⟩ = some (.slice d0.at_ m d0.cap) := by rw [World.cell?_alloc_lt _ _ _ hlt0]; exact hc0
          have I1 := Lib.hid (HI.out.alloc (Nat.le_trans hB HB.out.size) (.cells #[.slice d.at_ m d.cap] 36))
          clear HI hc hc0
          go_region_held3 (fun W => W.cell? ⟨wr.heap.size, 0, none⟩ = some (.slice d.at_ m d.cap) ∧ W.cell? ⟨b, off, none⟩ = some (.slice d0.at_ m d0.cap))
            (first | exact ⟨c1, d1⟩ | exact ⟨c2, d2⟩)
            (first
              | (go_at_call 94
                 refine (HS.out _ ?_ ?_).mono ?_
                 · exact I1.out.drew
                 · exact Nat.le_trans hB B1.out.drew.size
                 rintro e2 w2 ⟨rfl, hb2⟩
                 have B2 := Lib.hid (below_step B1.out.drew hb2)
                 have c2 := cell_kept (w := (wr.alloc (.cells #[.slice d.at_ m d.cap] 36)).drew) c1 hb2
                 have d2 := cell_kept (w := (wr.alloc (.cells #[.slice d.at_ m d.cap] 36)).drew) d1 hb2
                 clear hb2))
          go_wp2
          go_roundw
          case rel => exact ⟨k + 1, by omega, by go_num, B2.out, HK1⟩
          case measure => simp [intOf]; omega
        · obtain rfl : r = false := by
            rw [← HR.out, deckB, HZ.out, all_bad _ _ k _ HX.out (by rw [goodB, HG.out, HM.out]; cases g <;> simp_all)]
            rfl
          cases g
          · clear hgood
            go_wp2_with fail
            have B1 := Lib.hid (below_step HB.out (below_box wr (.cells #[.slice d.at_ m d.cap] 36)))
            have c1 : (wr.alloc (.cells #[.slice d.at_ m d.cap] 36)).cell? ⟨wr.heap.size, 0, none⟩ = some (.slice d.at_ m d.cap) := by simp
            have d1 : (wr.alloc (.cells #[.slice d.at_ m d.cap] 36)).cell? ⟨b, off, none⟩ = some (.slice d0.at_ z d0.cap) := by rw [World.cell?_alloc_lt _ _ _ hlt0]; exact hc0
            have I1 := Lib.hid (HI.out.alloc (Nat.le_trans hB HB.out.size) (.cells #[.slice d.at_ m d.cap] 36))
            clear HI hc hc0
            go_region_held3 (fun W => W.cell? ⟨wr.heap.size, 0, none⟩ = some (.slice d.at_ m d.cap) ∧ W.cell? ⟨b, off, none⟩ = some (.slice d0.at_ z d0.cap))
              (first | exact ⟨c1, d1⟩ | exact ⟨c2, d2⟩)
              (first
                | (go_at_call 94
                   refine (HS.out _ ?_ ?_).mono ?_
                   · exact I1.out.drew
                   · exact Nat.le_trans hB B1.out.drew.size
                   rintro e2 w2 ⟨rfl, hb2⟩
                   have B2 := Lib.hid (below_step B1.out.drew hb2)
                   have c2 := cell_kept (w := (wr.alloc (.cells #[.slice d.at_ m d.cap] 36)).drew) c1 hb2
                   have d2 := cell_kept (w := (wr.alloc (.cells #[.slice d.at_ m d.cap] 36)).drew) d1 hb2
                   clear hb2))
            go_wp2
            go_ret
            exact ⟨rfl, B2.out⟩
          · have hne : ¬ m = z := fun hh => hgood ⟨rfl, hh⟩
            have hnf : ((m : Int) == (z : Int)) = false := by rw [beq_eq_false_iff_ne]; omega
            clear hgood
            go_wp2_with fail
            have B1 := Lib.hid (below_step HB.out (below_box wr (.cells #[.slice d.at_ m d.cap] 36)))
            have c1 : (wr.alloc (.cells #[.slice d.at_ m d.cap] 36)).cell? ⟨wr.heap.size, 0, none⟩ = some (.slice d.at_ m d.cap) := by simp
            have d1 : (wr.alloc (.cells #[.slice d.at_ m d.cap] 36)).cell? ⟨b, off, none⟩ = some (.slice d0.at_ z d0.cap) := by rw [World.cell?_alloc_lt _ _ _ hlt0]; exact hc0
            have I1 := Lib.hid (HI.out.alloc (Nat.le_trans hB HB.out.size) (.cells #[.slice d.at_ m d.cap] 36))
            clear HI hc hc0
            go_region_held3 (fun W => W.cell? ⟨wr.heap.size, 0, none⟩ = some (.slice d.at_ m d.cap) ∧ W.cell? ⟨b, off, none⟩ = some (.slice d0.at_ z d0.cap))
              (first | exact ⟨c1, d1⟩ | exact ⟨c2, d2⟩)
              (first
                | (go_at_call 94
                   refine (HS.out _ ?_ ?_).mono ?_
                   · exact I1.out.drew
                   · exact Nat.le_trans hB B1.out.drew.size
                   rintro e2 w2 ⟨rfl, hb2⟩
                   have B2 := Lib.hid (below_step B1.out.drew hb2)
                   have c2 := cell_kept (w := (wr.alloc (.cells #[.slice d.at_ m d.cap] 36)).drew) c1 hb2
                   have d2 := cell_kept (w := (wr.alloc (.cells #[.slice d.at_ m d.cap] 36)).drew) d1 hb2
                   clear hb2))
            go_wp2
            go_ret
            exact ⟨rfl, B2.out⟩
      · have hkn : k = n := by omega
        obtain rfl : r = true := by
          rw [← HR.out, deckB, HZ.out]
          have := HK.out
          rw [List.take_of_length_le (by simp [holes]; rw [HN.out]; omega)] at this
          rw [this, Bool.true_and]
          simp only [holes, List.length_map, HN.out, decide_eq_true_eq]
          omega
        have hk1 : ¬ (k : Int) < (n : Int) := by omega
        clear hkn H
        go_wp2
        go_ret
        exact ⟨rfl, HB.out⟩
end Go.Proofs.YtdakbbgbglgioaaDoor

/- How many columns the cards of a deck have: spec.l07Width and impl.widthOf: contracts. -/
namespace Go.Proofs.YtdakbbgbglgioaaDoor
open Go.ChangeShapes Go.WideShapes Go.ChangeAt Go.RowKit

/-- how many columns the cards have, 20 where there are none -/
def widthH (H : List (List Int)) : Nat := if H.length = 0 then 20 else firstZ H

theorem deck_width {H : List (List Int)} (h : deckB H = true) {k : Nat} {xs : List Int} (hk : H[k]? = some xs) : okB xs = true ∧ xs.length = widthH H := by
  rw [deckB, Bool.and_eq_true] at h
  have hm := List.mem_of_getElem? hk
  have := List.all_eq_true.1 h.1 xs hm
  rw [goodB, Bool.and_eq_true, decide_eq_true_eq] at this
  have h0 : H.length ≠ 0 := by
    intro e
    rw [List.length_eq_zero_iff] at e
    rw [e] at hm
    cases hm
  rw [widthH, if_neg h0]
  exact this
theorem deck_len {H : List (List Int)} (h : deckB H = true) : H.length ≤ 40 := by
  rw [deckB, Bool.and_eq_true, decide_eq_true_eq] at h
  exact h.2

theorem l07Width_any (A : Option Addr) (c : Nat) (D : List CardV) (B : Nat) (w : World) (h : Deck w B A D) (hn : D.length ≤ 1048576) (hl : ∀ d ∈ D, d.xs.length ≤ 1048576) :
    Calls Tryd.prog 69 #[.slice A D.length c] w fun e w' => e = .returned (.int .i64 (widthH (holes D))) ∧ Below w.heap.size w w' := by
  by_cases h0 : D.length = 0
  · have e : widthH (holes D) = 20 := by simp [widthH, holes, h0]
    rw [e, h0]
    clear h hl e h0 hn
    go_enter Tryd.func69, Tryd.ntmps69
    go_wp2
    go_ret
    exact ⟨rfl, Below.refl _ _⟩
  · obtain ⟨d, hd⟩ : ∃ d, D[0]? = some d := ⟨D[0]'(by omega), List.getElem?_eq_getElem _⟩
    have e : widthH (holes D) = d.xs.length := by
      rw [widthH, if_neg (by simpa [holes] using h0)]
      simp [firstZ, holes, hd]
    rw [e]
    obtain ⟨b, off, rfl, hb, hcell⟩ := h (by omega)
    have hc : w.cell? ⟨b, off, none⟩ = some d.value := (hcell 0 d hd).1
    have hm := hl d (List.mem_of_getElem? hd)
    unfold CardV.value at hc
    obtain ⟨n, hN⟩ : ∃ n, D.length = n := ⟨_, rfl⟩
    obtain ⟨m, hM⟩ : ∃ m, d.xs.length = m := ⟨_, rfl⟩
    rw [hM] at hc hm ⊢
    rw [hN] at hn h0 ⊢
    have i0 : ((n : Int) == 0) = false := by simp; omega
    have i1 : (0 : Int) < (n : Int) := by omega
    clear hcell hl e hd hb hN hM h
    go_enter Tryd.func69, Tryd.ntmps69
    go_wp2
    go_ret
    exact ⟨rfl, Below.refl _ _⟩

theorem widthOf_any (A : Option Addr) (c : Nat) (D : List CardV) (B : Nat) (w : World) (h : Deck w B A D) (hn : D.length ≤ 1048576) (hl : ∀ d ∈ D, d.xs.length ≤ 1048576) :
    Calls Tryd.prog 36 #[.slice A D.length c] w fun e w' => e = .returned (.int .i64 (widthH (holes D))) ∧ Below w.heap.size w w' := by
  by_cases h0 : D.length = 0
  · have e : widthH (holes D) = 20 := by simp [widthH, holes, h0]
    rw [e, h0]
    clear h hl e h0 hn
    go_enter Tryd.func36, Tryd.ntmps36
    go_wp2
    go_ret
    exact ⟨rfl, Below.refl _ _⟩
  · obtain ⟨d, hd⟩ : ∃ d, D[0]? = some d := ⟨D[0]'(by omega), List.getElem?_eq_getElem _⟩
    have e : widthH (holes D) = d.xs.length := by
      rw [widthH, if_neg (by simpa [holes] using h0)]
      simp [firstZ, holes, hd]
    rw [e]
    obtain ⟨b, off, rfl, hb, hcell⟩ := h (by omega)
    have hc : w.cell? ⟨b, off, none⟩ = some d.value := (hcell 0 d hd).1
    have hm := hl d (List.mem_of_getElem? hd)
    unfold CardV.value at hc
    obtain ⟨n, hN⟩ : ∃ n, D.length = n := ⟨_, rfl⟩
    obtain ⟨m, hM⟩ : ∃ m, d.xs.length = m := ⟨_, rfl⟩
    rw [hM] at hc hm ⊢
    rw [hN] at hn h0 ⊢
    have i0 : ((n : Int) == 0) = false := by simp; omega
    have i1 : (0 : Int) < (n : Int) := by omega
    clear hcell hl e hd hb hN hM h
    go_enter Tryd.func36, Tryd.ntmps36
    go_wp2
    go_ret
    exact ⟨rfl, Below.refl _ _⟩
end Go.Proofs.YtdakbbgbglgioaaDoor

/- What sorting looks at, as plain functions: the number of columns of a deck, whether the columns of a field have characters, the code, and where the first step is. -/
namespace Go.Proofs.YtdakbbgbglgioaaDoor
open Go.ChangeShapes Go.WideShapes Go.ChangeAt Go.RowKit

/-- whether the columns from i to j of all cards have characters -/
def keysB (H : List (List Int)) (i j : Nat) : Bool := H.all fun xs => textOk (partOf xs i j)
/-- the code of a deck and a field -/
def keysC (H : List (List Int)) (a b : Int) : Int := if deckB H = false then 1 else if fieldB a b (widthH H) = false then 2 else if keysB H a.toNat b.toNat = false then 8 else 0
theorem keysC_cases (H : List (List Int)) (a b : Int) : (keysC H a b = 1 ∧ deckB H = false) ∨ (keysC H a b = 2 ∧ deckB H = true ∧ fieldB a b (widthH H) = false) ∨
    (∃ i j : Nat, a = i ∧ b = j ∧ i < j ∧ j ≤ widthH H ∧ deckB H = true ∧ fieldB i j (widthH H) = true ∧ keysC H a b = if keysB H i j = false then 8 else 0) := by
  unfold keysC
  cases h1 : deckB H
  · left; simp
  · cases h2 : fieldB a b (widthH H)
    · right; left; simp
    · right; right
      have h' : 0 ≤ a ∧ a < b ∧ b ≤ (widthH H : Int) := by simpa [fieldB] using h2
      have ha : a = (a.toNat : Int) := by omega
      have hb : b = (b.toNat : Int) := by omega
      refine ⟨a.toNat, b.toNat, ha, hb, by omega, by omega, rfl, ?_, ?_⟩
      · rw [← ha, ← hb]; exact h2
      · rw [if_neg (by simp), if_neg (by simp)]

/-- how two cards compare by the columns from i to j -/
def cmpK (H : List (List Int)) (i j p q : Nat) : Int := cmpTo (partOf (H[p]?.getD []) i j) (partOf (H[q]?.getD []) i j) (j - i)
/-- the first k from there on, m of them, with q -/
def stepFrom (q : Nat → Bool) : Nat → Nat → Int
  | 0, _ => -1
  | m + 1, k => if q k = true then (k : Int) else stepFrom q m (k + 1)
theorem stepFrom_succ (q : Nat → Bool) (m k : Nat) : stepFrom q (m + 1) k = if q k = true then (k : Int) else stepFrom q m (k + 1) := rfl
def lessB (H : List (List Int)) (i j k : Nat) : Bool := decide (cmpK H i j k (k - 1) < 0)
/-- the first card that is less than the one before it, -1 if there is none -/
def stepV (H : List (List Int)) (i j : Nat) : Int := stepFrom (lessB H i j) (H.length - 1) 1

theorem keysB_more {H : List (List Int)} {i j k : Nat} {xs : List Int} (hk : H[k]? = some xs) (h : keysB (H.take k) i j = true) (e : textOk (partOf xs i j) = true) : keysB (H.take (k + 1)) i j = true :=
  all_more _ H k xs hk h e
theorem keysB_bad {H : List (List Int)} {i j k : Nat} {xs : List Int} (hk : H[k]? = some xs) (e : textOk (partOf xs i j) = false) : keysB H i j = false :=
  all_bad _ H k xs hk e
theorem keysB_at {H : List (List Int)} {i j k : Nat} {xs : List Int} (hk : H[k]? = some xs) (h : keysB H i j = true) : textOk (partOf xs i j) = true :=
  List.all_eq_true.1 h xs (List.mem_of_getElem? hk)
end Go.Proofs.YtdakbbgbglgioaaDoor

/- spec.l07Keys gives the texts of a field of all cards of a deck, or the code; spec.l07Step finds the first text that is less than the one before it: contracts. -/
namespace Go.Proofs.YtdakbbgbglgioaaDoor
open Go.ChangeShapes Go.WideShapes Go.ChangeAt Go.RowKit

theorem info_key : (Tryd.prog.info? 9).map (fun i => (i.zero, i.size, i.bytes)) = some (some (.string ⟨#[]⟩), 1, 16) := by kernel_rfl

/-- the text of a card's field -/
def keyS (i j : Nat) (d : CardV) : ByteArray := textS (partOf d.xs i j)
def keyL (D : List CardV) (i j k : Nat) : List ByteArray := (D.take k).map (keyS i j)
theorem keyL_succ {D : List CardV} {i j k : Nat} {d : CardV} (h : D[k]? = some d) : keyL D i j (k + 1) = keyL D i j k ++ [keyS i j d] := by
  unfold keyL
  rw [List.take_add_one, h, List.map_append]
  rfl
theorem keyL_length {D : List CardV} {i j k : Nat} (h : k ≤ D.length) : (keyL D i j k).length = k := by simp [keyL]; omega
/-- the texts lie in block g -/
def KeyRow (w : World) (g : Nat) (D : List CardV) (i j : Nat) : Prop := ∀ k d, D[k]? = some d → w.cell? ⟨g, k, none⟩ = some (.string (keyS i j d))
/-- a slice of the texts -/
def GivesKeys (D : List CardV) (i j : Nat) (w : World) (e : Ending) (w' : World) : Prop :=
  ∃ A cap, e = .returned (.tuple #[.slice A D.length cap, .int .i64 0]) ∧ Below w.heap.size w w' ∧ (0 < D.length → ∃ g, A = some ⟨g, 0, none⟩ ∧ g < w'.heap.size ∧ KeyRow w' g D i j)
def GivesNoKeys (a : Int) (w : World) (e : Ending) (w' : World) : Prop :=
  e = .returned (.tuple #[.slice none 0 0, .int .i64 a]) ∧ Below w.heap.size w w'

/-- a deck whose cards' capacities are right -/
def CapsOk (D : List CardV) : Prop := ∀ d ∈ D, d.xs.length ≤ d.cap ∧ d.cap ≤ 9223372036854775807

theorem own_key {w w' : World} {base : Nat} {v v' : Value} {ws : List ByteArray} {x : ByteArray} {W : World} {B : Nat}
    (hown : w'.ownsRow base 9 1 v' (ws.length + 1) (ws.map Value.string ++ [.string x])) (hgrow : (w.alloc (.cells #[.string x] 9)).grownBy w' v.ownBlock)
    (hold : w.ownsRow base 9 1 v ws.length (ws.map Value.string)) (hb : Below B W w) (hB : B ≤ base) (hs : B ≤ w.heap.size) :
    w'.ownsRow base 9 1 v' (ws ++ [x]).length ((ws ++ [x]).map Value.string) ∧ Below B W w' := by
  refine ⟨by simpa using hown, ?_⟩
  exact (hb.alloc hs _).grown hgrow (by simp; omega) (fun k hk => Nat.le_trans hB (hold.lt k hk).1)

section
variable (A : Option Addr) (c : Nat) (D : List CardV) (B : Nat) (a b : Int) (w : World) (h : Deck w B A D) (hB : B ≤ w.heap.size) (hn : D.length ≤ 1048576) (hl : ∀ d ∈ D, d.xs.length ≤ 1048576)
include h hB hn hl
set_option maxRecDepth 100000 in
set_option maxHeartbeats 4000000 in
theorem l07Keys_any (hcap : CapsOk D) :
    Calls Tryd.prog 32 #[.slice A D.length c, .agg #[.int .i64 a, .int .i64 b]] w fun e w' => (keysC (holes D) a b ≠ 0 ∧ GivesNoKeys (keysC (holes D) a b) w e w') ∨ (keysC (holes D) a b = 0 ∧ GivesKeys D a.toNat b.toNat w e w') := by
  have b0 := below_box w (.cells #[.int .i64 a, .int .i64 b] 26)
  have p0 : (w.alloc (.cells #[.int .i64 a, .int .i64 b] 26)).cell? ⟨w.heap.size, 0, none⟩ = some (.int .i64 a) := by simp
  have p1 : (w.alloc (.cells #[.int .i64 a, .int .i64 b] 26)).cell? ⟨w.heap.size, 1, none⟩ = some (.int .i64 b) := by simp
  have hd := fun W (hW : Below B w W) => l02Deck_any A c D B W (h.below hW) (Nat.le_trans hB hW.size) hn hl
  have hw := fun W (hW : Below B w W) => l07Width_any A c D B W (h.below hW) hn hl
  have hf := fun W => l02Field_any a b (widthH (holes D)) W
  have HH := Lib.hid h
  have HL := Lib.hid hl
  have HCP := Lib.hid hcap
  have HD := Lib.hid hd
  have HW := Lib.hid hw
  have HF := Lib.hid hf
  have B0 := Lib.hid (b0.mono hB)
  have BW := Lib.hid b0
  obtain ⟨n, hN⟩ : ∃ n, D.length = n := ⟨_, rfl⟩
  obtain ⟨z, hz⟩ : ∃ z, widthH (holes D) = z := ⟨_, rfl⟩
  have HN := Lib.hid hN
  have HZ := Lib.hid hz
  simp only [hN, hz] at HD HW HF hn ⊢
  clear h hl hcap hd hw hf b0 hN hz
  rcases keysC_cases (holes D) a b with ⟨e, hv⟩ | ⟨e, hv, hf⟩ | ⟨i, j, rfl, rfl, hij, hj, hv, hf, e⟩
  · rw [e]
    simp only [hv] at HD
    clear e hv HW HF HH HCP HL HZ p0 p1
    go_enter Tryd.func32, Tryd.ntmps32
    go_wp2_with fail
    refine (HD.out _ B0.out).mono ?_
    rintro e w1 ⟨rfl, hb⟩
    have B1 := Lib.hid (below_step BW.out hb)
    clear hb
    go_wp2
    go_ret2
    exact Or.inl ⟨by decide, rfl, B1.out⟩
  · rw [e]
    simp only [hv] at HD
    rw [HZ.out] at hf
    simp only [hf] at HF
    clear e hv hf HH HCP HL HZ
    go_enter Tryd.func32, Tryd.ntmps32
    go_wp2_with fail
    refine (HD.out _ B0.out).mono ?_
    rintro e w1 ⟨rfl, hb⟩
    have B1 := Lib.hid (below_step BW.out hb)
    have B2 := Lib.hid (B0.out.trans (hb.mono (Nat.le_trans hB (by simp))))
    have q0 := cell_kept p0 hb
    have q1 := cell_kept p1 hb
    clear hb
    go_wp2_with fail
    go_region_held3 (fun W => W.cell? ⟨w.heap.size, 0, none⟩ = some (.int .i64 a) ∧ W.cell? ⟨w.heap.size, 1, none⟩ = some (.int .i64 b))
      (first | exact ⟨q0, q1⟩ | exact ⟨cell_kept (w := w1.drew) q0 K1.out, cell_kept (w := w1.drew) q1 K1.out⟩ | exact ⟨cell_kept (cell_kept (w := w1.drew) q0 K1.out) K3.out, cell_kept (cell_kept (w := w1.drew) q1 K1.out) K3.out⟩)
      (first
        | (go_at_call 69
           refine (HW.out _ B2.out.drew).mono ?_
           rintro e w2 ⟨rfl, hb⟩
           have K1 : Hid (Below w1.drew.heap.size w1.drew w2) := hb
           clear hb)
        | (go_at_call 47
           refine (HF.out _).mono ?_
           rintro e w3 ⟨rfl, hb⟩
           have K2 := Lib.hid (below_step (below_step B1.out.drew K1.out) hb)
           have K3 := Lib.hid hb
           clear hb))
    all_goals
      go_wp2
      go_ret2
      exact Or.inl ⟨by decide, rfl, K2.out⟩
  · simp only [hv] at HD
    have HV := Lib.hid hv
    have hn40 : n ≤ 40 := by
      have := deck_len hv
      rw [← HN.out]
      simpa [holes] using this
    have hf' := hf
    rw [HZ.out] at hf'
    simp only [hf'] at HF
    have HJ := Lib.hid hj
    rw [Int.toNat_natCast, Int.toNat_natCast]
    obtain ⟨r, hr⟩ : ∃ r, keysB (holes D) i j = r := ⟨_, rfl⟩
    rw [hr] at e
    rw [e]
    have HR := Lib.hid hr
    have hi0 : (0 : Int) ≤ (i : Int) := Int.natCast_nonneg _
    obtain ⟨i0, hi0', hz0, hz1, hz2⟩ := info_parts info_key
    clear hf hf' hv e hr hj
    go_enter Tryd.func32, Tryd.ntmps32
    go_wp2_with fail
    refine (HD.out _ B0.out).mono ?_
    rintro e w1 ⟨rfl, hb⟩
    have B1 := Lib.hid (below_step BW.out hb)
    have B2 := Lib.hid (B0.out.trans (hb.mono (Nat.le_trans hB (by simp))))
    have q0 := cell_kept p0 hb
    have q1 := cell_kept p1 hb
    clear hb p0 p1
    go_wp2_with fail
    go_region_held3 (fun W => W.cell? ⟨w.heap.size, 0, none⟩ = some (.int .i64 i) ∧ W.cell? ⟨w.heap.size, 1, none⟩ = some (.int .i64 j))
      (first | exact ⟨q0, q1⟩ | exact ⟨r0, r1⟩ | exact ⟨s0, s1⟩)
      (first
        | (go_at_call 69
           refine (HW.out _ B2.out.drew).mono ?_
           rintro e w2 ⟨rfl, hb⟩
           have K1 : Hid (Below w1.drew.heap.size w1.drew w2) := hb
           have r0 := cell_kept (w := w1.drew) q0 K1.out
           have r1 := cell_kept (w := w1.drew) q1 K1.out
           clear hb)
        | (go_at_call 47
           refine (HF.out _).mono ?_
           rintro e w3 ⟨rfl, hb⟩
           have K2 := Lib.hid (below_step (below_step B1.out.drew K1.out) hb)
           have K4 := Lib.hid ((B2.out.drew.trans (K1.out.mono (Nat.le_trans hB (Nat.le_of_lt (World.block_lt_of_cell? _ _ q0))))).trans (hb.mono (Nat.le_trans hB (Nat.le_of_lt (World.block_lt_of_cell? _ _ r0)))))
           have s0 := cell_kept r0 hb
           have s1 := cell_kept r1 hb
           clear hb))
    all_goals
      have z3 : w.heap.size < w3.heap.size := World.block_lt_of_cell? _ _ s0
      clear q0 q1 r0 r1 K1 B1 B2
      go_wp2_with fail
      go_loopw [6, 7] (fun v t wr => ∃ k : Nat, ∃ vv : Value, k ≤ n ∧ t = .int .i64 k ∧ vv = v ∧ Hid (keysB ((holes D).take k) i j = true) ∧ Hid (wr.ownsRow w3.heap.size 9 1 v (keyL D i j k).length ((keyL D i j k).map Value.string)) ∧ Hid (Below w3.heap.size w3 wr)) (fun _ t _ => n - (intOf t).toNat)
      case atStart =>
        refine ⟨0, _, Nat.zero_le _, rfl, rfl, by show _ = _; simp [keysB], ?_, below_box _ _⟩
        exact ⟨rfl, Or.inr ⟨w3.heap.size, 0, #[], rfl, Nat.le_refl _, heap_alloc_new _ _, Nat.le_refl _, Nat.zero_le _, rfl, rfl⟩⟩
      case round =>
        obtain ⟨k, vv, hk, rfl, rfl, HK, HO, HB⟩ := hrel
        have t0 := cell_kept s0 HB.out
        have t1 := cell_kept s1 HB.out
        have hwr : w3.heap.size ≤ wr.heap.size := HB.out.size
        by_cases hlt : k < n
        · obtain ⟨d, hd⟩ : ∃ d, D[k]? = some d := ⟨D[k]'(by rw [HN.out]; exact hlt), List.getElem?_eq_getElem _⟩
          have hdx : (holes D)[k]? = some d.xs := by simp [holes, hd]
          obtain ⟨g1, g2⟩ := deck_width HV.out hdx
          have hxl : 0 < d.xs.length := by have := HJ.out; omega
          obtain ⟨bq, oq, rfl, _, hcell⟩ := (HH.out.below (K4.out.trans (HB.out.mono (Nat.le_trans hB (by omega))))) (by rw [HN.out]; omega)
          obtain ⟨hc, hi⟩ := hcell k d hd
          have hm := List.mem_of_getElem? hd
          obtain ⟨m1, m2⟩ := HCP.out d hm
          have hx1 := HL.out d hm
          obtain ⟨ad, zd, xd⟩ := d
          simp only at hc hi m1 m2 hx1 g1 g2 hxl hdx
          unfold CardV.value at hc
          simp only at hc
          obtain ⟨b2, o2, rfl, _⟩ := hi hxl
          have hkey := fun W hc hI hs => l03Key_any b2 o2 zd xd bq (oq + k) i j B W hc hI hs m1 ⟨hx1, m2⟩ hij (by rw [g2]; exact HJ.out)
          obtain ⟨u, hu⟩ : ∃ u, textOk (partOf xd i j) = u := ⟨_, rfl⟩
          have Hu := Lib.hid hu
          have HDX := Lib.hid hdx
          have Hd := Lib.hid hd
          simp only [hu] at hkey
          have HKY := Lib.hid hkey
          have hk0 : (0 : Int) ≤ (k : Int) := Int.natCast_nonneg _
          have hk1 : (k : Int) < (n : Int) := by omega
          have HI := Lib.hid hi
          have HXL := Lib.hid hxl
          have hlen := keyL_length (D := D) (i := i) (j := j) (k := k) (by rw [HN.out]; exact hk)
          clear hcell hd hi hkey hdx hu m1 m2 hx1 g1 g2 hxl hm
          cases u
          · obtain rfl : r = false := by rw [← HR.out]; exact keysB_bad HDX.out Hu.out
            go_wp2_with fail
            go_region_held3 (fun W => W.cell? ⟨w.heap.size, 0, none⟩ = some (.int .i64 i) ∧ W.cell? ⟨w.heap.size, 1, none⟩ = some (.int .i64 j))
              (first | exact ⟨t0, t1⟩ | exact ⟨u0, u1⟩)
              (first
                | (go_at_call 48
                   refine (HKY.out _ ?_ ?_ ?_).mono ?_
                   · exact hc
                   · exact HI.out.drew
                   · exact Nat.le_trans hB (by show w.heap.size ≤ wr.heap.size; omega)
                   rintro e w5 ⟨rfl, hb⟩
                   have HB5 := Lib.hid (below_step HB.out.drew hb)
                   have u0 := cell_kept (w := wr.drew) t0 hb
                   have u1 := cell_kept (w := wr.drew) t1 hb
                   clear hb))
            all_goals
              go_wp2
              go_ret2
              exact ⟨rfl, below_step K2.out HB5.out⟩
          · have HK1 : Hid (keysB ((holes D).take (k + 1)) i j = true) := keysB_more HDX.out HK.out Hu.out
            have HKS := Lib.hid (keyL_succ (i := i) (j := j) Hd.out)
            obtain ⟨S, hS⟩ : ∃ S, keyS i j ⟨some ⟨b2, o2, none⟩, zd, xd⟩ = S := ⟨_, rfl⟩
            have hS' : textS (partOf xd i j) = S := hS
            simp only [hS'] at HKY
            rw [hS] at HKS
            obtain ⟨ws, hws⟩ : ∃ ws, keyL D i j k = ws := ⟨_, rfl⟩
            rw [hws] at HO HKS hlen
            clear hS hS' hws HDX Hu Hd
            go_wp2_with fail
            go_region_held3 (fun W => W.cell? ⟨w.heap.size, 0, none⟩ = some (.int .i64 i) ∧ W.cell? ⟨w.heap.size, 1, none⟩ = some (.int .i64 j))
              (first | exact ⟨t0, t1⟩ | exact ⟨u0, u1⟩)
              (first
                | (go_at_call 48
                   refine (HKY.out _ ?_ ?_ ?_).mono ?_
                   · exact hc
                   · exact HI.out.drew
                   · exact Nat.le_trans hB (by show w.heap.size ≤ wr.heap.size; omega)
                   rintro e w5 ⟨rfl, hb⟩
                   have HB5 := Lib.hid (below_step HB.out.drew hb)
                   have u0 := cell_kept (w := wr.drew) t0 hb
                   have u1 := cell_kept (w := wr.drew) t1 hb
                   have HO5 : Hid (w5.ownsRow w3.heap.size 9 1 vv ws.length (ws.map Value.string)) := own_moved HO.out (fun x _ hx => hb.block x hx)
                   have z5 : w3.heap.size ≤ w5.heap.size := Nat.le_trans hwr hb.size
                   clear hb))
            all_goals
              go_wp2_with (at_builtin; refine wpList_append_own _ rfl _ _ 62 rfl w3.heap.size 9 i0 (.string ⟨#[]⟩) 1 16 Tryd.underlying62 hi0' hz0 hz1 hz2 rfl (by decide) _ _ _ rfl (HO5.out.alloc _) ⟨w5.heap.size, 0, none⟩ 1 1 [.string S] rfl rfl ?c1 ?c2 ?c3 ?c4 ?c5 ?_; rotate_left 5; intro v' w9 hown hgrow _; obtain ⟨ho, hbb⟩ := own_key hown hgrow HO5.out HB5.out (Nat.le_refl _) z5; have HW1 := Lib.hid ho; have HB1 := Lib.hid hbb; clear hown hgrow ho hbb)
              case c1 =>
                intro j u hj
                match j, hj with
                | 0, hj => simp at hj; subst hj; simp [Addr.add]
              case c2 => intro u hu; simp at hu; subst hu; rfl
              case c3 => unfold maxLen; omega
              case c4 => omega
              case c5 => simp; omega
              go_roundw
              case rel => exact ⟨k + 1, _, by omega, by go_num, rfl, HK1, by rw [HKS.out]; exact HW1, HB1⟩
              case measure => simp [intOf]; omega
        · have hkn : k = n := by omega
          have hk1 : ¬ (k : Int) < (n : Int) := by omega
          obtain rfl : r = true := by
            rw [← HR.out]
            have := HK.out
            rwa [List.take_of_length_le (by simp [holes]; rw [HN.out]; omega)] at this
          have hlen := keyL_length (D := D) (i := i) (j := j) (k := n) (by rw [HN.out]; exact Nat.le_refl _)
          have HE : Hid (∃ A cap, vv = .slice A n cap ∧ (0 < n → ∃ g, A = some ⟨g, 0, none⟩ ∧ g < wr.heap.size ∧ KeyRow wr g D i j)) := by
            have how := HO.out
            rw [hkn, hlen] at how
            rcases how.2 with ⟨hv, h0⟩ | ⟨g, cap, cur, hv, hgb, hh, x1, x2, x3, x4⟩
            · exact ⟨none, 0, by rw [hv]; congr 1; omega, fun hh => absurd hh (by omega)⟩
            · refine ⟨_, cap, hv, fun _ => ⟨g, rfl, ?_, ?_⟩⟩
              · rcases Nat.lt_or_ge g wr.heap.size with h | h
                · exact h
                · rw [Array.getElem?_eq_none h] at hh
                  cases hh
              · intro q d hq
                subst hv
                have := how.cells (g := g) rfl q (.string (keyS i j d)) (by
                  rw [List.getElem?_map, keyL, List.getElem?_map, List.getElem?_take_of_lt (by
                    have := HN.out
                    rcases Nat.lt_or_ge q D.length with h | h
                    · omega
                    · rw [List.getElem?_eq_none h] at hq; cases hq), hq]
                  rfl)
                cases q with
                | zero => simpa [Addr.add] using this
                | succ q => simpa [Addr.add] using this
          clear hkn HO HK
          go_wp2
          go_ret2
          obtain ⟨A', cap, hv, hr⟩ := HE.out
          refine ⟨A', cap, ?_, below_step K2.out HB.out, ?_⟩
          · rw [HN.out, ← hv]; rfl
          · rw [HN.out]; exact hr
end
end Go.Proofs.YtdakbbgbglgioaaDoor

/- spec.l07Step finds the first text that is less than the one before it; spec.FirstStep and spec.IsSorted answer so for a deck and a field: contracts. -/
namespace Go.Proofs.YtdakbbgbglgioaaDoor
open Go.ChangeShapes Go.WideShapes Go.ChangeAt Go.RowKit

theorem holes_at {D : List CardV} {k : Nat} {d : CardV} (h : D[k]? = some d) : (holes D)[k]? = some d.xs := by simp [holes, h]
theorem cmpK_at {D : List CardV} {i j p q : Nat} {d e : CardV} (h : D[p]? = some d) (h' : D[q]? = some e) : cmpK (holes D) i j p q = cmpTo (partOf d.xs i j) (partOf e.xs i j) (j - i) := by
  rw [cmpK, holes_at h, holes_at h']
  rfl
/-- one round of the search -/
theorem step_yes {H : List (List Int)} {i j t n : Nat} {r : Int} (hs : stepFrom (lessB H i j) (n - (t + 1)) (t + 1) = r) (ht : t + 1 < n) (hl : cmpK H i j (t + 1) t < 0) : r = ((t + 1 : Nat) : Int) := by
  rw [show n - (t + 1) = (n - (t + 1) - 1) + 1 by omega, stepFrom_succ, if_pos (by simpa [lessB] using hl)] at hs
  exact hs.symm
theorem step_no {H : List (List Int)} {i j t n : Nat} {r : Int} (hs : stepFrom (lessB H i j) (n - (t + 1)) (t + 1) = r) (ht : t + 1 < n) (hl : ¬ cmpK H i j (t + 1) t < 0) : stepFrom (lessB H i j) (n - (t + 1 + 1)) (t + 1 + 1) = r := by
  rw [show n - (t + 1) = (n - (t + 1 + 1)) + 1 by omega, stepFrom_succ, if_neg (by simpa [lessB] using hl)] at hs
  exact hs
theorem step_end {q : Nat → Bool} {t n : Nat} {r : Int} (hs : stepFrom q (n - (t + 1)) (t + 1) = r) (ht : ¬ t + 1 < n) : r = -1 := by
  rw [show n - (t + 1) = 0 by omega] at hs
  exact hs.symm

set_option maxHeartbeats 1000000 in
theorem l07Step_any (A : Option Addr) (c : Nat) (D : List CardV) (i j : Nat) (w : World) (hr : 0 < D.length → ∃ g, A = some ⟨g, 0, none⟩ ∧ g < w.heap.size ∧ KeyRow w g D i j) (hv : deckB (holes D) = true) (hk : keysB (holes D) i j = true) (hij : i < j) (hj : j ≤ widthH (holes D)) :
    Calls Tryd.prog 42 #[.slice A D.length c] w fun e w' => e = .returned (.int .i64 (stepV (holes D) i j)) ∧ Below w.heap.size w w' := by
  obtain ⟨r, hrr⟩ : ∃ r, stepV (holes D) i j = r := ⟨_, rfl⟩
  rw [hrr]
  rw [stepV, show (holes D).length = D.length by simp [holes]] at hrr
  have hn40 : D.length ≤ 40 := by
    have := deck_len hv
    simpa [holes] using this
  obtain ⟨n, hN⟩ : ∃ n, D.length = n := ⟨_, rfl⟩
  rw [hN] at hrr hn40 hr ⊢
  have HR := Lib.hid hr
  have HN := Lib.hid hN
  have HV := Lib.hid hv
  have HK := Lib.hid hk
  have HRR := Lib.hid hrr
  have HJ := Lib.hid hj
  clear hr hN hv hk hrr hj
  go_enter Tryd.func42, Tryd.ntmps42
  go_wp2
  go_loopw [3] (fun x wr => ∃ t : Nat, (t + 1 ≤ n ∨ t = 0) ∧ x = .int .i64 ((t : Int) + 1) ∧ Hid (Below w.heap.size w wr) ∧ Hid (stepFrom (lessB (holes D) i j) (n - (t + 1)) (t + 1) = r)) (fun x _ => n + 1 - (intOf x).toNat)
  case atStart => exact ⟨0, Or.inr rfl, rfl, Below.refl _ _, HRR⟩
  case round =>
    obtain ⟨t, ht, rfl, HB, HS⟩ := hrel
    by_cases hlt : t + 1 < n
    · obtain ⟨g, rfl, hg, hrow⟩ := HR.out (by omega)
      obtain ⟨d, hd⟩ : ∃ d, D[t + 1]? = some d := ⟨D[t + 1]'(by rw [HN.out]; exact hlt), List.getElem?_eq_getElem _⟩
      obtain ⟨e, he⟩ : ∃ e, D[t]? = some e := ⟨D[t]'(by rw [HN.out]; omega), List.getElem?_eq_getElem _⟩
      have c1 := cell_kept (hrow (t + 1) d hd) HB.out
      have c2 := cell_kept (hrow t e he) HB.out
      obtain ⟨g1, g2⟩ := deck_width HV.out (holes_at hd)
      obtain ⟨g3, g4⟩ := deck_width HV.out (holes_at he)
      have o1 := keysB_at (holes_at hd) HK.out
      have o2 := keysB_at (holes_at he) HK.out
      have l1 := partOf_length d.xs i j (by rw [g2]; exact HJ.out)
      have l2 := partOf_length e.xs i j (by rw [g4]; exact HJ.out)
      have z1 : (textS (partOf d.xs i j)).size = j - i := by rw [← l1]; exact textL_length _
      have z2 : (textS (partOf e.xs i j)).size = j - i := by rw [← l2]; exact textL_length _
      have h20 := (okB_parts g1).2
      have hc := fun W => l03Compare_any (textS (partOf d.xs i j)) (textS (partOf e.xs i j)) (partOf d.xs i j) (partOf e.xs i j) (j - i) z1 z2 l1 l2 (fun k h => textS_get _ k h) (fun k h => textS_get _ k h) o1 o2 (by have := HJ.out; omega) W
      have hck := cmpK_at (i := i) (j := j) hd he
      rw [keyS] at c1 c2
      obtain ⟨S1, e1⟩ : ∃ S, textS (partOf d.xs i j) = S := ⟨_, rfl⟩
      obtain ⟨S2, e2⟩ : ∃ S, textS (partOf e.xs i j) = S := ⟨_, rfl⟩
      obtain ⟨v, ev⟩ : ∃ v, cmpTo (partOf d.xs i j) (partOf e.xs i j) (j - i) = v := ⟨_, rfl⟩
      rw [ev] at hck
      simp only [e1, e2, ev] at hc
      rw [e1] at c1
      rw [e2] at c2
      have HC : Hid (∀ m, Calls Tryd.prog 49 #[.string S1, .string S2] (wr.drewN m) fun e w' => e = .returned (.int .i64 v) ∧ w' = wr.drewN m) := fun m => (hc _).mono fun _ _ hh => ⟨hh.1, hh.2.symm⟩
      have HCK := Lib.hid hck
      have t0 : (0 : Int) ≤ (t : Int) := Int.natCast_nonneg _
      have t1 : (t : Int) + 1 < (n : Int) := by omega
      have t2 : (t : Int) < (n : Int) := by omega
      have t3 : (0 : Int) ≤ (t : Int) + 1 := by omega
      clear hrow hd he g1 g2 g3 g4 o1 o2 l1 l2 z1 z2 h20 hc hck e1 e2 ev HR HV HK
      by_cases hv0 : v < 0
      · obtain rfl := step_yes HS.out hlt (by rw [HCK.out]; exact hv0)
        go_wp2
        go_quiet ((go_at_call 49; exact Calls.quiet_of_same (HC.out _)))
        go_wp2
        go_ret
        exact ⟨by simp, below_drewN HB.out _⟩
      · have HS1 := Lib.hid (step_no HS.out hlt (by rw [HCK.out]; exact hv0))
        go_wp2
        go_quiet ((go_at_call 49; exact Calls.quiet_of_same (HC.out _)))
        go_wp2
        go_roundw
        case rel => exact ⟨t + 1, Or.inl (by omega), by go_num, below_drewN HB.out _, HS1⟩
        case measure => simp [intOf]; omega
    · obtain rfl := step_end HS.out hlt
      have t1 : ¬ (t : Int) + 1 < (n : Int) := by omega
      go_wp2
      go_ret
      exact ⟨rfl, HB.out⟩

/-- what FirstStep answers -/
def stepA (H : List (List Int)) (a b : Int) : Int := if keysC H a b = 0 then stepV H a.toNat b.toNat else 0
def sortedA (H : List (List Int)) (a b : Int) : Bool := if keysC H a b = 0 then decide (stepV H a.toNat b.toNat < 0) else false
theorem keysC_zero {H : List (List Int)} {a b : Int} (h : keysC H a b = 0) : ∃ i j : Nat, a = i ∧ b = j ∧ i < j ∧ j ≤ widthH H ∧ deckB H = true ∧ keysB H i j = true := by
  rcases keysC_cases H a b with ⟨e, _⟩ | ⟨e, _⟩ | ⟨i, j, ha, hb, hij, hj, hv, hf, e⟩
  · rw [e] at h; exact absurd h (by decide)
  · rw [e] at h; exact absurd h (by decide)
  · refine ⟨i, j, ha, hb, hij, hj, hv, ?_⟩
    rw [e] at h
    cases hk : keysB H i j
    · rw [hk] at h; exact absurd h (by decide)
    · rfl

section
variable (A : Option Addr) (c : Nat) (D : List CardV) (B : Nat) (a b : Int) (w : World) (h : Deck w B A D) (hB : B ≤ w.heap.size) (hn : D.length ≤ 1048576) (hl : ∀ d ∈ D, d.xs.length ≤ 1048576)
include h hB hn hl

end
end Go.Proofs.YtdakbbgbglgioaaDoor
