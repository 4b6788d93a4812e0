/- spec.ValidDeck and impl.ValidDeck answer whether a list has at most 40 cards, all valid and as wide as the first, for every list of at most 1048576 cards of at most 1048576 columns: contracts. -/
import Derived.Test.YtamookdlbmbncaaDoorDecks
import Derived.Test.YtamookdlbmbncaaDoorValid
import Derived.Deep.RegionHeld3
import Derived.Laws.StructEq
import Derived.Laws.Build
namespace Go.Proofs.YtamookdlbmbncaaDoor
open Go.ChangeShapes Go.WideShapes Go.ChangeAt Go.RowKit

def goodB (z : Nat) (xs : List Int) : Bool := okB xs && decide (xs.length = z)
def firstZ (H : List (List Int)) : Nat := (H[0]?.getD []).length
def deckB (H : List (List Int)) : Bool := H.all (goodB (firstZ H)) && decide (H.length ≤ 40)

theorem all_more {α : Type} (p : α → Bool) (H : List α) (k : Nat) (x : α) (hx : H[k]? = some x) (h : (H.take k).all p = true) (e : p x = true) : (H.take (k + 1)).all p = true := by
  obtain ⟨h1, rfl⟩ := List.getElem?_eq_some_iff.1 hx
  rw [List.take_succ_eq_append_getElem h1, List.all_append, h]
  simp [e]
theorem all_bad {α : Type} (p : α → Bool) (H : List α) (k : Nat) (x : α) (hx : H[k]? = some x) (e : p x = false) : H.all p = false := by
  rw [List.all_eq_false]
  exact ⟨x, List.mem_of_getElem? hx, by simp [e]⟩

@[go_sem] theorem neq_shape (a c : Int) (b d : Bool) (w : World) : (binOp .neq 89 (.agg #[.int .i64 a, .bool b]) (.agg #[.int .i64 c, .bool d])).run Tryd.prog w = .ok (.bool (!(a == c && b == d))) w := by
  have u3 := Tryd.underlying2
  have u4 := Tryd.underlying4
  have ui := Tryd.underlying3
  have a3 := Tryd.isAgg3
  have z3 := Tryd.sizeOf3
  have a4 := Tryd.isAgg4
  have z4 := Tryd.sizeOf4
  have hS : Tryd.prog.underlying 89 = some (.struct (Tryd.prog.fieldsOf 89)) := by kernel_rfl
  have hp : Tryd.prog.stoodInHeld 89 = false := by kernel_rfl
  rw [run_neq_struct, show (10000 : Nat) = 9999 + 1 from rfl, run_equalIn_agg w 9999 89 _ _ hS hp]
  simp only [Program.fieldsOf, Tryd.underlying89]
  go_simp
  by_cases h1 : a = c <;> by_cases h2 : b = d <;> simp [h1, h2]
@[go_sem] theorem guard_shape (op : BinOp) (x y : Operand) (xs ys : Array Value) (w : World) : (eqGuard op 89 x y (.agg xs) (.agg ys)).run Tryd.prog w = .ok () w := run_eqGuard_agg w op _ x y xs ys (by kernel_rfl)

theorem l02Deck_any (A : Option Addr) (c : Nat) (D : List CardV) (B : Nat) (w : World) (h : Deck w B A D) (hB : B ≤ w.heap.size) (hn : D.length ≤ 1048576) (hl : ∀ d ∈ D, d.xs.length ≤ 1048576) :
    Calls Tryd.prog 24 #[.slice A D.length c] w fun e w' => e = .returned (.bool (deckB (holes D))) ∧ Below w.heap.size w w' := by
  obtain ⟨n, hN⟩ : ∃ n, D.length = n := ⟨_, rfl⟩
  obtain ⟨r, hr⟩ : ∃ r, deckB (holes D) = r := ⟨_, rfl⟩
  obtain ⟨z, hz⟩ : ∃ z, firstZ (holes D) = z := ⟨_, rfl⟩
  rw [hr]
  rw [hN] at hn ⊢
  have H := Lib.hid h
  have HN := Lib.hid hN
  have HR := Lib.hid hr
  have HZ := Lib.hid hz
  have HL := Lib.hid hl
  clear h hN hr hz hl
  go_enter Tryd.func24, Tryd.ntmps24
  go_wp2
  go_loopw [3] (fun i wr => ∃ k : Nat, k ≤ n ∧ i = .int .i64 k ∧ Hid (Below w.heap.size w wr) ∧ Hid (((holes D).take k).all (goodB z) = true)) (fun i _ => n - (intOf i).toNat)
  case atStart => exact ⟨0, Nat.zero_le _, rfl, Below.refl _ _, by show _ = _; simp⟩
  case round =>
    obtain ⟨k, hk, rfl, HB, HK⟩ := hrel
    by_cases hlt : k < n
    · obtain ⟨d, hd⟩ : ∃ d, D[k]? = some d := ⟨D[k]'(by rw [HN.out]; exact hlt), List.getElem?_eq_getElem _⟩
      obtain ⟨d0, hd0⟩ : ∃ d, D[0]? = some d := ⟨D[0]'(by rw [HN.out]; omega), List.getElem?_eq_getElem _⟩
      obtain ⟨b, off, rfl, hb, hcell⟩ := (H.out.below (HB.out.mono hB)) (by rw [HN.out]; omega)
      obtain ⟨hc, hi⟩ := hcell k d hd
      have hc0 : wr.cell? ⟨b, off, none⟩ = some d0.value := (hcell 0 d0 hd0).1
      have hm := HL.out d (List.mem_of_getElem? hd)
      have hm0 := HL.out d0 (List.mem_of_getElem? hd0)
      unfold CardV.value at hc hc0
      have hC : ∀ m, Calls Tryd.prog 54 #[.pointer (some ⟨b, off + k, none⟩)] (wr.drewN m) fun e w' => e = .returned (.bool (okB d.xs)) ∧ w' = wr.drewN m := fun m =>
        (l02Ok_any d.at_ d.cap d.xs B b (off + k) (wr.drewN m) hc (hi.drewN m) hm).mono fun _ _ hh => And.intro hh.1 hh.2.symm
      have hdx : (holes D)[k]? = some d.xs := by simp [holes, hd]
      have hz0 : d0.xs.length = z := by rw [← HZ.out]; simp [firstZ, holes, hd0]
      have hk0 : (0 : Int) ≤ (k : Int) := Int.natCast_nonneg _
      have hk1 : (k : Int) < (n : Int) := by omega
      have hk2 : (0 : Int) < (n : Int) := by omega
      obtain ⟨g, hg⟩ : ∃ g, okB d.xs = g := ⟨_, rfl⟩
      obtain ⟨m, hme⟩ : ∃ m, d.xs.length = m := ⟨_, rfl⟩
      rw [hg] at hC
      rw [hz0] at hc0
      rw [hme] at hc
      have HC := Lib.hid hC
      have HX := Lib.hid hdx
      have HG := Lib.hid hg
      have HM := Lib.hid hme
      clear hcell hd hd0 hi hdx hg hC hme hz0 hm hm0 H
      cases g
      · obtain rfl : r = false := by
          rw [← HR.out, deckB, HZ.out, all_bad _ _ k _ HX.out (by rw [goodB, HG.out]; rfl)]
          rfl
        go_wp2
        go_quiet ((go_at_call 54; exact Calls.quiet_of_same (HC.out _)))
        go_wp2
        go_ret
        exact ⟨rfl, below_drewN HB.out _⟩
      · by_cases hmz : m = z
        · subst hmz
          have HK1 : Hid (((holes D).take (k + 1)).all (goodB m) = true) := all_more _ _ k _ HX.out HK.out (by rw [goodB, HG.out, HM.out]; simp)
          go_wp2
          go_quiet ((go_at_call 54; exact Calls.quiet_of_same (HC.out _)))
          go_wp2
          go_roundw
          case rel => exact ⟨k + 1, by omega, by go_num, below_drewN HB.out _, HK1⟩
          case measure => simp [intOf]; omega
        · obtain rfl : r = false := by
            rw [← HR.out, deckB, HZ.out, all_bad _ _ k _ HX.out (by rw [goodB, HG.out, HM.out]; simp [hmz])]
            rfl
          have hne : ((m : Int) != (z : Int)) = true := by rw [bne_iff_ne]; omega
          go_wp2
          go_quiet ((go_at_call 54; exact Calls.quiet_of_same (HC.out _)))
          go_wp2
          go_ret
          exact ⟨rfl, below_drewN HB.out _⟩
    · have hkn : k = n := by omega
      obtain rfl : r = decide ((n : Int) ≤ 40) := by
        rw [← HR.out, deckB, HZ.out]
        have := HK.out
        rw [List.take_of_length_le (by simp [holes]; rw [HN.out]; omega)] at this
        rw [this, Bool.true_and]
        simp only [holes, List.length_map, HN.out]
        congr 1
        simp only [eq_iff_iff]
        omega
      have hk1 : ¬ (k : Int) < (n : Int) := by omega
      clear hkn H
      go_wp2
      go_ret
      exact ⟨rfl, HB.out⟩

theorem implValidDeck_any (A : Option Addr) (c : Nat) (D : List CardV) (B : Nat) (w : World) (h : Deck w B A D) (hB : B ≤ w.heap.size) (hn : D.length ≤ 1048576) (hl : ∀ d ∈ D, d.xs.length ≤ 1048576) :
    Calls Tryd.prog 31 #[.slice A D.length c] w fun e w' => e = .returned (.bool (deckB (holes D))) ∧ Below w.heap.size w w' := by
  obtain ⟨n, hN⟩ : ∃ n, D.length = n := ⟨_, rfl⟩
  obtain ⟨r, hr⟩ : ∃ r, deckB (holes D) = r := ⟨_, rfl⟩
  obtain ⟨z, hz⟩ : ∃ z, firstZ (holes D) = z := ⟨_, rfl⟩
  rw [hr]
  rw [hN] at hn ⊢
  have H := Lib.hid h
  have HN := Lib.hid hN
  have HR := Lib.hid hr
  have HZ := Lib.hid hz
  have HL := Lib.hid hl
  clear h hN hr hz hl
  by_cases h40 : (40 : Int) < (n : Int)
  · obtain rfl : r = false := by
      rw [← HR.out, deckB]
      have : ¬ (holes D).length ≤ 40 := by simp only [holes, List.length_map, HN.out]; omega
      simp [this]
    clear H
    go_enter Tryd.func31, Tryd.ntmps31
    go_wp2
    go_ret
    exact ⟨rfl, Below.refl _ _⟩
  · go_enter Tryd.func31, Tryd.ntmps31
    go_wp2
    go_loopw [10] (fun i wr => ∃ k : Nat, k ≤ n ∧ i = .int .i64 k ∧ Hid (Below w.heap.size w wr) ∧ Hid (((holes D).take k).all (goodB z) = true)) (fun i _ => n - (intOf i).toNat)
    case atStart => exact ⟨0, Nat.zero_le _, rfl, Below.refl _ _, by show _ = _; simp⟩
    case round =>
      obtain ⟨k, hk, rfl, HB, HK⟩ := hrel
      by_cases hlt : k < n
      · obtain ⟨d, hd⟩ : ∃ d, D[k]? = some d := ⟨D[k]'(by rw [HN.out]; exact hlt), List.getElem?_eq_getElem _⟩
        obtain ⟨d0, hd0⟩ : ∃ d, D[0]? = some d := ⟨D[0]'(by rw [HN.out]; omega), List.getElem?_eq_getElem _⟩
        obtain ⟨b, off, rfl, hb, hcell⟩ := (H.out.below (HB.out.mono hB)) (by rw [HN.out]; omega)
        obtain ⟨hc, hi⟩ := hcell k d hd
        have hc0 : wr.cell? ⟨b, off, none⟩ = some d0.value := (hcell 0 d0 hd0).1
        have hm := HL.out d (List.mem_of_getElem? hd)
        unfold CardV.value at hc hc0
        have hlt0 := World.block_lt_of_cell? _ _ hc0
        have hS := fun W hh hb => shape_any d.at_ d.cap d.xs B W hh hb hm
        have hdx : (holes D)[k]? = some d.xs := by simp [holes, hd]
        have hz0 : d0.xs.length = z := by rw [← HZ.out]; simp [firstZ, holes, hd0]
        have hk0 : (0 : Int) ≤ (k : Int) := Int.natCast_nonneg _
        have hk1 : (k : Int) < (n : Int) := by omega
        have hk2 : (0 : Int) < (n : Int) := by omega
        have hk3 : 0 < n := by omega
        obtain ⟨g, hg⟩ : ∃ g, okB d.xs = g := ⟨_, rfl⟩
        obtain ⟨m, hme⟩ : ∃ m, d.xs.length = m := ⟨_, rfl⟩
        rw [hz0] at hc0
        rw [hg, hme] at hS
        rw [hme] at hc
        have HS := Lib.hid hS
        have HX := Lib.hid hdx
        have HG := Lib.hid hg
        have HM := Lib.hid hme
        have HI := Lib.hid hi
        clear hcell hd hd0 hi hdx hg hS hme hz0 hm H
        by_cases hgood : g = true ∧ m = z
        · obtain ⟨rfl, rfl⟩ := hgood
          have HK1 : Hid (((holes D).take (k + 1)).all (goodB m) = true) := all_more _ _ k _ HX.out HK.out (by rw [goodB, HG.out, HM.out]; simp)
          go_wp2_with fail
          have B1 := Lib.hid (below_step HB.out (below_box wr (.cells #[.slice d.at_ m d.cap] 57)))
          have c1 : (wr.alloc (.cells #[.slice d.at_ m d.cap] 57)).cell? ⟨wr.heap.size, 0, none⟩ = some (.slice d.at_ m d.cap) := by simp
          have d1 : (wr.alloc (.cells #[.slice d.at_ m d.cap] 57)).cell? ⟨b, off, none⟩ = some (.slice d0.at_ m d0.cap) := by rw [World.cell?_alloc_lt _ _ _ hlt0]; exact hc0
          have I1 := Lib.hid (HI.out.alloc (Nat.le_trans hB HB.out.size) (.cells #[.slice d.at_ m d.cap] 57))
          clear HI hc hc0
          go_region_held3 (fun W => W.cell? ⟨wr.heap.size, 0, none⟩ = some (.slice d.at_ m d.cap) ∧ W.cell? ⟨b, off, none⟩ = some (.slice d0.at_ m d0.cap))
            (first | exact ⟨c1, d1⟩ | exact ⟨c2, d2⟩)
            (first
              | (go_at_call 58
                 refine (HS.out _ ?_ ?_).mono ?_
                 · exact I1.out.drew
                 · exact Nat.le_trans hB B1.out.drew.size
                 rintro e2 w2 ⟨rfl, hb2⟩
                 have B2 := Lib.hid (below_step B1.out.drew hb2)
                 have c2 := cell_kept (w := (wr.alloc (.cells #[.slice d.at_ m d.cap] 57)).drew) c1 hb2
                 have d2 := cell_kept (w := (wr.alloc (.cells #[.slice d.at_ m d.cap] 57)).drew) d1 hb2
                 clear hb2))
          go_wp2
          go_roundw
          case rel => exact ⟨k + 1, by omega, by go_num, B2.out, HK1⟩
          case measure => simp [intOf]; omega
        · obtain rfl : r = false := by
            rw [← HR.out, deckB, HZ.out, all_bad _ _ k _ HX.out (by rw [goodB, HG.out, HM.out]; cases g <;> simp_all)]
            rfl
          cases g
          · clear hgood
            go_wp2_with fail
            have B1 := Lib.hid (below_step HB.out (below_box wr (.cells #[.slice d.at_ m d.cap] 57)))
            have c1 : (wr.alloc (.cells #[.slice d.at_ m d.cap] 57)).cell? ⟨wr.heap.size, 0, none⟩ = some (.slice d.at_ m d.cap) := by simp
            have d1 : (wr.alloc (.cells #[.slice d.at_ m d.cap] 57)).cell? ⟨b, off, none⟩ = some (.slice d0.at_ z d0.cap) := by rw [World.cell?_alloc_lt _ _ _ hlt0]; exact hc0
            have I1 := Lib.hid (HI.out.alloc (Nat.le_trans hB HB.out.size) (.cells #[.slice d.at_ m d.cap] 57))
            clear HI hc hc0
            go_region_held3 (fun W => W.cell? ⟨wr.heap.size, 0, none⟩ = some (.slice d.at_ m d.cap) ∧ W.cell? ⟨b, off, none⟩ = some (.slice d0.at_ z d0.cap))
              (first | exact ⟨c1, d1⟩ | exact ⟨c2, d2⟩)
              (first
                | (go_at_call 58
                   refine (HS.out _ ?_ ?_).mono ?_
                   · exact I1.out.drew
                   · exact Nat.le_trans hB B1.out.drew.size
                   rintro e2 w2 ⟨rfl, hb2⟩
                   have B2 := Lib.hid (below_step B1.out.drew hb2)
                   have c2 := cell_kept (w := (wr.alloc (.cells #[.slice d.at_ m d.cap] 57)).drew) c1 hb2
                   have d2 := cell_kept (w := (wr.alloc (.cells #[.slice d.at_ m d.cap] 57)).drew) d1 hb2
                   clear hb2))
            go_wp2
            go_ret
            exact ⟨rfl, B2.out⟩
          · have hne : ¬ m = z := fun hh => hgood ⟨rfl, hh⟩
            have hnf : ((m : Int) == (z : Int)) = false := by rw [beq_eq_false_iff_ne]; omega
            clear hgood
            go_wp2_with fail
            have B1 := Lib.hid (below_step HB.out (below_box wr (.cells #[.slice d.at_ m d.cap] 57)))
            have c1 : (wr.alloc (.cells #[.slice d.at_ m d.cap] 57)).cell? ⟨wr.heap.size, 0, none⟩ = some (.slice d.at_ m d.cap) := by simp
            have d1 : (wr.alloc (.cells #[.slice d.at_ m d.cap] 57)).cell? ⟨b, off, none⟩ = some (.slice d0.at_ z d0.cap) := by rw [World.cell?_alloc_lt _ _ _ hlt0]; exact hc0
            have I1 := Lib.hid (HI.out.alloc (Nat.le_trans hB HB.out.size) (.cells #[.slice d.at_ m d.cap] 57))
            clear HI hc hc0
            go_region_held3 (fun W => W.cell? ⟨wr.heap.size, 0, none⟩ = some (.slice d.at_ m d.cap) ∧ W.cell? ⟨b, off, none⟩ = some (.slice d0.at_ z d0.cap))
              (first | exact ⟨c1, d1⟩ | exact ⟨c2, d2⟩)
              (first
                | (go_at_call 58
                   refine (HS.out _ ?_ ?_).mono ?_
                   · exact I1.out.drew
                   · exact Nat.le_trans hB B1.out.drew.size
                   rintro e2 w2 ⟨rfl, hb2⟩
                   have B2 := Lib.hid (below_step B1.out.drew hb2)
                   have c2 := cell_kept (w := (wr.alloc (.cells #[.slice d.at_ m d.cap] 57)).drew) c1 hb2
                   have d2 := cell_kept (w := (wr.alloc (.cells #[.slice d.at_ m d.cap] 57)).drew) d1 hb2
                   clear hb2))
            go_wp2
            go_ret
            exact ⟨rfl, B2.out⟩
      · have hkn : k = n := by omega
        obtain rfl : r = true := by
          rw [← HR.out, deckB, HZ.out]
          have := HK.out
          rw [List.take_of_length_le (by simp [holes]; rw [HN.out]; omega)] at this
          rw [this, Bool.true_and]
          simp only [holes, List.length_map, HN.out, decide_eq_true_eq]
          omega
        have hk1 : ¬ (k : Int) < (n : Int) := by omega
        clear hkn H
        go_wp2
        go_ret
        exact ⟨rfl, HB.out⟩
end Go.Proofs.YtamookdlbmbncaaDoor
