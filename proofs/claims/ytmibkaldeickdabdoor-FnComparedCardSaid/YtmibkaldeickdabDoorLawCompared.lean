/- For every two lists of bytes, the law FnCompared returns true: fields of drawn cards are compared in both directions alike. Condition: the table of places holds what the program's text lays in it (the card ties that). -/
import Derived.Test.YtmibkaldeickdabDoorA2Deck
import Derived.Test.YtmibkaldeickdabDoorDrawDeck
import Derived.Test.YtmibkaldeickdabDoorCmpMath
import Derived.Test.YtmibkaldeickdabDoorBytes
import Derived.Deep.QuietTactic
import Derived.BigQuiet
import Derived.StillTailTactics
import Derived.Test.YtmibkaldeickdabDoorCards
import Derived.Test.YtmibkaldeickdabDoorTie
import Derived.LaidMore
import Derived.OpenVars
import Derived.Stop.Joined
namespace Go.Proofs.YtmibkaldeickdabDoor.fnCompared
open Go.ChangeShapes Go.WideShapes Go.ChangeAt Go.RowKit

theorem walk_long (A A' : Option Addr) (n n' c c' : Nat) (w : World) (hn : n ≤ 9223372036854775807) (hn' : n' ≤ 9223372036854775807) (h : 3000 < n ∨ 3000 < n') :
    Calls Tryd.prog 6 #[.slice A n c, .slice A' n' c'] w fun e w' => e = .returned (.bool true) ∧ Below w.heap.size w w' := by
  have hL := a2Long_any A A' n n' c c' w hn hn'
  have e : (decide (3000 < n) || decide (3000 < n')) = true := by simpa using h
  rw [e] at hL
  have HL := Lib.hid hL
  clear hL e h
  go_enter Tryd.func6, Tryd.ntmps6
  go_wp2_with fail
  refine HL.out.mono ?_
  rintro e w1 ⟨rfl, rfl⟩
  go_wp2
  go_ret
  exact ⟨rfl, Below.refl _ _⟩

/-- how two cards stand, by the columns from i to j -/
def cmpC (d d' : CardV) (i j : Nat) : Int := cmpTo (partOf d.xs i j) (partOf d'.xs i j) (j - i)
theorem cmp_impl (d d' : CardV) (B0 m i j : Nat) (U : World) (h : CardAt B0 m U d) (h' : CardAt B0 m U d') (hm : m ≤ 20) (hij : i < j) (hj : j ≤ m) (hP : Places U) :
    Calls Tryd.prog 28 #[.agg #[.slice d.at_ m d.cap], .agg #[.slice d'.at_ m d'.cap], .agg #[.int .i64 i, .int .i64 j]] U fun e w' => e = .returned (.tuple #[.int .i64 (cmpC d d' i j), .int .i64 0]) ∧ Below U.heap.size U w' := by
  obtain ⟨b, ex, e1, _, hr, hl, ht, hv, hc, hcm⟩ := h
  obtain ⟨b', ex', e1', _, hr', hl', ht', hv', hc', hcm'⟩ := h'
  have hi := hr.ints.more hr.lt
  have hi' := hr'.ints.more hr'.lt
  have k := implCmp_good b 0 d.cap b' 0 d'.cap d.xs d'.xs U.heap.size U.heap.size i j U hi hi' (Nat.le_refl _) (Nat.le_refl _) (by omega) (by omega) hij (by omega) (by omega) hv hv' hP
  rw [textOk_part ht, textOk_part ht', hl, hl', ← e1, ← e1'] at k
  exact k
theorem cmp_spec (d d' : CardV) (B0 m i j : Nat) (U : World) (h : CardAt B0 m U d) (h' : CardAt B0 m U d') (hm : m ≤ 20) (hij : i < j) (hj : j ≤ m) :
    Calls Tryd.prog 29 #[.agg #[.slice d.at_ m d.cap], .agg #[.slice d'.at_ m d'.cap], .agg #[.int .i64 i, .int .i64 j]] U fun e w' => e = .returned (.tuple #[.int .i64 (cmpC d d' i j), .int .i64 0]) ∧ Below U.heap.size U w' := by
  obtain ⟨b, ex, e1, _, hr, hl, ht, hv, hc, hcm⟩ := h
  obtain ⟨b', ex', e1', _, hr', hl', ht', hv', hc', hcm'⟩ := h'
  have hi := hr.ints.more hr.lt
  have hi' := hr'.ints.more hr'.lt
  unfold maxLen at hcm hcm'
  have k := specCmp_good b 0 d.cap b' 0 d'.cap d.xs d'.xs U.heap.size U.heap.size i j U hi hi' (Nat.le_refl _) (Nat.le_refl _) (by omega) ⟨by omega, by omega⟩ (by omega) ⟨by omega, by omega⟩ hij (by omega) (by omega) hv hv'
  rw [textOk_part ht, textOk_part ht', hl, hl', ← e1, ← e1'] at k
  exact k

set_option maxRecDepth 100000 in
set_option maxHeartbeats 4000000 in
theorem walk_short (A A' : Option Addr) (n n' c c' : Nat) (w : World) (h0 : BytesAt w w.heap.size A n) (h1 : BytesAt w w.heap.size A' n') (hn : n ≤ 3000) (hn' : n' ≤ 3000) (hP : Places w) :
    Calls Tryd.prog 6 #[.slice A n c, .slice A' n' c'] w fun e w' => e = .returned (.bool true) ∧ Below w.heap.size w w' := by
  have hL := a2Long_any A A' n n' c c' w (by omega) (by omega)
  have e : (decide (3000 < n) || decide (3000 < n')) = false := by simp; omega
  rw [e] at hL
  have HL := Lib.hid hL
  have HD := Lib.hid (A2Deck_any A n c w.heap.size w h0 (Nat.le_refl _) hn)
  have H1 := Lib.hid h1
  have HPL := Lib.hid hP
  clear hL e h0 h1 hP
  go_enter Tryd.func6, Tryd.ntmps6
  go_wp2_with fail
  refine HL.out.mono ?_
  rintro e w1 ⟨rfl, rfl⟩
  go_wp2_with fail
  refine HD.out.mono ?_
  rintro e w2 ⟨m, gq, cq, D, hm1, hm3, rfl, hl8, hb, hd⟩
  have B2 := Lib.hid hb
  have D2 := Lib.hid hd
  have hb2 := Lib.hid hb
  obtain ⟨N, hN⟩ : ∃ N, D.length = N := ⟨_, rfl⟩
  rw [hN] at hl8 D2 ⊢
  clear hb hd HD HL
  by_cases h3 : N < 3
  · have h3' : (N : Int) < 3 := by omega
    go_wp2
    go_ret
    exact ⟨rfl, B2.out⟩
  · have h3' : ¬ (N : Int) < 3 := by omega
    have z0 : D[0]? = some (D[0]'(by omega)) := List.getElem?_eq_getElem _
    have k0 := D2.out.card (k := 0) (by omega)
    have k1 := D2.out.card (k := 1) (by omega)
    have k2 := D2.out.card (k := 2) (by omega)
    clear z0
    obtain ⟨d0, e0⟩ : ∃ d, D[0]'(by omega) = d := ⟨_, rfl⟩
    obtain ⟨d1, e1⟩ : ∃ d, D[1]'(by omega) = d := ⟨_, rfl⟩
    obtain ⟨d2, e2⟩ : ∃ d, D[2]'(by omega) = d := ⟨_, rfl⟩
    rw [e0] at k0
    rw [e1] at k1
    rw [e2] at k2
    clear e0 e1 e2
    obtain ⟨c0, a0⟩ := k0
    obtain ⟨c1, a1⟩ := k1
    obtain ⟨c2, a2⟩ := k2
    have HF := Lib.hid (a2Field_deck gq N cq (by omega) d0.at_ A' m d0.cap n' c' w.heap.size w2 c0 hm1 (by omega) (H1.out.below hb2.out) hb2.out.size hn')
    have A0 := Lib.hid a0
    have A1 := Lib.hid a1
    have A2 := Lib.hid a2
    clear a0 a1 a2 D2 hN H1 hb2
    go_wp2_with fail
    refine HF.out.mono ?_
    rintro e w3 ⟨i, j, rfl, hij, hjm, hb⟩
    have B3 := Lib.hid (below_step B2.out hb)
    have K3 := Lib.hid hb
    have C0 := Lib.hid (cell_kept (cell_kept c0 hb) (below_box w3 (.cells #[.int .i64 i, .int .i64 j] 43)))
    have C1 := Lib.hid (cell_kept (cell_kept c1 hb) (below_box w3 (.cells #[.int .i64 i, .int .i64 j] 43)))
    have C2 := Lib.hid (cell_kept (cell_kept c2 hb) (below_box w3 (.cells #[.int .i64 i, .int .i64 j] 43)))
    have A03 := Lib.hid ((A0.out.below hb).below (below_box w3 (.cells #[.int .i64 i, .int .i64 j] 43)))
    have A13 := Lib.hid ((A1.out.below hb).below (below_box w3 (.cells #[.int .i64 i, .int .i64 j] 43)))
    have A23 := Lib.hid ((A2.out.below hb).below (below_box w3 (.cells #[.int .i64 i, .int .i64 j] 43)))
    have B4 : Hid (Below w.heap.size w (w3.alloc (.cells #[.int .i64 i, .int .i64 j] 43))) := B3.out.alloc B3.out.size _
    have f0 : (w3.alloc (.cells #[.int .i64 i, .int .i64 j] 43)).cell? ⟨w3.heap.size, 0, none⟩ = some (.int .i64 i) := by simp [go_sem]
    have f1 : (w3.alloc (.cells #[.int .i64 i, .int .i64 j] 43)).cell? ⟨w3.heap.size, 1, none⟩ = some (.int .i64 j) := by simp [go_sem]
    obtain ⟨p, hp⟩ : ∃ p, w3.heap.size = p := ⟨_, rfl⟩
    have nI : ∃ a : Nat, N = a + 3 := ⟨N - 3, by omega⟩
    have z0 : 0 < N := by omega
    have z1 : 1 < N := by omega
    have z2 : 2 < N := by omega
    have y0 : (0 : Int) < (N : Int) := by omega
    have y1 : (1 : Int) < (N : Int) := by omega
    have y2 : (2 : Int) < (N : Int) := by omega
    have HC := Lib.hid (fun (U : World) (g : Below w.heap.size w U) (d d' : CardV) (h : CardAt w.heap.size m U d) (h' : CardAt w.heap.size m U d') => cmp_impl d d' w.heap.size m i j U h h' (by omega) hij hjm (HPL.out.below g))
    have HS := Lib.hid (fun (U : World) (d d' : CardV) (h : CardAt w.heap.size m U d) (h' : CardAt w.heap.size m U d') => cmp_spec d d' w.heap.size m i j U h h' (by omega) hij hjm)
    obtain ⟨W4, eW⟩ : ∃ W4, w3.alloc (.cells #[.int .i64 i, .int .i64 j] 43) = W4 := ⟨_, rfl⟩
    rw [eW] at C0 C1 C2 A03 A13 A23 B4 f0 f1
    have Q4 : Hid (B4.out = B4.out) := rfl
    clear Q4 K3 B3 hb c0 c1 c2 A0 A1 A2 HF nI B2 HPL h3
    have c0 := C0.out
    have c1 := C1.out
    have c2 := C2.out
    clear C0 C1 C2
    go_upto_region 7 with fail
    clear eW
    rw [hp] at f0 f1
    clear hp
    have BB := B4
    clear B4
    go_cut [7, 8] (fun s0 s1 wx => s0 = .int .i64 (cmpC d0 d1 i j) ∧ s1 = .int .i64 0 ∧ Below W4.heap.size W4 wx)
    case first =>
      have K0 : Hid (Below W4.heap.size W4 W4.drew) := Below.drew (Below.refl _ _)
      go_region_held3 (fun W => W.cell? ⟨gq, 0, none⟩ = some (.slice d0.at_ m d0.cap) ∧ W.cell? ⟨gq, 1, none⟩ = some (.slice d1.at_ m d1.cap) ∧ W.cell? ⟨p, 0, none⟩ = some (.int .i64 i) ∧ W.cell? ⟨p, 1, none⟩ = some (.int .i64 j))
        (first | exact ⟨c0, c1, f0, f1⟩ | exact ⟨cell_kept c0 K0.out, cell_kept c1 K0.out, cell_kept f0 K0.out, cell_kept f1 K0.out⟩ | exact ⟨cell_kept c0 K1.out, cell_kept c1 K1.out, cell_kept f0 K1.out, cell_kept f1 K1.out⟩ | go_keep)
        (first
          | (go_at_call 28
             refine (HC.out _ (Below.drew BB.out) d0 d1 (A03.out.below (Below.drew (Below.refl _ _))) (A13.out.below (Below.drew (Below.refl _ _)))).mono ?_
             rintro e w9 ⟨rfl, hb⟩
             have K1 : Hid (Below W4.heap.size W4 w9) := below_step K0.out hb
             clear hb))
      all_goals (go_wp2_with fail; go_meet; exact ⟨rfl, rfl, K1.out⟩)
    case rest =>
      obtain ⟨rfl, rfl, hb⟩ := hcut
      rename World => W5
      replace BB := Lib.hid (below_step BB.out hb)
      replace A03 := Lib.hid (A03.out.below hb)
      replace A13 := Lib.hid (A13.out.below hb)
      replace A23 := Lib.hid (A23.out.below hb)
      replace c0 := cell_kept c0 hb
      replace c1 := cell_kept c1 hb
      replace c2 := cell_kept c2 hb
      replace f0 := cell_kept f0 hb
      replace f1 := cell_kept f1 hb
      clear hb
      go_upto_region 8 with fail
      go_cut [9, 10] (fun s0 s1 wx => s0 = .int .i64 (cmpC d1 d0 i j) ∧ s1 = .int .i64 0 ∧ Below W5.heap.size W5 wx)
      case first =>
        have K0 : Hid (Below W5.heap.size W5 W5.drew) := Below.drew (Below.refl _ _)
        go_region_held3 (fun W => W.cell? ⟨gq, 1, none⟩ = some (.slice d1.at_ m d1.cap) ∧ W.cell? ⟨gq, 0, none⟩ = some (.slice d0.at_ m d0.cap) ∧ W.cell? ⟨p, 0, none⟩ = some (.int .i64 i) ∧ W.cell? ⟨p, 1, none⟩ = some (.int .i64 j))
          (first | exact ⟨c1, c0, f0, f1⟩ | exact ⟨cell_kept c1 K0.out, cell_kept c0 K0.out, cell_kept f0 K0.out, cell_kept f1 K0.out⟩ | exact ⟨cell_kept c1 K1.out, cell_kept c0 K1.out, cell_kept f0 K1.out, cell_kept f1 K1.out⟩ | go_keep)
          (first
            | (go_at_call 28
               refine (HC.out _ (Below.drew BB.out) d1 d0 (A13.out.below (Below.drew (Below.refl _ _))) (A03.out.below (Below.drew (Below.refl _ _)))).mono ?_
               rintro e w9 ⟨rfl, hb⟩
               have K1 : Hid (Below W5.heap.size W5 w9) := below_step K0.out hb
               clear hb))
        all_goals (go_wp2_with fail; go_meet; exact ⟨rfl, rfl, K1.out⟩)
      case rest =>
        obtain ⟨rfl, rfl, hb⟩ := hcut
        rename World => W6
        replace BB := Lib.hid (below_step BB.out hb)
        replace A03 := Lib.hid (A03.out.below hb)
        replace A13 := Lib.hid (A13.out.below hb)
        replace A23 := Lib.hid (A23.out.below hb)
        replace c0 := cell_kept c0 hb
        replace c1 := cell_kept c1 hb
        replace c2 := cell_kept c2 hb
        replace f0 := cell_kept f0 hb
        replace f1 := cell_kept f1 hb
        clear hb
        go_upto_region 9 with fail
        go_cut [11, 12] (fun s0 s1 wx => s0 = .int .i64 (cmpC d1 d2 i j) ∧ s1 = .int .i64 0 ∧ Below W6.heap.size W6 wx)
        case first =>
          have K0 : Hid (Below W6.heap.size W6 W6.drew) := Below.drew (Below.refl _ _)
          go_region_held3 (fun W => W.cell? ⟨gq, 1, none⟩ = some (.slice d1.at_ m d1.cap) ∧ W.cell? ⟨gq, 2, none⟩ = some (.slice d2.at_ m d2.cap) ∧ W.cell? ⟨p, 0, none⟩ = some (.int .i64 i) ∧ W.cell? ⟨p, 1, none⟩ = some (.int .i64 j))
            (first | exact ⟨c1, c2, f0, f1⟩ | exact ⟨cell_kept c1 K0.out, cell_kept c2 K0.out, cell_kept f0 K0.out, cell_kept f1 K0.out⟩ | exact ⟨cell_kept c1 K1.out, cell_kept c2 K1.out, cell_kept f0 K1.out, cell_kept f1 K1.out⟩ | go_keep)
            (first
              | (go_at_call 28
                 refine (HC.out _ (Below.drew BB.out) d1 d2 (A13.out.below (Below.drew (Below.refl _ _))) (A23.out.below (Below.drew (Below.refl _ _)))).mono ?_
                 rintro e w9 ⟨rfl, hb⟩
                 have K1 : Hid (Below W6.heap.size W6 w9) := below_step K0.out hb
                 clear hb))
          all_goals (go_wp2_with fail; go_meet; exact ⟨rfl, rfl, K1.out⟩)
        case rest =>
          obtain ⟨rfl, rfl, hb⟩ := hcut
          rename World => W7
          replace BB := Lib.hid (below_step BB.out hb)
          replace A03 := Lib.hid (A03.out.below hb)
          replace A13 := Lib.hid (A13.out.below hb)
          replace A23 := Lib.hid (A23.out.below hb)
          replace c0 := cell_kept c0 hb
          replace c1 := cell_kept c1 hb
          replace c2 := cell_kept c2 hb
          replace f0 := cell_kept f0 hb
          replace f1 := cell_kept f1 hb
          clear hb
          go_upto_region 10 with fail
          go_cut [13, 14] (fun s0 s1 wx => s0 = .int .i64 (cmpC d0 d2 i j) ∧ s1 = .int .i64 0 ∧ Below W7.heap.size W7 wx)
          case first =>
            have K0 : Hid (Below W7.heap.size W7 W7.drew) := Below.drew (Below.refl _ _)
            go_region_held3 (fun W => W.cell? ⟨gq, 0, none⟩ = some (.slice d0.at_ m d0.cap) ∧ W.cell? ⟨gq, 2, none⟩ = some (.slice d2.at_ m d2.cap) ∧ W.cell? ⟨p, 0, none⟩ = some (.int .i64 i) ∧ W.cell? ⟨p, 1, none⟩ = some (.int .i64 j))
              (first | exact ⟨c0, c2, f0, f1⟩ | exact ⟨cell_kept c0 K0.out, cell_kept c2 K0.out, cell_kept f0 K0.out, cell_kept f1 K0.out⟩ | exact ⟨cell_kept c0 K1.out, cell_kept c2 K1.out, cell_kept f0 K1.out, cell_kept f1 K1.out⟩ | go_keep)
              (first
                | (go_at_call 28
                   refine (HC.out _ (Below.drew BB.out) d0 d2 (A03.out.below (Below.drew (Below.refl _ _))) (A23.out.below (Below.drew (Below.refl _ _)))).mono ?_
                   rintro e w9 ⟨rfl, hb⟩
                   have K1 : Hid (Below W7.heap.size W7 w9) := below_step K0.out hb
                   clear hb))
            all_goals (go_wp2_with fail; go_meet; exact ⟨rfl, rfl, K1.out⟩)
          case rest =>
            obtain ⟨rfl, rfl, hb⟩ := hcut
            rename World => W8
            replace BB := Lib.hid (below_step BB.out hb)
            replace A03 := Lib.hid (A03.out.below hb)
            replace A13 := Lib.hid (A13.out.below hb)
            replace A23 := Lib.hid (A23.out.below hb)
            replace c0 := cell_kept c0 hb
            replace c1 := cell_kept c1 hb
            replace c2 := cell_kept c2 hb
            replace f0 := cell_kept f0 hb
            replace f1 := cell_kept f1 hb
            clear hb
            go_upto_region 11 with fail
            go_cut [15, 16] (fun s0 s1 wx => s0 = .int .i64 (cmpC d0 d1 i j) ∧ s1 = .int .i64 0 ∧ Below W8.heap.size W8 wx)
            case first =>
              have K0 : Hid (Below W8.heap.size W8 W8.drew) := Below.drew (Below.refl _ _)
              go_region_held3 (fun W => W.cell? ⟨gq, 0, none⟩ = some (.slice d0.at_ m d0.cap) ∧ W.cell? ⟨gq, 1, none⟩ = some (.slice d1.at_ m d1.cap) ∧ W.cell? ⟨p, 0, none⟩ = some (.int .i64 i) ∧ W.cell? ⟨p, 1, none⟩ = some (.int .i64 j))
                (first | exact ⟨c0, c1, f0, f1⟩ | exact ⟨cell_kept c0 K0.out, cell_kept c1 K0.out, cell_kept f0 K0.out, cell_kept f1 K0.out⟩ | exact ⟨cell_kept c0 K1.out, cell_kept c1 K1.out, cell_kept f0 K1.out, cell_kept f1 K1.out⟩ | go_keep)
                (first
                  | (go_at_call 29
                     refine (HS.out _ d0 d1 (A03.out.below (Below.drew (Below.refl _ _))) (A13.out.below (Below.drew (Below.refl _ _)))).mono ?_
                     rintro e w9 ⟨rfl, hb⟩
                     have K1 : Hid (Below W8.heap.size W8 w9) := below_step K0.out hb
                     clear hb))
              all_goals (go_wp2_with fail; go_meet; exact ⟨rfl, rfl, K1.out⟩)
            case rest =>
              obtain ⟨rfl, rfl, hb⟩ := hcut
              rename World => W9
              replace BB := Lib.hid (below_step BB.out hb)
              replace A03 := Lib.hid (A03.out.below hb)
              replace A13 := Lib.hid (A13.out.below hb)
              replace A23 := Lib.hid (A23.out.below hb)
              replace c0 := cell_kept c0 hb
              replace c1 := cell_kept c1 hb
              replace c2 := cell_kept c2 hb
              replace f0 := cell_kept f0 hb
              replace f1 := cell_kept f1 hb
              clear hb
              have hneg : cmpC d0 d1 i j = - cmpC d1 d0 i j := cmpTo_neg _ _ _
              have hdn : Down (cmpC d0 d1 i j) (cmpC d1 d2 i j) (cmpC d0 d2 i j) := cmpTo_down _ _ _ _
              have hr := cmpTo_le (partOf d1.xs i j) (partOf d0.xs i j) (j - i)
              obtain ⟨x, hx⟩ : ∃ x, cmpC d0 d1 i j = x := ⟨_, rfl⟩
              obtain ⟨y, hy⟩ : ∃ y, cmpC d1 d0 i j = y := ⟨_, rfl⟩
              obtain ⟨z, hz⟩ : ∃ z, cmpC d1 d2 i j = z := ⟨_, rfl⟩
              obtain ⟨u, hu⟩ : ∃ u, cmpC d0 d2 i j = u := ⟨_, rfl⟩
              have hr' : -1 ≤ y ∧ y ≤ 1 := by rw [← hy]; exact hr
              rw [hx, hy] at hneg
              rw [hx, hz, hu] at hdn
              rw [hx, hy, hz, hu]
              have HB := Lib.hid BB.out
              clear hx hy hz hu hr A03 A13 A23 BB c0 c1 c2 f0 f1
              have hy3 : y = -1 ∨ y = 0 ∨ y = 1 := by omega
              obtain ⟨hd1, hd2⟩ := hdn
              rcases hy3 with rfl | rfl | rfl
              · obtain rfl : x = 1 := by omega
                clear hneg hr' hd1 hd2
                go_wp2
                go_ret
                exact ⟨rfl, HB.out⟩
              · obtain rfl : x = 0 := by omega
                by_cases hz : 0 < z
                · have hz' : ¬ z ≤ 0 := by omega
                  clear hneg hr' hd1 hd2
                  go_wp2
                  go_ret
                  exact ⟨rfl, HB.out⟩
                · have hu : u ≤ 0 := by omega
                  clear hneg hr' hd1 hd2
                  go_wp2
                  go_ret
                  exact ⟨rfl, HB.out⟩
              · obtain rfl : x = -1 := by omega
                by_cases hz : 0 < z
                · have hz' : ¬ z ≤ 0 := by omega
                  clear hneg hr' hd1 hd2
                  go_wp2
                  go_ret
                  exact ⟨rfl, HB.out⟩
                · have hu : u ≤ 0 := by omega
                  clear hneg hr' hd1 hd2
                  go_wp2
                  go_ret
                  exact ⟨rfl, HB.out⟩

theorem gPlaces : Tryd.prog.globalNamed "loop.example/g01012/impl.places" = some 0 := by kernel_rfl
theorem gPlacesType : (Tryd.prog.globals[0]?).map (·.type) = some 67 := by kernel_rfl
/-- What the row's list gives: each cell of the table. -/
theorem places_of {W : World} (h : laidMetH Tryd.prog Rows.fnComparedRow.laid W) : Places W := by
  have h' : laidMet Tryd.prog (("loop.example/g01012/impl.places", Lib.tabData .i8 placesL) :: Rows.fnComparedRow.laid.tail) W := h
  have ht := Lib.tabIs_of_head gPlaces gPlacesType Tryd.underlying67 Tryd.underlying66 (by kernel_rfl) (by kernel_rfl) h'
  exact fun i hi => ht.cell gPlaces i hi

theorem walk (W : World) (A : Option Addr) (n c : Nat) (h0 : BytesAt W W.heap.size A n) (hn : n ≤ 9223372036854775807) (A' : Option Addr) (n' c' : Nat) (h1 : BytesAt W W.heap.size A' n') (hn' : n' ≤ 9223372036854775807) (hL : laidMetH Tryd.prog Rows.fnComparedRow.laid W) :
    Calls Tryd.prog 6 #[.slice A n c, .slice A' n' c'] W fun e w' => e = .returned (.bool true) ∧ Below W.heap.size W w' := by
  have hP := places_of hL
  by_cases h : 3000 < n ∨ 3000 < n'
  · exact walk_long A A' n n' c c' W hn hn' h
  · exact walk_short A A' n n' c c' W h0 h1 (by omega) (by omega) hP

/-- The door's own heap meets the condition: three closed facts. -/
theorem door_met (os : Os) (args : Array Value) : laidMetH Tryd.prog Rows.fnComparedRow.laid ((World.doorLaid Tryd.prog 4000 os).forCall (fun _ _ => 0) ⟨#[], args, []⟩).memory :=
  laidMetH_of_parts3 (fuel := 8) (laidMet_of_run' 8 (by kernel_rfl) (by kernel_rfl)) (by kernel_rfl) (by kernel_rfl)

set_option maxRecDepth 100000 in
theorem lifted (os : Os) (started : os.Started) (H : Type) (enc : TypeId × Value → H) :
    ReturnsInHanded {} Tryd.checked os 6 .any (fun w args => (Rows.fnComparedSpec.pre enc Tryd.prog Tryd.f6 [] false w args ∧ laidMetH Tryd.prog Rows.fnComparedRow.laid w) ∧ sizedMet enc Tryd.prog Tryd.f6 (OpenSpec.ofChange Rows.fnComparedSpec) false w args)
      (Rows.fnComparedSpec.post enc Tryd.prog Tryd.f6 false true false false) := by
  refine returnsInHanded_of_change_and (C := Tryd.checked) (X := fun w _ => laidMetH Tryd.prog Rows.fnComparedRow.laid w) (fun _ _ _ hh h => h.of_heap hh) own started (by kernel_rfl) Tryd.func6
    (ChangeSpec.witness_shaped (enc := enc) (C := Tryd.checked) (os := os) (X := fun w _ => laidMetH Tryd.prog Rows.fnComparedRow.laid w) false (World.doorLaid Tryd.prog 4000 os) #[.slice none 0 0, .slice none 0 0] 8 rfl (World.shaped_of_RefB (by kernel_rfl) (by kernel_rfl)) (by kernel_rfl) (by kernel_rfl) (by kernel_rfl) (door_met os _)) ?_
  intro W base args ds gs before hval0 hW _ _ hL _
  have hval : ∀ (j : Nat) t v, Tryd.f6.params[j]? = some t → args[j]? = some v → Value.okWide Tryd.prog W .any base t v := hval0
  have hW' := hW
  obtain ⟨p, q, hA0, hV, rfl, _, _⟩ := hW
  have hA : DataW.TrodAll enc Tryd.prog W 0 (fun _ => true) true Tryd.f6.params.toList args.toList ds p := hA0
  rw [Tryd.params6] at hA hval
  obtain ⟨v0, vs0, d0, ds0, p0, q0, hargs, rfl, rfl, h0, r0⟩ := trodAll_cons hA
  obtain ⟨v1, vs1, d1, ds1, p1, q1, rfl, rfl, rfl, h1, r1⟩ := trodAll_cons r0
  obtain ⟨rfl, rfl, rfl⟩ := trodAll_nil r1
  obtain rfl : args = #[v0, v1] := by cases args; simp_all
  obtain ⟨g1, rfl⟩ : ∃ g1, gs = [g1] := by
    clear hL hW' hA hval
    match gs, hV with
    | [], h => exact h.elim
    | [g1], _ => exact ⟨g1, rfl⟩
    | _ :: _ :: _, ⟨_, _, _, _, _, _, _, _, _, _, h, _⟩ => exact h.elim
  obtain ⟨A0, n0, c0, rfl, b0, l0⟩ := open_bytes (hval 0 22 v0 rfl rfl) h0
  obtain ⟨A1, n1, c1, rfl, b1, l1⟩ := open_bytes (hval 1 22 v1 rfl rfl) h1
  refine (walk W A0 n0 c0 b0 l0 A1 n1 c1 b1 l1 hL).mono fun e W' ⟨he, hb⟩ => ?_
  subst he
  have hread : ∀ t ∈ Tryd.f6.params.toList, Tryd.prog.readableRec t = true ∧ t < Tryd.prog.types.size := by
    intro t ht
    rw [Tryd.params6] at ht
    obtain rfl : t = 22 := by simpa using ht
    exact ⟨by kernel_rfl, of_decide_eq_true (by kernel_rfl)⟩
  have hlt := fun x hx => hW'.lt x (List.mem_append_left q hx)
  refine ⟨_, rfl, _, [g1], _, [], _, q, hW', ?_, args_stay hread hA0 (fun x hx => hb.same (hlt x hx)) (fun x hx => by simpa using hlt x hx), ?_, ?_, fun h => by cases h⟩
  · exact trodAll_mk1 (shut_bool Tryd.underlying4 true)
  · exact Below.trodVars laidOut hb (by kernel_rfl) hV
  · exact World.keptBut_mono (fun x hx => ⟨hx, by rcases List.mem_append.1 hx with h' | h' <;> first | exact Or.inr (Or.inl h') | exact Or.inr (Or.inr h') | exact Or.inr (Or.inr (by simpa using h'))⟩) (hb.frame (· ∈ _))

theorem said : Rows.FnComparedSaid :=
  OpenClaim.holds_of_wide 6 Tryd.f6 rfl rfl rfl rfl rfl rfl rfl ⟨rfl, rfl, rfl, rfl, rfl⟩ rfl rfl rfl rfl rfl (by kernel_rfl) Tryd.func6 (by kernel_rfl)
    (of_decide_eq_true (by kernel_rfl)) (by unfold Func.isWrapper; first | (rw [if_pos (by decide +kernel)]; kernel_rfl) | (rw [if_neg (by decide +kernel)]; exact ⟨rfl, rfl⟩))
    (fun os started H enc _ => lifted os started H enc)

/-- No parameter wants a stand-in; the program's own looks are as the card says. -/
theorem plain (f : FuncId) (fn : Func) (hf : Tryd.pinned.checked.prog.funcNamed "loop.example/g01012/laws.FnCompared" = some f) (hfn : Tryd.pinned.checked.prog.funcs[f]? = some fn) :
    Rows.fnComparedCard.stood.looks = Tryd.pinned.checked.prog.looks [] ∧ ∀ (j : Nat) t, fn.params[j]? = some t → Tryd.pinned.checked.prog.wantsStandIn t = false := by
  obtain rfl : f = 6 := Option.some.inj ((show Tryd.prog.funcNamed "loop.example/g01012/laws.FnCompared" = some 6 by kernel_rfl).symm.trans hf) |>.symm
  obtain rfl : fn = Tryd.f6 := (Option.some.inj (Tryd.func6.symm.trans hfn)).symm
  refine ⟨by kernel_rfl, fun j t ht => ?_⟩
  rw [Tryd.params6] at ht
  have hm : t ∈ [22, 22] := by simpa using Array.mem_of_getElem? ht
  have hall : ([22, 22].all fun u => !Tryd.prog.wantsStandIn u) = true := by kernel_rfl
  exact (show Tryd.prog.wantsStandIn t = false by simpa using List.all_eq_true.1 hall t hm)

theorem proved : Rows.FnComparedCardSaid :=
  Claim7.holds_tied_plain_at .later [] _ _ _ _ said (fun _ h => by cases h) (by kernel_rfl) (fun _ h => by cases h) fnCompared_row_tie rfl ⟨rfl, rfl⟩ (by kernel_rfl) rfl plain (by kernel_rfl)
end Go.Proofs.YtmibkaldeickdabDoor.fnCompared
