/- Whether a layout is valid: contracts of spec.ValidLayout and impl.ValidLayout. -/
import Derived.Test.YtmdgpkiicjmfhaaDoorLayoutOk
import Derived.Test.YtmdgpkiicjmfhaaDoorTaken
import Derived.Test.YtmdgpkiicjmfhaaDoorPlaces
import Derived.Test.YtmdgpkiicjmfhaaDoorValid
import Derived.Test.YtmdgpkiicjmfhaaDoorRegions
import Derived.Deep.DeepCutAuto
namespace Go.Proofs.YtmdgpkiicjmfhaaDoor
open Go.ChangeShapes Go.WideShapes Go.ChangeAt Go.RowKit Go.Maps

theorem nat_beq (a b : Nat) : ((a : Int) == (b : Int)) = decide (a = b) := by
  rw [Bool.eq_iff_iff, beq_iff_eq, decide_eq_true_eq]
  omega

set_option maxRecDepth 100000 in
set_option maxHeartbeats 4000000 in
theorem implValidL_any (u : Int) (A : Option Addr) (c : Nat) (ds : List It) (B : Nat) (w : World) (h : Items w B A ds) (hB : B ≤ w.heap.size) (hn : ds.length ≤ 1048576) (hc : ds.length ≤ c) (hs : ∀ d ∈ ds, d.name.size ≤ 1048576) :
    Calls Tryd.prog 28 #[.agg #[.int .i64 u, .slice A ds.length c]] w fun e w' => e = .returned (.bool (layoutB u ds)) ∧ Below w.heap.size w w' := by
  have hI := fun W => isWidth_any u W
  have hP := fun (W : World) (h : Items W B A ds) (hB : B ≤ W.heap.size) => placesIn_any (H := Unit) u A c ds B W h hB hn hs
  have hT := fun (i : Nat) (a b : Int) (W : World) (h : Items W B A ds) (hB : B ≤ W.heap.size) (hi : i < ds.length) => by
    have := isTaken_any A c (ds.take i) B a b W (h.take i) hB (by simp; omega)
    rw [List.length_take_of_le (Nat.le_of_lt hi), meetTo_take ds a b i i (Nat.le_refl _)] at this
    exact this
  have hsz := placesD_size (H := Unit) ds ds.length
  have hv0 := layoutB_eq u ds
  unfold GivesPlaces at hP
  obtain ⟨n, hN⟩ : ∃ n, ds.length = n := ⟨_, rfl⟩
  obtain ⟨v, hv⟩ : ∃ v, layoutB u ds = v := ⟨_, rfl⟩
  rw [hv] at hv0 ⊢
  rw [hN] at hn hc hP hT hsz hv0 ⊢
  have B0 := Lib.hid (below_box w (.cells #[.int .i64 u, .slice A n c] 32))
  have p0 : (w.alloc (.cells #[.int .i64 u, .slice A n c] 32)).cell? ⟨w.heap.size, 0, none⟩ = some (.int .i64 u) := by simp [go_sem]
  have p1 : (w.alloc (.cells #[.int .i64 u, .slice A n c] 32)).cell? ⟨w.heap.size, 1, none⟩ = some (.slice A n c) := by simp [go_sem]
  cases h1 : inB u 1 20
  · obtain rfl : v = false := by rw [hv0, h1, Bool.false_and]
    rw [h1] at hI
    have HI := Lib.hid hI
    clear hI hv hv0 h1 h hP hT hsz hs hN
    go_enter Tryd.func28, Tryd.ntmps28
    go_wp2_with (go_at_call 51; refine (HI.out _).mono ?_; rintro e w' ⟨rfl, rfl⟩)
    go_ret
    exact ⟨rfl, B0.out⟩
  · rw [h1, Bool.true_and] at hv0
    have hu : u ≤ 9223372036854775807 := by
      simp only [inB, Bool.and_eq_true, decide_eq_true_eq] at h1
      omega
    rw [h1] at hI
    have HI := Lib.hid hI
    by_cases h12 : n ≤ 12
    · have hn12 : ¬ (12 : Int) < (n : Int) := by omega
      have d12 : decide (n ≤ 12) = true := decide_eq_true h12
      rw [d12, Bool.true_and] at hv0
      have H := Lib.hid h
      have HV := Lib.hid hv0
      have HN := Lib.hid hN
      have HP := Lib.hid hP
      have HT := Lib.hid hT
      have HSZ := Lib.hid hsz
      have hc3 : n ≤ c := hc
      clear hI hv hv0 h1 h hP hT hsz hs hN d12
      go_enter Tryd.func28, Tryd.ntmps28
      go_wp2_with (go_at_call 51; refine (HI.out _).mono ?_; rintro e w' ⟨rfl, rfl⟩)
      go_loopw [18] (fun x wr => ∃ i : Nat, i ≤ n ∧ x = .int .i64 i ∧ Hid (partsTo ds u i = true) ∧ Hid (Below (w.alloc (.cells #[.int .i64 u, .slice A n c] 32)).heap.size (w.alloc (.cells #[.int .i64 u, .slice A n c] 32)) wr)) (fun x _ => n - (intOf x).toNat)
      case atStart => exact ⟨0, Nat.zero_le _, rfl, rfl, Below.refl _ _⟩
      case round =>
        obtain ⟨i, hi, rfl, HO, HB⟩ := hrel
        have c0 := cell_kept p0 HB.out
        have c1 := cell_kept p1 HB.out
        have HB1 := Lib.hid (below_step B0.out HB.out)
        by_cases hlt : i < n
        · obtain ⟨d, hd⟩ : ∃ d, ds[i]? = some d := ⟨ds[i]'(by rw [HN.out]; exact hlt), List.getElem?_eq_getElem _⟩
          have hIT := H.out.below (HB1.out.mono hB)
          obtain ⟨b, off, rfl, hb, e0, e1, e2, e3⟩ := hIT.at_ hd
          have hi0 : (0 : Int) ≤ (i : Int) := Int.natCast_nonneg _
          have hi1 : (i : Int) < (n : Int) := by omega
          have HIF := Lib.hid (fun W => isItemFor_any d u W hu)
          have hst := partsTo_step (n := u) hd
          rw [HO.out, Bool.true_and] at hst
          have HST := Lib.hid hst
          have bx := below_box wr (.cells #[.string d.name, .int .i64 d.kind, .int .i64 d.f0, .int .i64 d.f1] 51)
          have k0 := cell_kept c0 bx
          have k1 := cell_kept c1 bx
          have x0 : (wr.alloc (.cells #[.string d.name, .int .i64 d.kind, .int .i64 d.f0, .int .i64 d.f1] 51)).cell? ⟨wr.heap.size, 0, none⟩ = some (.string d.name) := by simp [go_sem]
          have x1 : (wr.alloc (.cells #[.string d.name, .int .i64 d.kind, .int .i64 d.f0, .int .i64 d.f1] 51)).cell? ⟨wr.heap.size, 1, none⟩ = some (.int .i64 d.kind) := by simp [go_sem]
          have x2 : (wr.alloc (.cells #[.string d.name, .int .i64 d.kind, .int .i64 d.f0, .int .i64 d.f1] 51)).cell? ⟨wr.heap.size, 2, none⟩ = some (.int .i64 d.f0) := by simp [go_sem]
          have x3 : (wr.alloc (.cells #[.string d.name, .int .i64 d.kind, .int .i64 d.f0, .int .i64 d.f1] 51)).cell? ⟨wr.heap.size, 3, none⟩ = some (.int .i64 d.f1) := by simp [go_sem]
          have HB2 := Lib.hid (below_step HB.out bx)
          have HIT := Lib.hid (hIT.alloc (Nat.le_trans hB HB1.out.size) (.cells #[.string d.name, .int .i64 d.kind, .int .i64 d.f0, .int .i64 d.f1] 51))
          have hBs : B ≤ (wr.alloc (.cells #[.string d.name, .int .i64 d.kind, .int .i64 d.f0, .int .i64 d.f1] 51)).heap.size := Nat.le_trans hB (below_step HB1.out bx).size
          clear hst hd hIT bx HB HB1 hb
          go_upto_region 6 with fail
          clear e0 e1 e2 e3 c0 c1
          obtain ⟨W1, eW⟩ : ∃ W1, wr.alloc (.cells #[.string d.name, .int .i64 d.kind, .int .i64 d.f0, .int .i64 d.f1] 51) = W1 := ⟨_, rfl⟩
          rw [eW] at k0 k1 x0 x1 x2 x3 HB2 HIT hBs ⊢
          clear eW
          have K0 : Hid (Below W1.heap.size W1 W1.drew) := Below.drew (Below.refl _ _)
          cases hit : itemB d u
          · obtain rfl : v = false := by
              have := HST.out
              rw [hit, Bool.false_and] at this
              rw [HV.out, partsTo_false this hlt, Bool.false_and]
            rw [hit] at HIF
            have hiN : (i : Int) ≤ (c : Int) := by omega
            go_cut [36] (fun s0 wx => s0 = .bool true ∧ Below W1.heap.size W1 wx)
            case first =>
              refine wp_region_held_drew (S := fun W => W.cell? ⟨w.heap.size, 0, none⟩ = some (.int .i64 u) ∧ W.cell? ⟨wr.heap.size, 0, none⟩ = some (.string d.name) ∧ W.cell? ⟨wr.heap.size, 1, none⟩ = some (.int .i64 d.kind) ∧ W.cell? ⟨wr.heap.size, 2, none⟩ = some (.int .i64 d.f0) ∧ W.cell? ⟨wr.heap.size, 3, none⟩ = some (.int .i64 d.f1)) (by kernel_rfl) ?_ (fun hHeld => ?_)
              · (first | exact ⟨k0, x0, x1, x2, x3⟩ | exact ⟨cell_kept k0 K0.out, cell_kept x0 K0.out, cell_kept x1 K0.out, cell_kept x2 K0.out, cell_kept x3 K0.out⟩ | exact ⟨cell_kept k0 K1.out, cell_kept x0 K1.out, cell_kept x1 K1.out, cell_kept x2 K1.out, cell_kept x3 K1.out⟩)
              refine region_take 0 23 (.agg #[.string d.name, .int .i64 d.kind, .int .i64 d.f0, .int .i64 d.f1]) rfl rfl (by kernel_rfl) (by kernel_rfl) (by kernel_rfl) (fun _ _ _ h => h) (by rfl) ?_ (by assumption) ?_
              · (intro w hSw; (try dsimp only at hSw); go_simp)
              try simp only [Act.put, List.setIfInBounds_toArray, List.set_cons_zero, List.set_cons_succ]
              refine region_take 1 24 (.pointer (some ⟨w.heap.size, 0, none⟩)) rfl rfl (by kernel_rfl) (by kernel_rfl) (by kernel_rfl) (fun _ _ _ h => h) (by rfl) ?_ (by assumption) ?_
              · (intro w hSw; (try dsimp only at hSw); go_simp)
              try simp only [Act.put, List.setIfInBounds_toArray, List.set_cons_zero, List.set_cons_succ]
              refine region_take 2 25 (.int .i64 u) rfl rfl (by kernel_rfl) (by kernel_rfl) (by kernel_rfl) (fun _ _ _ h => h) (by rfl) ?_ (by assumption) ?_
              · (intro w hSw; (try dsimp only at hSw); go_simp)
              try simp only [Act.put, List.setIfInBounds_toArray, List.set_cons_zero, List.set_cons_succ]
              refine wpAnyH_ready (rs := [3]) (by kernel_rfl) (by simp) ?_
              refine AllReadyH.cons rfl (fun K hK => ?_) AllReadyH.nil
              go_simp
              go_at_call 52
              refine (HIF.out _).mono ?_
              rintro e w9 ⟨rfl, hb⟩
              have K1 : Hid (Below W1.heap.size W1 w9) := below_step K0.out hb
              clear hb
              go_wp2_with fail
              refine hK.out _ _ ?_ (fun hHeld => ?_)
              · (try dsimp only); (first | exact ⟨k0, x0, x1, x2, x3⟩ | exact ⟨cell_kept k0 K0.out, cell_kept x0 K0.out, cell_kept x1 K0.out, cell_kept x2 K0.out, cell_kept x3 K0.out⟩ | exact ⟨cell_kept k0 K1.out, cell_kept x0 K1.out, cell_kept x1 K1.out, cell_kept x2 K1.out, cell_kept x3 K1.out⟩)
              clear hK K
              try simp only [Act.put, List.setIfInBounds_toArray, List.set_cons_zero, List.set_cons_succ]
              refine region_take 4 27 (.bool true) rfl rfl (by kernel_rfl) (by kernel_rfl) (by kernel_rfl) (fun _ _ _ h => h) (by rfl) ?_ (by assumption) ?_
              · (intro w hSw; (try dsimp only at hSw); go_simp)
              try simp only [Act.put, List.setIfInBounds_toArray, List.set_cons_zero, List.set_cons_succ]
              refine region_take 5 28 (.bool true) rfl rfl (by kernel_rfl) (by kernel_rfl) (by kernel_rfl) (fun _ _ _ h => h) (by rfl) ?_ (by assumption) ?_
              · (intro w hSw; (try dsimp only at hSw); go_simp)
              try simp only [Act.put, List.setIfInBounds_toArray, List.set_cons_zero, List.set_cons_succ]
              refine region_skip 6 29 rfl rfl (by kernel_rfl) (by kernel_rfl) (by kernel_rfl) (fun _ _ _ h => h) (by rfl) (by assumption) ?_
              try simp only [Act.put, List.setIfInBounds_toArray, List.set_cons_zero, List.set_cons_succ]
              refine region_skip 7 30 rfl rfl (by kernel_rfl) (by kernel_rfl) (by kernel_rfl) (fun _ _ _ h => h) (by rfl) (by assumption) ?_
              try simp only [Act.put, List.setIfInBounds_toArray, List.set_cons_zero, List.set_cons_succ]
              refine region_skip 8 31 rfl rfl (by kernel_rfl) (by kernel_rfl) (by kernel_rfl) (fun _ _ _ h => h) (by rfl) (by assumption) ?_
              try simp only [Act.put, List.setIfInBounds_toArray, List.set_cons_zero, List.set_cons_succ]
              refine region_skip 9 32 rfl rfl (by kernel_rfl) (by kernel_rfl) (by kernel_rfl) (fun _ _ _ h => h) (by rfl) (by assumption) ?_
              try simp only [Act.put, List.setIfInBounds_toArray, List.set_cons_zero, List.set_cons_succ]
              refine region_skip 10 33 rfl rfl (by kernel_rfl) (by kernel_rfl) (by kernel_rfl) (fun _ _ _ h => h) (by rfl) (by assumption) ?_
              try simp only [Act.put, List.setIfInBounds_toArray, List.set_cons_zero, List.set_cons_succ]
              refine region_skip 11 34 rfl rfl (by kernel_rfl) (by kernel_rfl) (by kernel_rfl) (fun _ _ _ h => h) (by rfl) (by assumption) ?_
              try simp only [Act.put, List.setIfInBounds_toArray, List.set_cons_zero, List.set_cons_succ]
              refine region_skip 12 35 rfl rfl (by kernel_rfl) (by kernel_rfl) (by kernel_rfl) (fun _ _ _ h => h) (by rfl) (by assumption) ?_
              try simp only [Act.put, List.setIfInBounds_toArray, List.set_cons_zero, List.set_cons_succ]
              refine region_take 13 36 (.bool true) rfl rfl (by kernel_rfl) (by kernel_rfl) (by kernel_rfl) (fun _ _ _ h => h) (by rfl) ?_ (by assumption) ?_
              · (intro w hSw; (try dsimp only at hSw); go_simp)
              try simp only [Act.put, List.setIfInBounds_toArray, List.set_cons_zero, List.set_cons_succ]
              refine wpAnyH_done (by kernel_rfl) ?_ _
              all_goals (go_wp2_with fail; go_meet; exact ⟨rfl, K1.out⟩)
            case rest =>
              obtain ⟨rfl, hb⟩ := hcut
              rename World => w2
              have HB3 := Lib.hid (below_step HB2.out hb)
              clear hb k0 k1 x0 x1 x2 x3 K0 HIF HB2 HIT HST
              go_wp2
              go_ret
              exact ⟨rfl, below_step B0.out HB3.out⟩
          · rw [hit] at HIF
            obtain ⟨m, hm⟩ : ∃ m, meetTo ds d.f0 d.f1 i = m := ⟨_, rfl⟩
            have hTT := fun W q0 q1 => HT.out i d.f0 d.f1 W q0 q1 hlt
            rw [hm] at hTT
            have HTT := Lib.hid hTT
            have hst := HST.out
            rw [hit, Bool.true_and, hm] at hst
            have HST2 := Lib.hid hst
            clear hTT hst hm HST
            go_cut [36] (fun s0 wx => s0 = .bool m ∧ Below W1.heap.size W1 wx)
            case first =>
              have hiN : (i : Int) ≤ (c : Int) := by omega
              have tok : True := trivial
              go_region_held3 (fun W => W.cell? ⟨w.heap.size, 0, none⟩ = some (.int .i64 u) ∧ W.cell? ⟨w.heap.size, 1, none⟩ = some (.slice (some ⟨b, off, none⟩) n c) ∧ W.cell? ⟨wr.heap.size, 0, none⟩ = some (.string d.name) ∧ W.cell? ⟨wr.heap.size, 1, none⟩ = some (.int .i64 d.kind) ∧ W.cell? ⟨wr.heap.size, 2, none⟩ = some (.int .i64 d.f0) ∧ W.cell? ⟨wr.heap.size, 3, none⟩ = some (.int .i64 d.f1))
                (first | exact ⟨k0, k1, x0, x1, x2, x3⟩ | exact ⟨cell_kept k0 K0.out, cell_kept k1 K0.out, cell_kept x0 K0.out, cell_kept x1 K0.out, cell_kept x2 K0.out, cell_kept x3 K0.out⟩ | exact ⟨cell_kept k0 K1.out, cell_kept k1 K1.out, cell_kept x0 K1.out, cell_kept x1 K1.out, cell_kept x2 K1.out, cell_kept x3 K1.out⟩ | exact ⟨cell_kept k0 K2.out, cell_kept k1 K2.out, cell_kept x0 K2.out, cell_kept x1 K2.out, cell_kept x2 K2.out, cell_kept x3 K2.out⟩ | go_keep)
                (first
                  | (go_at_call 52
                     refine (HIF.out _).mono ?_
                     rintro e w9 ⟨rfl, hb⟩
                     have K1 : Hid (Below W1.heap.size W1 w9) := below_step K0.out hb
                     clear hb)
                  | (go_at_call 53
                     refine (HTT.out _ ?_ ?_).mono ?_
                     · exact HIT.out.below (K1.out.mono hBs)
                     · exact Nat.le_trans hBs K1.out.size
                     rintro e w10 ⟨rfl, hb⟩
                     have K2 : Hid (Below W1.heap.size W1 w10) := below_step K1.out hb
                     clear hb))
              all_goals (go_wp2_with fail; go_meet; exact ⟨rfl, K2.out⟩)
            case rest =>
              obtain ⟨rfl, hb⟩ := hcut
              rename World => w2
              have HB3 := Lib.hid (below_step HB2.out hb)
              clear hb k0 k1 x0 x1 x2 x3 K0 HIF HB2 HIT HTT
              cases m
              · have HST3 := Lib.hid (HST2.out : partsTo ds u (i + 1) = true)
                clear HST2
                go_wp2
                go_roundw
                case rel => exact ⟨i + 1, by omega, by go_num, HST3.out, HB3.out⟩
                case measure => simp [intOf]; omega
              · obtain rfl : v = false := by rw [HV.out, partsTo_false HST2.out hlt, Bool.false_and]
                clear HST2
                go_wp2
                go_ret
                exact ⟨rfl, below_step B0.out HB3.out⟩
        · have hi1 : ¬ (i : Int) < (n : Int) := by omega
          obtain rfl : i = n := by omega
          have hvv := HV.out
          rw [HO.out, Bool.true_and] at hvv
          have HVV := Lib.hid hvv
          clear hvv
          have K0 : Hid (Below wr.heap.size wr wr.drew) := Below.drew (Below.refl _ _)
          go_wp2
          refine wp_region_held_drew (S := fun W => W.cell? ⟨w.heap.size, 0, none⟩ = some (.int .i64 u) ∧ W.cell? ⟨w.heap.size, 1, none⟩ = some (.slice A i c)) (by kernel_rfl) ?_ (fun hHeld => ?_)
          · (first | exact ⟨c0, c1⟩ | exact ⟨cell_kept c0 K0.out, cell_kept c1 K0.out⟩ | exact ⟨cell_kept c0 K1.out, cell_kept c1 K1.out⟩)
          refine region_take 0 38 (.agg #[.int .i64 u, .slice A i c]) rfl rfl (by kernel_rfl) (by kernel_rfl) (by kernel_rfl) (fun _ _ _ h => h) (by rfl) ?_ (by assumption) ?_
          · (intro w hSw; (try dsimp only at hSw); go_simp)
          try simp only [Act.put, List.setIfInBounds_toArray, List.set_cons_zero, List.set_cons_succ]
          refine region_take 3 41 (.pointer (some ⟨w.heap.size, 1, none⟩)) rfl rfl (by kernel_rfl) (by kernel_rfl) (by kernel_rfl) (fun _ _ _ h => h) (by rfl) ?_ (by assumption) ?_
          · (intro w hSw; (try dsimp only at hSw); go_simp)
          try simp only [Act.put, List.setIfInBounds_toArray, List.set_cons_zero, List.set_cons_succ]
          refine region_take 4 42 (.slice A i c) rfl rfl (by kernel_rfl) (by kernel_rfl) (by kernel_rfl) (fun _ _ _ h => h) (by rfl) ?_ (by assumption) ?_
          · (intro w hSw; (try dsimp only at hSw); go_simp)
          try simp only [Act.put, List.setIfInBounds_toArray, List.set_cons_zero, List.set_cons_succ]
          refine region_take 5 43 (.int .i64 i) rfl rfl (by kernel_rfl) (by kernel_rfl) (by kernel_rfl) (fun _ _ _ h => h) (by rfl) ?_ (by assumption) ?_
          · (intro w hSw; (try dsimp only at hSw); go_simp)
          try simp only [Act.put, List.setIfInBounds_toArray, List.set_cons_zero, List.set_cons_succ]
          refine wpAnyH_ready (rs := [1]) (by kernel_rfl) (by simp) ?_
          refine AllReadyH.cons rfl (fun K hK => ?_) AllReadyH.nil
          go_simp
          go_at_call 54
          refine (HP.out _ ?_ ?_).mono ?_
          · exact H.out.below ((below_step HB1.out K0.out).mono hB)
          · exact Nat.le_trans hB (below_step HB1.out K0.out).size
          rintro e w9 ⟨mb, rfl, hmb, hb, hm⟩
          have K1 : Hid (Below wr.heap.size wr w9) := below_step K0.out hb
          have hlen := fun ty => hm.len Tryd.underlying106 ty
          rw [HSZ.out] at hlen
          clear hb hm
          go_wp2_with fail
          refine hK.out _ _ ?_ (fun hHeld => ?_)
          · (try dsimp only); (first | exact ⟨c0, c1⟩ | exact ⟨cell_kept c0 K0.out, cell_kept c1 K0.out⟩ | exact ⟨cell_kept c0 K1.out, cell_kept c1 K1.out⟩)
          clear hK K
          try simp only [Act.put, List.setIfInBounds_toArray, List.set_cons_zero, List.set_cons_succ]
          refine wpAnyH_ready (rs := [2]) (by kernel_rfl) (by simp) ?_
          refine AllReadyH.cons rfl (fun K hK => ?_) AllReadyH.nil
          go_simp
          refine hK.out _ _ ?_ (fun hHeld => ?_)
          · (try dsimp only); (first | exact ⟨c0, c1⟩ | exact ⟨cell_kept c0 K0.out, cell_kept c1 K0.out⟩ | exact ⟨cell_kept c0 K1.out, cell_kept c1 K1.out⟩)
          clear hK K
          try simp only [Act.put, List.setIfInBounds_toArray, List.set_cons_zero, List.set_cons_succ]
          refine region_take 6 44 (.bool ((sizeTo ds i : Int) == (i : Int))) rfl rfl (by kernel_rfl) (by kernel_rfl) (by kernel_rfl) (fun _ _ _ h => h) (by rfl) ?_ (by assumption) ?_
          · (intro w hSw; (try dsimp only at hSw); go_simp)
          try simp only [Act.put, List.setIfInBounds_toArray, List.set_cons_zero, List.set_cons_succ]
          refine region_take 7 2 (.bool ((sizeTo ds i : Int) == (i : Int))) rfl rfl (by kernel_rfl) (by kernel_rfl) (by kernel_rfl) (fun _ _ _ h => h) (by rfl) ?_ (by assumption) ?_
          · (intro w hSw; (try dsimp only at hSw); go_simp)
          try simp only [Act.put, List.setIfInBounds_toArray, List.set_cons_zero, List.set_cons_succ]
          refine wpAnyH_done (by kernel_rfl) ?_ _
          all_goals (go_wp2; go_ret; exact ⟨ret_bool (by rw [HVV.out]; exact nat_beq _ _), below_step HB1.out K1.out⟩)
    · have hn12 : (12 : Int) < (n : Int) := by omega
      obtain rfl : v = false := by rw [hv0]; simp [h12]
      clear hI hv hv0 h1 h hP hT hsz hs hN
      go_enter Tryd.func28, Tryd.ntmps28
      go_wp2_with (go_at_call 51; refine (HI.out _).mono ?_; rintro e w' ⟨rfl, rfl⟩)
      go_ret
      exact ⟨rfl, B0.out⟩
end Go.Proofs.YtmdgpkiicjmfhaaDoor
