/- spec.JoinedHubs and impl.JoinedHubs answer the hubs that are joined with a hub: contracts. -/
import Derived.Test.YtpklmhffgbgakaaSets
namespace Go.Proofs.Ytpklmhffgbgakaa
open Go.ChangeShapes Go.WideShapes Go.ChangeAt Go.RowKit Go.Maps Go.WideMaps

/-- what JoinedHubs answers -/
def joinedC (e n j : Int) (P : List (Int × Int)) (x : Int) : Int := codeB (boardB e n j P) x (hubV e n j)
def joinedA (e n j : Int) (P : List (Int × Int)) (x : Int) : List Int := if joinedC e n j P x = 0 then withR (rootsB e n j P) x (e + n + j).toNat else []
theorem joinedA_length (e n j : Int) (P : List (Int × Int)) (x : Int) : (joinedA e n j P x).length ≤ 1048576 := by
  unfold joinedA
  by_cases h : joinedC e n j P x = 0
  · rw [if_pos h]
    have := withR_length (rootsB e n j P) x (e + n + j).toNat
    unfold joinedC codeB at h
    cases hb : boardB e n j P
    · rw [hb] at h
      simp at h
    · obtain ⟨E, N, J, rfl, rfl, rfl, _, _, _, _, hH, _⟩ := board_facts hb
      omega
  · rw [if_neg h]
    simp

set_option maxRecDepth 100000 in
set_option maxHeartbeats 2000000 in
theorem specJoined_any (e n j : Int) (A : Option Addr) (c : Nat) (P : List (Int × Int)) (B : Nat) (x : Int) (w : World) (h : Wires w B A P) (hB : B ≤ w.heap.size) (hn : P.length ≤ 1048576) :
    Calls Try.prog 29 #[.agg #[.int .i64 e, .int .i64 n, .int .i64 j, .slice A P.length c], .int .i64 x] w (GivesIC (joinedA e n j P x) (joinedC e n j P x) w) := by
  have hbx := below_box w (.cells #[.int .i64 e, .int .i64 n, .int .i64 j, .slice A P.length c] 29)
  obtain ⟨c0, c1, c2, c3⟩ := board_cells w e n j (.slice A P.length c) 29
  have hhu := fun (W : World) (hW : Below (w.alloc (.cells #[.int .i64 e, .int .i64 n, .int .i64 j, .slice A P.length c] 29)).heap.size (w.alloc (.cells #[.int .i64 e, .int .i64 n, .int .i64 j, .slice A P.length c] 29)) W) => l12Hubs_any e n j w.heap.size 0 W (cell_kept c0 hW) (cell_kept c1 hW) (cell_kept c2 hW)
  have hcode := fun (W : World) (hW : Below (w.alloc (.cells #[.int .i64 e, .int .i64 n, .int .i64 j, .slice A P.length c] 29)).heap.size (w.alloc (.cells #[.int .i64 e, .int .i64 n, .int .i64 j, .slice A P.length c] 29)) W) => l12Code_any e n j A c P B w.heap.size 0 x (hubV e n j) W (cell_kept c0 hW) (cell_kept c1 hW) (cell_kept c2 hW) (cell_kept c3 hW) (h.below ((below_step hbx hW).mono hB)) (Nat.le_trans hB (below_step hbx hW).size) hn (fun hv => by obtain ⟨E, N, J, _, _, _, _, _, _, _, hH, _, _, hu⟩ := board_facts hv; omega)
  have hsc : joinedC e n j P x = codeB (boardB e n j P) x (hubV e n j) := rfl
  rcases codeB_cases (boardB e n j P) x (hubV e n j) with ⟨hb, hc⟩ | ⟨hb, hi, hc⟩ | ⟨hb, hi, hc⟩
  · have ha : joinedA e n j P x = [] := by unfold joinedA; rw [hsc, hc, if_neg (by decide)]
    rw [ha, hsc, hc]
    rw [hc] at hcode
    obtain ⟨m, hN⟩ : ∃ m, P.length = m := ⟨_, rfl⟩
    simp only [hN] at hcode hbx hhu ⊢
    obtain ⟨u, hu⟩ : ∃ u, hubV e n j = u := ⟨_, rfl⟩
    simp only [hu] at hcode hhu
    have HC := Lib.hid hcode
    have HX := Lib.hid hbx
    have HH := Lib.hid hhu
    clear hcode hbx hhu c0 c1 c2 c3 h hN hn hsc hb hc ha hu
    go_enter Try.func29, Try.ntmps29
    go_wp2_with fail
    with_reducible refine (HH.out _ (Below.refl _ _)).mono ?_
    rintro r w1 ⟨rfl, hb⟩
    have HB := Lib.hid hb
    clear hb
    go_wp2_with fail
    with_reducible refine (HC.out _ HB.out).mono ?_
    rintro r w2 ⟨rfl, hb⟩
    have HB2 := Lib.hid (below_step HX.out (below_step HB.out hb))
    clear hb
    go_wp2
    go_ret2
    exact ⟨none, 0, rfl, HB2.out, IAt.nil (Nat.le_refl _)⟩
  · have ha : joinedA e n j P x = [] := by unfold joinedA; rw [hsc, hc, if_neg (by decide)]
    rw [ha, hsc, hc]
    rw [hc] at hcode
    obtain ⟨m, hN⟩ : ∃ m, P.length = m := ⟨_, rfl⟩
    simp only [hN] at hcode hbx hhu ⊢
    obtain ⟨u, hu⟩ : ∃ u, hubV e n j = u := ⟨_, rfl⟩
    simp only [hu] at hcode hhu
    have HC := Lib.hid hcode
    have HX := Lib.hid hbx
    have HH := Lib.hid hhu
    clear hcode hbx hhu c0 c1 c2 c3 h hN hn hsc hb hc ha hu hi
    go_enter Try.func29, Try.ntmps29
    go_wp2_with fail
    with_reducible refine (HH.out _ (Below.refl _ _)).mono ?_
    rintro r w1 ⟨rfl, hb⟩
    have HB := Lib.hid hb
    clear hb
    go_wp2_with fail
    with_reducible refine (HC.out _ HB.out).mono ?_
    rintro r w2 ⟨rfl, hb⟩
    have HB2 := Lib.hid (below_step HX.out (below_step HB.out hb))
    clear hb
    go_wp2
    go_ret2
    exact ⟨none, 0, rfl, HB2.out, IAt.nil (Nat.le_refl _)⟩
  · have ha : joinedA e n j P x = withR (rootsB e n j P) x (e + n + j).toNat := by unfold joinedA; rw [hsc, hc, if_pos rfl]
    rw [ha, hsc, hc]
    rw [hc] at hcode
    obtain ⟨E, N, J, rfl, rfl, rfl, hE1, hE2, hN1, hN2, hH, hP40, hv, hhub⟩ := board_facts hb
    rw [hhub] at hi hcode hhu
    simp only [inB, Bool.and_eq_true, decide_eq_true_eq] at hi
    obtain ⟨X, rfl⟩ : ∃ X : Nat, x = X := ⟨x.toNat, by omega⟩
    rw [rootsB_nat]
    have hto : ((E : Int) + (N : Int) + (J : Int)).toNat = E + N + J := by omega
    rw [hto]
    have hr := fun (W : World) (hW : Below (w.alloc (.cells #[.int .i64 E, .int .i64 N, .int .i64 J, .slice A P.length c] 29)).heap.size (w.alloc (.cells #[.int .i64 E, .int .i64 N, .int .i64 J, .slice A P.length c] 29)) W) =>
      l12Roots_any E N J (E + N + J) hhub A c P B w.heap.size 0 W (cell_kept c0 hW) (cell_kept c1 hW) (cell_kept c2 hW) (cell_kept c3 hW) (h.below ((below_step hbx hW).mono hB)) (Nat.le_trans hB (below_step hbx hW).size) hP40 (by omega) (by omega) hv
    have hlR : (rootsW (startR (E + N + J)) P).length = E + N + J := by rw [rootsW_length, startR_length]
    obtain ⟨R, hR⟩ : ∃ R, rootsW (startR (E + N + J)) P = R := ⟨_, rfl⟩
    rw [hR] at hlR ⊢
    simp only [hR] at hr
    unfold GivesInts at hr
    obtain ⟨H, hHH⟩ : ∃ H, E + N + J = H := ⟨_, rfl⟩
    have hX : X < H := by omega
    rw [hHH] at hlR hcode hhu hH ⊢
    rw [hlR] at hr
    have hwt := fun (g cap : Nat) (ex : List Value) (W : World) (hrow : Row W g R ex) => l12With_any (some ⟨g, 0, none⟩) cap R X H (g + 1) W hrow.ints hrow.lt (by rw [hlR]; exact hX) (by rw [hlR]; exact Nat.le_refl _) (by rw [hlR]; omega)
    rw [hlR] at hwt
    unfold GivesN at hwt
    obtain ⟨L, hL⟩ : ∃ L, withR R X H = L := ⟨_, rfl⟩
    rw [hL] at hwt ⊢
    obtain ⟨m, hN⟩ : ∃ m, P.length = m := ⟨_, rfl⟩
    simp only [hN] at hcode hbx hr hhu ⊢
    have HC := Lib.hid hcode
    have HX := Lib.hid hbx
    have HRT := Lib.hid hr
    have HWT := Lib.hid hwt
    have HH := Lib.hid hhu
    clear hcode hbx hr hwt hhu h hN hn hsc hb hc ha hi hto hlR hR hL hv hhub hP40 hHH hH hX c0 c1 c2 c3
    go_enter Try.func29, Try.ntmps29
    go_wp2_with fail
    with_reducible refine (HH.out _ (Below.refl _ _)).mono ?_
    rintro r w1 ⟨rfl, hb⟩
    have HB := Lib.hid hb
    clear hb
    go_wp2_with fail
    with_reducible refine (HC.out _ HB.out).mono ?_
    rintro r w2 ⟨rfl, hb⟩
    have HB2 := Lib.hid (below_step HB.out hb)
    clear hb
    go_wp2_with fail
    with_reducible refine (HRT.out _ HB2.out).mono ?_
    rintro r w3 ⟨g, cap, ex, rfl, hg, hb, hrow⟩
    have HB3 := Lib.hid (below_step HB2.out hb)
    have HROW := Lib.hid hrow
    clear hb hrow hg
    go_wp2_with fail
    with_reducible refine (HH.out _ HB3.out).mono ?_
    rintro r w4 ⟨rfl, hb⟩
    have HB4 := Lib.hid (below_step HB3.out hb)
    have HROW4 := Lib.hid (HROW.out.later hb)
    clear hb
    go_wp2_with fail
    with_reducible refine (HWT.out _ _ _ _ HROW4.out).mono ?_
    rintro r w5 ⟨A9, cap9, rfl, hb, hi⟩
    have HB5 := Lib.hid (below_step HX.out (below_step HB4.out hb))
    have HIA := Lib.hid (hi.wide (show w.heap.size ≤ _ from Nat.le_trans HX.out.size HB4.out.size) (Nat.le_refl _) (Nat.le_refl _))
    clear hb hi
    go_wp2
    go_ret2
    exact ⟨_, _, rfl, HB5.out, HIA.out⟩

set_option maxRecDepth 100000 in
set_option maxHeartbeats 2000000 in
theorem implJoined_any (e n j : Int) (A : Option Addr) (c : Nat) (P : List (Int × Int)) (B : Nat) (x : Int) (w : World) (h : Wires w B A P) (hB : B ≤ w.heap.size) (hn : P.length ≤ 1048576) :
    Calls Try.prog 30 #[.agg #[.int .i64 e, .int .i64 n, .int .i64 j, .slice A P.length c], .int .i64 x] w (GivesIC (joinedA e n j P x) (joinedC e n j P x) w) := by
  have hbx := below_box w (.cells #[.int .i64 e, .int .i64 n, .int .i64 j, .slice A P.length c] 29)
  obtain ⟨c0, c1, c2, c3⟩ := board_cells w e n j (.slice A P.length c) 29
  have hval := implValidBoard_any e n j A c P B _ (h.below (hbx.mono hB)) (Nat.le_trans hB hbx.size) hn
  have hhu := fun W => hubs_any e n j (.slice A P.length c) W
  have hsc : joinedC e n j P x = codeB (boardB e n j P) x (hubV e n j) := rfl
  rcases codeB_cases (boardB e n j P) x (hubV e n j) with ⟨hb, hc⟩ | ⟨hb, hi, hc⟩ | ⟨hb, hi, hc⟩
  · have ha : joinedA e n j P x = [] := by unfold joinedA; rw [hsc, hc, if_neg (by decide)]
    rw [ha, hsc, hc]
    rw [hb] at hval
    obtain ⟨m, hN⟩ : ∃ m, P.length = m := ⟨_, rfl⟩
    rw [hN] at hval hbx ⊢
    have HC := Lib.hid hval
    have HX := Lib.hid hbx
    clear hval hbx hhu c0 c1 c2 c3 h hN hn hsc hb hc ha
    go_enter Try.func30, Try.ntmps30
    go_wp2_with (go_at_call 18; with_reducible refine HC.out.mono ?_; rintro r w1 ⟨rfl, hb⟩; have HB := Lib.hid (below_step HX.out hb); clear hb)
    go_ret2
    exact ⟨none, 0, rfl, HB.out, IAt.nil (Nat.le_refl _)⟩
  · have ha : joinedA e n j P x = [] := by unfold joinedA; rw [hsc, hc, if_neg (by decide)]
    rw [ha, hsc, hc]
    rw [hb] at hval
    have hnot : x < 0 ∨ (¬ x < 0 ∧ x ≥ hubV e n j) := by
      by_cases h0 : x < 0
      · exact Or.inl h0
      · refine Or.inr ⟨h0, ?_⟩
        simp only [inB, Bool.and_eq_false_iff, decide_eq_false_iff_not] at hi
        omega
    obtain ⟨m, hN⟩ : ∃ m, P.length = m := ⟨_, rfl⟩
    obtain ⟨u, hu⟩ : ∃ u, hubV e n j = u := ⟨_, rfl⟩
    simp only [hN] at hval hbx hhu c0 c1 c2 c3 ⊢
    simp only [hu] at hhu hnot
    have HC := Lib.hid hval
    have HX := Lib.hid hbx
    have HH := Lib.hid hhu
    clear hval hbx hhu h hN hn hsc hb hc ha hi hu
    rcases hnot with h0 | ⟨h0, h1⟩
    all_goals
      go_enter Try.func30, Try.ntmps30
      go_wp2_with (first
        | (go_at_call 18; with_reducible refine HC.out.mono ?_; rintro r w1 ⟨rfl, hb⟩; have x0 := cell_kept c0 hb; have x1 := cell_kept c1 hb; have x2 := cell_kept c2 hb; have x3 := cell_kept c3 hb; have HB := Lib.hid (below_step HX.out hb); clear hb)
        | (go_at_call 75; with_reducible refine (HH.out _).mono ?_; rintro r w2 ⟨rfl, hb⟩; have HB := Lib.hid (below_step HB.out hb); clear hb))
      go_ret2
      exact ⟨none, 0, rfl, HB.out, IAt.nil (Nat.le_refl _)⟩
  · have ha : joinedA e n j P x = withR (rootsB e n j P) x (e + n + j).toNat := by unfold joinedA; rw [hsc, hc, if_pos rfl]
    rw [ha, hsc, hc]
    rw [hb] at hval
    obtain ⟨E, N, J, rfl, rfl, rfl, hE1, hE2, hN1, hN2, hH, hP40, hv, hhub⟩ := board_facts hb
    rw [hhub] at hi hhu
    simp only [inB, Bool.and_eq_true, decide_eq_true_eq] at hi
    obtain ⟨X, hx, hX⟩ : ∃ X : Nat, x = X ∧ X < E + N + J := ⟨x.toNat, by omega, by omega⟩
    have k1 : ¬ x < 0 := by omega
    have k2 : ¬ x ≥ ((E + N + J : Nat) : Int) := by omega
    clear hi
    rw [rootsB_nat]
    have hto : ((E : Int) + (N : Int) + (J : Int)).toNat = E + N + J := by omega
    rw [hto]
    have hwi := fun (W : World) (hW : Below w.heap.size w W) => wiring_ok (E := E) (N := N) (J := J) (A := A) (c := c) (w := W) (h.below (hW.mono hB)) (Nat.le_trans hB hW.size) hP40 hH hv
    have hok := roots_ok hv
    have hlR : (rootsW (startR (E + N + J)) P).length = E + N + J := by rw [rootsW_length, startR_length]
    obtain ⟨R, hR⟩ : ∃ R, rootsW (startR (E + N + J)) P = R := ⟨_, rfl⟩
    rw [hR] at hlR hok ⊢
    simp only [hR] at hwi
    obtain ⟨H, hHH⟩ : ∃ H, E + N + J = H := ⟨_, rfl⟩
    rw [hHH] at hlR hhub hH hhu hX k2 ⊢
    have hH100 : H ≤ 100 := Nat.le_trans hH (by decide)
    have hH1000 : R.length ≤ 1000 := by rw [hlR]; exact Nat.le_trans hH (by decide)
    have hXR : X < R.length := by rw [hlR]; exact hX
    have hst := fun (sl sp : Value) (b m : Nat) (W : World) (hF : Forest W b m R) => sets_any E N J sl sp b m R H W hF hok hlR hH100 hhub
    unfold GivesSets at hst
    unfold GivesWiring at hwi
    have hle := fun (b m : Nat) (W : World) (hF : Forest W b m R) => least_any b m R hH1000 hok X W hF hXR
    rw [← hx] at hle
    obtain ⟨rr, hrr, hrx, _, _⟩ := hok.root (h := X) hXR
    rw [← hx] at hrr
    rw [hrr] at hle
    have hkey := hubKey (h := (rr : Int)) (Int.natCast_nonneg _) (Int.ofNat_le.2 (Nat.le_trans hrx (Nat.le_trans (Nat.le_of_lt hX) (Nat.le_trans hH (by decide)))))
    have hans : withR R x H = grp R (rr : Int) H := by rw [grp_with, hrr]
    rw [hans]
    obtain ⟨L9, hL9⟩ : ∃ L, grp R (rr : Int) H = L := ⟨_, rfl⟩
    have HL9 := Lib.hid hL9
    rw [hL9]
    obtain ⟨m, hN⟩ : ∃ m, P.length = m := ⟨_, rfl⟩
    obtain ⟨Z, hZ⟩ : ∃ Z, spareW (startR (E + N + J)) P P.length = Z := ⟨_, rfl⟩
    simp only [hZ] at hwi
    simp only [hN] at hval hbx hwi hhu c0 c1 c2 c3 ⊢
    obtain ⟨z, hz⟩ : ∃ z, Z.length = z := ⟨_, rfl⟩
    simp only [hz] at hwi
    have HC := Lib.hid hval
    have HX := Lib.hid hbx
    have HWI := Lib.hid hwi
    have HST := Lib.hid hst
    have HLE := Lib.hid hle
    have HH := Lib.hid hhu
    clear hval hbx hwi hst hle hhu h hN hn hsc hb hc ha hto hlR hR hv hhub hP40 hZ hok hz hans hHH hx hrr hH100 hH1000 hXR hrx
    go_enter Try.func30, Try.ntmps30
    go_wp2_with fail
    with_reducible refine HC.out.mono ?_
    rintro r w1 ⟨rfl, hb⟩
    have HB := Lib.hid (below_step HX.out hb)
    have x0 := cell_kept c0 hb
    have x1 := cell_kept c1 hb
    have x2 := cell_kept c2 hb
    have x3 := cell_kept c3 hb
    clear hb c0 c1 c2 c3
    go_wp2_with fail
    with_reducible refine (HH.out _).mono ?_
    rintro r w2 ⟨rfl, hb⟩
    have HB2 := Lib.hid (below_step HB.out hb)
    have y0 := cell_kept x0 hb
    have y1 := cell_kept x1 hb
    have y2 := cell_kept x2 hb
    have y3 := cell_kept x3 hb
    clear hb x0 x1 x2 x3
    go_wp2_with fail
    with_reducible refine (HWI.out _ HB2.out).mono ?_
    rintro r w3 ⟨mb, fm, A2, cap2, rfl, hmb, hb, hF, hI⟩
    have HB3 := Lib.hid (below_step HB2.out hb)
    have hbx2 := below_box w3 (.cells #[.int .i64 E, .int .i64 N, .int .i64 J, .slice A m c, .map (some mb), .slice A2 z cap2] 87)
    have hwb : Wbox (w3.alloc (.cells #[.int .i64 E, .int .i64 N, .int .i64 J, .slice A m c, .map (some mb), .slice A2 z cap2] 87)) w3.heap.size E N J (.slice A m c) (.map (some mb)) (.slice A2 z cap2) := heap_alloc_new w3 _
    have hF3 := hF.later hbx2
    obtain ⟨w4, hw4⟩ : ∃ W, w3.alloc (.cells #[.int .i64 E, .int .i64 N, .int .i64 J, .slice A m c, .map (some mb), .slice A2 z cap2] 87) = W := ⟨_, rfl⟩
    rw [hw4] at hbx2 hwb hF3
    have HF4 := Lib.hid hF3
    obtain ⟨v0, v1, v2, v3, v4, v5⟩ := hwb.cells
    have HB4 := Lib.hid (below_step HB3.out hbx2)
    have HZ : Hid (Below w.heap.size w w4.drew) := HB4.out.drew
    clear hb hF hI hmb y0 y1 y2 y3 hbx2 hwb hF3
    have HFz : Hid (Forest w4.drew mb fm R) := HF4
    have h1000 : 1000 < maxLen := by decide
    go_wp2
    go_region_held3 (fun W => W.cell? ⟨w3.heap.size, 0, none⟩ = some (.int .i64 E) ∧ W.cell? ⟨w3.heap.size, 1, none⟩ = some (.int .i64 N) ∧ W.cell? ⟨w3.heap.size, 2, none⟩ = some (.int .i64 J) ∧ W.cell? ⟨w3.heap.size, 3, none⟩ = some (.slice A m c) ∧ W.cell? ⟨w3.heap.size, 4, none⟩ = some (.map (some mb)) ∧ W.cell? ⟨w3.heap.size, 5, none⟩ = some (.slice A2 z cap2))
      (first | exact ⟨v0, v1, v2, v3, v4, v5⟩ | exact ⟨u0, u1, u2, u3, u4, u5⟩)
      (first
        | (go_at_call 77
           with_reducible refine (HST.out _ _ _ _ _ HFz.out).mono ?_
           rintro r wz ⟨sb, NN, base, D, rfl, hb, hbase, hNN, hog, hsd⟩
           obtain ⟨v, zs, hrun, hat, hoi, _, _⟩ := hog.at keyLawI Try.underlying89 (zeroSl _) (Nat.lt_of_le_of_lt hNN h1000) hkey
           have hzs := (hsd.here hoi hat).trans HL9.out
           subst hzs
           obtain ⟨A9, cap9, rfl, hr9⟩ := owned_list hoi.1 rfl
           have HIA : Hid (IAt wz w.heap.size wz.heap.size A9 zs) := ⟨fun h0 => by obtain ⟨g, ex, e, hg, hrow⟩ := hr9 h0; exact ⟨g, ex, e, Nat.le_trans (Nat.le_trans HZ.out.size hbase) hg, hrow.lt, hrow⟩, Nat.le_refl _⟩
           have u0 := cell_kept (w := w4.drew) v0 hb
           have u1 := cell_kept (w := w4.drew) v1 hb
           have u2 := cell_kept (w := w4.drew) v2 hb
           have u3 := cell_kept (w := w4.drew) v3 hb
           have u4 := cell_kept (w := w4.drew) v4 hb
           have u5 := cell_kept (w := w4.drew) v5 hb
           have HFz := Lib.hid (HFz.out.later hb)
           have HZ := Lib.hid (below_step HZ.out hb)
           clear hb hbase hNN hog hsd hat hoi hr9)
        | (go_at_call 78
           with_reducible refine (HLE.out _ _ _ HFz.out).mono ?_
           rintro r wz' ⟨rfl, rfl⟩))
    all_goals
      go_wp2
      go_ret2
      exact ⟨_, _, rfl, HZ.out, HIA.out⟩
end Go.Proofs.Ytpklmhffgbgakaa
