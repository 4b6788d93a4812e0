/- spec.SourcesOf and impl.SourcesOf answer the exits that are joined with an entry: contracts. -/
import Derived.Test.YtpklmhffgbgakaaWiring
import Derived.Test.YtpklmhffgbgakaaBrdRootL
namespace Go.Proofs.Ytpklmhffgbgakaa
open Go.ChangeShapes Go.WideShapes Go.ChangeAt Go.RowKit Go.Maps Go.WideMaps

/-- what a valid board is -/
theorem board_facts {e n j : Int} {P : List (Int × Int)} (h : boardB e n j P = true) : ∃ E N J : Nat, e = E ∧ n = N ∧ j = J ∧ 1 ≤ E ∧ E ≤ 20 ∧ 1 ≤ N ∧ N ≤ 20 ∧ E + N + J ≤ 30 ∧ P.length ≤ 40 ∧ (∀ d ∈ P, wireB ((E + N + J : Nat) : Int) d = true) ∧ hubV e n j = ((E + N + J : Nat) : Int) := by
  unfold boardB at h
  simp only [Bool.and_eq_true] at h
  obtain ⟨h1, h2, h3, h4, h5, h6⟩ := h
  obtain ⟨hv, he, hn, hj⟩ := hubV_fit h1 h2 h3
  simp only [decide_eq_true_eq] at h5 h6
  have ec : e + n + j = ((e.toNat + n.toNat + j.toNat : Nat) : Int) := by omega
  refine ⟨e.toNat, n.toNat, j.toNat, by omega, by omega, by omega, by omega, by omega, by omega, by omega, by omega, h6, ?_, by rw [hv, ec]⟩
  rw [← ec]
  exact fun d hd => List.all_eq_true.1 h4 d hd

/-- the least hubs of a board -/
def rootsB (e n j : Int) (P : List (Int × Int)) : List Int := rootsW (startR (e + n + j).toNat) P
theorem rootsB_nat (E N J : Nat) (P : List (Int × Int)) : rootsB (E : Int) (N : Int) (J : Int) P = rootsW (startR (E + N + J)) P := by
  unfold rootsB
  congr 2
/-- what SourcesOf answers -/
def srcC (e n j : Int) (P : List (Int × Int)) (x : Int) : Int := codeB (boardB e n j P) x n
def srcA (e n j : Int) (P : List (Int × Int)) (x : Int) : List Int := if srcC e n j P x = 0 then withR (rootsB e n j P) (e + x) e.toNat else []
theorem srcA_length (e n j : Int) (P : List (Int × Int)) (x : Int) : (srcA e n j P x).length ≤ 1048576 := by
  unfold srcA
  by_cases h : srcC e n j P x = 0
  · rw [if_pos h]
    have := withR_length (rootsB e n j P) (e + x) e.toNat
    unfold srcC codeB at h
    cases hb : boardB e n j P
    · rw [hb] at h
      simp at h
    · obtain ⟨E, N, J, rfl, _, _, _, hE, _⟩ := board_facts hb
      have : ((E : Int)).toNat = E := by simp
      omega
  · rw [if_neg h]
    simp
theorem codeB_cases (b : Bool) (x many : Int) : (b = false ∧ codeB b x many = 1) ∨ (b = true ∧ inB x 0 (many - 1) = false ∧ codeB b x many = 2) ∨ (b = true ∧ inB x 0 (many - 1) = true ∧ codeB b x many = 0) := by
  unfold codeB
  cases b <;> cases inB x 0 (many - 1) <;> simp

set_option maxRecDepth 100000 in
set_option maxHeartbeats 800000 in
theorem specSources_any (e n j : Int) (A : Option Addr) (c : Nat) (P : List (Int × Int)) (B : Nat) (x : Int) (w : World) (h : Wires w B A P) (hB : B ≤ w.heap.size) (hn : P.length ≤ 1048576) :
    Calls Try.prog 39 #[.agg #[.int .i64 e, .int .i64 n, .int .i64 j, .slice A P.length c], .int .i64 x] w (GivesIC (srcA e n j P x) (srcC e n j P x) w) := by
  have hbx := below_box w (.cells #[.int .i64 e, .int .i64 n, .int .i64 j, .slice A P.length c] 29)
  obtain ⟨c0, c1, c2, c3⟩ := board_cells w e n j (.slice A P.length c) 29
  have hcode := l12Code_any e n j A c P B w.heap.size 0 x n _ c0 c1 c2 c3 (h.below (hbx.mono hB)) (Nat.le_trans hB hbx.size) hn (fun hv => by obtain ⟨E, N, J, rfl, rfl, rfl, _, _, _, hN, _⟩ := board_facts hv; omega)
  have hsc : srcC e n j P x = codeB (boardB e n j P) x n := rfl
  rcases codeB_cases (boardB e n j P) x n with ⟨hb, hc⟩ | ⟨hb, hi, hc⟩ | ⟨hb, hi, hc⟩
  · have ha : srcA e n j P x = [] := by unfold srcA; rw [hsc, hc, if_neg (by decide)]
    rw [ha, hsc, hc]
    rw [hc] at hcode
    obtain ⟨m, hN⟩ : ∃ m, P.length = m := ⟨_, rfl⟩
    rw [hN] at hcode hbx ⊢
    have HC := Lib.hid hcode
    have HX := Lib.hid hbx
    clear hcode hbx c0 c1 c2 c3 h hN hn hsc hb hc ha
    go_enter Try.func39, Try.ntmps39
    go_wp2_with (go_at_call 72; refine HC.out.mono ?_; rintro r w1 ⟨rfl, hb⟩; have HB := Lib.hid (below_step HX.out hb); clear hb)
    go_ret2
    exact ⟨none, 0, rfl, HB.out, IAt.nil (Nat.le_refl _)⟩
  · have ha : srcA e n j P x = [] := by unfold srcA; rw [hsc, hc, if_neg (by decide)]
    rw [ha, hsc, hc]
    rw [hc] at hcode
    obtain ⟨m, hN⟩ : ∃ m, P.length = m := ⟨_, rfl⟩
    rw [hN] at hcode hbx ⊢
    have HC := Lib.hid hcode
    have HX := Lib.hid hbx
    clear hcode hbx c0 c1 c2 c3 h hN hn hsc hb hc ha hi
    go_enter Try.func39, Try.ntmps39
    go_wp2_with (go_at_call 72; refine HC.out.mono ?_; rintro r w1 ⟨rfl, hb⟩; have HB := Lib.hid (below_step HX.out hb); clear hb)
    go_ret2
    exact ⟨none, 0, rfl, HB.out, IAt.nil (Nat.le_refl _)⟩
  · have ha : srcA e n j P x = withR (rootsB e n j P) (e + x) e.toNat := by unfold srcA; rw [hsc, hc, if_pos rfl]
    rw [ha, hsc, hc]
    rw [hc] at hcode
    obtain ⟨E, N, J, rfl, rfl, rfl, hE1, hE2, hN1, hN2, hH, hP40, hv, hhub⟩ := board_facts hb
    simp only [inB, Bool.and_eq_true, decide_eq_true_eq] at hi
    obtain ⟨X, rfl⟩ : ∃ X : Nat, x = X := ⟨x.toNat, by omega⟩
    rw [rootsB_nat]
    have hto : ((E : Int)).toNat = E := by simp
    rw [hto]
    have hr := fun (W : World) (hW : Below (w.alloc (.cells #[.int .i64 E, .int .i64 N, .int .i64 J, .slice A P.length c] 29)).heap.size (w.alloc (.cells #[.int .i64 E, .int .i64 N, .int .i64 J, .slice A P.length c] 29)) W) =>
      l12Roots_any E N J (E + N + J) hhub A c P B w.heap.size 0 W (cell_kept c0 hW) (cell_kept c1 hW) (cell_kept c2 hW) (cell_kept c3 hW) (h.below ((below_step hbx hW).mono hB)) (Nat.le_trans hB (below_step hbx hW).size) hP40 (by omega) (by omega) hv
    have hlR : (rootsW (startR (E + N + J)) P).length = E + N + J := by rw [rootsW_length, startR_length]
    obtain ⟨R, hR⟩ : ∃ R, rootsW (startR (E + N + J)) P = R := ⟨_, rfl⟩
    rw [hR] at hlR ⊢
    simp only [hR] at hr
    unfold GivesInts at hr
    have hx3 : E + X < E + N + J := by omega
    have hx4 : E ≤ E + N + J := by omega
    have hx5 : E + N + J ≤ 100 := by omega
    obtain ⟨H, hHH⟩ : ∃ H, E + N + J = H := ⟨_, rfl⟩
    rw [hHH] at hlR hx3 hx4 hx5
    rw [hlR] at hr
    have hwt := fun (g cap : Nat) (ex : List Value) (W : World) (hrow : Row W g R ex) => l12With_any (some ⟨g, 0, none⟩) cap R (E + X) E (g + 1) W hrow.ints hrow.lt (by rw [hlR]; exact hx3) (by rw [hlR]; exact hx4) (by rw [hlR]; exact hx5)
    have e1 : ((E + X : Nat) : Int) = (E : Int) + X := Int.natCast_add _ _
    rw [e1] at hwt
    rw [hlR] at hwt
    unfold GivesN at hwt
    obtain ⟨L, hL⟩ : ∃ L, withR R ((E : Int) + X) E = L := ⟨_, rfl⟩
    rw [hL] at hwt ⊢
    have hwr : IntKind.i64.wrap ((E : Int) + X) = (E : Int) + X := IntWalk.i64_in _ (by omega)
    rw [← hwr] at hwt
    obtain ⟨m, hN⟩ : ∃ m, P.length = m := ⟨_, rfl⟩
    simp only [hN] at hcode hbx hr c0 c1 c2 c3 ⊢
    have k1 : (0 : Int) ≤ (E : Int) := Int.natCast_nonneg _
    have k2 : (0 : Int) ≤ (X : Int) := Int.natCast_nonneg _
    have k3 : (E : Int) + X ≤ 1000 := by omega
    have HC := Lib.hid hcode
    have HX := Lib.hid hbx
    have HRT := Lib.hid hr
    have HWT := Lib.hid hwt
    clear hcode hbx hr hwt h hN hn hsc hb hc ha hi hto hlR hR hL e1 hv hhub hP40 hx3 hx4 hx5 hHH hH hwr
    go_enter Try.func39, Try.ntmps39
    go_wp2_with fail
    refine HC.out.mono ?_
    rintro r w1 ⟨rfl, hb⟩
    have HB := Lib.hid hb
    have x0 := cell_kept c0 hb
    clear hb c0 c1 c2 c3
    go_wp2
    have HZ : Hid (Below (w.alloc (.cells #[.int .i64 E, .int .i64 N, .int .i64 J, .slice A m c] 29)).heap.size (w.alloc (.cells #[.int .i64 E, .int .i64 N, .int .i64 J, .slice A m c] 29)) w1.drew) := HB.out.drew
    go_region_held3 (fun W => W.cell? ⟨w.heap.size, 0, none⟩ = some (.int .i64 E))
      (first | exact x0 | exact x1 | exact x2)
      (first
        | (go_at_call 74
           with_reducible refine (HRT.out _ HZ.out).mono ?_
           rintro r wz ⟨g, cap, ex, rfl, hg, hb, hrow⟩
           have x1 := cell_kept (w := w1.drew) x0 hb
           have HZ := Lib.hid (below_step HZ.out hb)
           have HROW := Lib.hid hrow
           clear hb hrow hg)
        | (go_at_call 73
           with_reducible refine (HWT.out _ _ _ _ HROW.out).mono ?_
           rintro r wz ⟨A9, cap9, rfl, hb, hi⟩
           have x2 := cell_kept x1 hb
           have HIA := Lib.hid (hi.wide (show w.heap.size ≤ _ from Nat.le_trans HX.out.size HZ.out.size) (Nat.le_refl _) (Nat.le_refl _))
           have HZ := Lib.hid (below_step HZ.out hb)
           clear hb hi))
    all_goals
      go_wp2
      go_ret2
      exact ⟨_, _, rfl, below_step HX.out HZ.out, HIA.out⟩

/-- a wiring of a valid board -/
theorem wiring_ok {E N J : Nat} {A : Option Addr} {c : Nat} {P : List (Int × Int)} {B : Nat} {w : World} (h : Wires w B A P) (hB : B ≤ w.heap.size) (hP : P.length ≤ 40) (hH : E + N + J ≤ 30) (hv : ∀ d ∈ P, wireB ((E + N + J : Nat) : Int) d = true) :
    Calls Try.prog 76 #[.agg #[.int .i64 E, .int .i64 N, .int .i64 J, .slice A P.length c]] w (GivesWiring E N J (.slice A P.length c) (rootsW (startR (E + N + J)) P) (spareW (startR (E + N + J)) P P.length) w) :=
  wiringOf_any E N J (E + N + J) A c P B w h hB hP (by omega) hv
theorem roots_ok {H : Nat} {P : List (Int × Int)} (hv : ∀ d ∈ P, wireB (H : Int) d = true) : OkR (rootsW (startR H) P) := rootsW_ok H P hv _ (by rw [startR_length]) (startR_ok H)

set_option maxRecDepth 100000 in
set_option maxHeartbeats 2000000 in
theorem implSources_any (e n j : Int) (A : Option Addr) (c : Nat) (P : List (Int × Int)) (B : Nat) (x : Int) (w : World) (h : Wires w B A P) (hB : B ≤ w.heap.size) (hn : P.length ≤ 1048576) :
    Calls Try.prog 40 #[.agg #[.int .i64 e, .int .i64 n, .int .i64 j, .slice A P.length c], .int .i64 x] w (GivesIC (srcA e n j P x) (srcC e n j P x) w) := by
  have hbx := below_box w (.cells #[.int .i64 e, .int .i64 n, .int .i64 j, .slice A P.length c] 29)
  obtain ⟨c0, c1, c2, c3⟩ := board_cells w e n j (.slice A P.length c) 29
  have hval := implValidBoard_any e n j A c P B _ (h.below (hbx.mono hB)) (Nat.le_trans hB hbx.size) hn
  have hsc : srcC e n j P x = codeB (boardB e n j P) x n := rfl
  rcases codeB_cases (boardB e n j P) x n with ⟨hb, hc⟩ | ⟨hb, hi, hc⟩ | ⟨hb, hi, hc⟩
  · have ha : srcA e n j P x = [] := by unfold srcA; rw [hsc, hc, if_neg (by decide)]
    rw [ha, hsc, hc]
    rw [hb] at hval
    obtain ⟨m, hN⟩ : ∃ m, P.length = m := ⟨_, rfl⟩
    rw [hN] at hval hbx ⊢
    have HC := Lib.hid hval
    have HX := Lib.hid hbx
    clear hval hbx c0 c1 c2 c3 h hN hn hsc hb hc ha
    go_enter Try.func40, Try.ntmps40
    go_wp2_with (go_at_call 18; refine HC.out.mono ?_; rintro r w1 ⟨rfl, hb⟩; have HB := Lib.hid (below_step HX.out hb); clear hb)
    go_ret2
    exact ⟨none, 0, rfl, HB.out, IAt.nil (Nat.le_refl _)⟩
  · have ha : srcA e n j P x = [] := by unfold srcA; rw [hsc, hc, if_neg (by decide)]
    rw [ha, hsc, hc]
    rw [hb] at hval
    have hnot : x < 0 ∨ (¬ x < 0 ∧ x ≥ n) := by
      by_cases h0 : x < 0
      · exact Or.inl h0
      · refine Or.inr ⟨h0, ?_⟩
        simp only [inB, Bool.and_eq_false_iff, decide_eq_false_iff_not] at hi
        omega
    obtain ⟨m, hN⟩ : ∃ m, P.length = m := ⟨_, rfl⟩
    simp only [hN] at hval hbx c0 c1 c2 c3 ⊢
    have HC := Lib.hid hval
    have HX := Lib.hid hbx
    clear hval hbx h hN hn hsc hb hc ha hi
    rcases hnot with h0 | ⟨h0, h1⟩
    all_goals
      go_enter Try.func40, Try.ntmps40
      go_wp2_with (go_at_call 18; refine HC.out.mono ?_; rintro r w1 ⟨rfl, hb⟩; have x1 := cell_kept c1 hb; have HB := Lib.hid (below_step HX.out hb); clear hb)
      go_ret2
      exact ⟨none, 0, rfl, HB.out, IAt.nil (Nat.le_refl _)⟩
  · have ha : srcA e n j P x = withR (rootsB e n j P) (e + x) e.toNat := by unfold srcA; rw [hsc, hc, if_pos rfl]
    rw [ha, hsc, hc]
    rw [hb] at hval
    obtain ⟨E, N, J, rfl, rfl, rfl, hE1, hE2, hN1, hN2, hH, hP40, hv, hhub⟩ := board_facts hb
    simp only [inB, Bool.and_eq_true, decide_eq_true_eq] at hi
    obtain ⟨X, rfl⟩ : ∃ X : Nat, x = X := ⟨x.toNat, by omega⟩
    rw [rootsB_nat]
    have hto : ((E : Int)).toNat = E := by simp
    rw [hto]
    have hwi := fun (W : World) (hW : Below w.heap.size w W) => wiring_ok (E := E) (N := N) (J := J) (A := A) (c := c) (w := W) (h.below (hW.mono hB)) (Nat.le_trans hB hW.size) hP40 hH hv
    have hok := roots_ok hv
    have hlR : (rootsW (startR (E + N + J)) P).length = E + N + J := by rw [rootsW_length, startR_length]
    obtain ⟨R, hR⟩ : ∃ R, rootsW (startR (E + N + J)) P = R := ⟨_, rfl⟩
    rw [hR] at hlR hok ⊢
    simp only [hR] at hwi
    have hso := fun (sl sp : Value) (b m : Nat) (W : World) (hF : Forest W b m R) => sourcesOf_any E N J sl sp b m R X W hF hok (by omega) (by omega) (by omega)
    unfold GivesN at hso
    unfold GivesWiring at hwi
    obtain ⟨L, hL⟩ : ∃ L, withR R ((E : Int) + X) E = L := ⟨_, rfl⟩
    rw [hL] at hso ⊢
    obtain ⟨m, hN⟩ : ∃ m, P.length = m := ⟨_, rfl⟩
    obtain ⟨Z, hZ⟩ : ∃ Z, spareW (startR (E + N + J)) P P.length = Z := ⟨_, rfl⟩
    simp only [hZ] at hwi
    simp only [hN] at hval hbx hwi c0 c1 c2 c3 ⊢
    have k1 : ¬ (X : Int) < 0 := by omega
    have k2 : ¬ (X : Int) ≥ (N : Int) := by omega
    have HC := Lib.hid hval
    have HX := Lib.hid hbx
    have HWI := Lib.hid hwi
    have HSO := Lib.hid hso
    clear hval hbx hwi hso h hN hn hsc hb hc ha hi hto hlR hR hL hv hhub hP40 hZ hok
    go_enter Try.func40, Try.ntmps40
    go_wp2_with fail
    refine HC.out.mono ?_
    rintro r w1 ⟨rfl, hb⟩
    have HB := Lib.hid (below_step HX.out hb)
    have x0 := cell_kept c0 hb
    have x1 := cell_kept c1 hb
    have x2 := cell_kept c2 hb
    have x3 := cell_kept c3 hb
    clear hb c0 c1 c2 c3
    go_wp2_with fail
    refine (HWI.out _ HB.out).mono ?_
    rintro r w2 ⟨mb, fm, A2, cap2, rfl, hmb, hb, hF, hI⟩
    have HB2 := Lib.hid (below_step HB.out hb)
    have HF2 := Lib.hid hF
    clear hb hF hI hmb x0 x1 x2 x3
    go_wp2_with fail
    refine (HSO.out _ _ _ _ _ HF2.out).mono ?_
    rintro r w3 ⟨A3, cap3, rfl, hb, hi⟩
    have HB3 := Lib.hid (below_step HB2.out hb)
    have HIA := Lib.hid (hi.wide HB2.out.size (Nat.le_refl _) (Nat.le_refl _))
    clear hb hi
    go_wp2
    go_ret2
    exact ⟨_, _, rfl, HB3.out, HIA.out⟩
end Go.Proofs.Ytpklmhffgbgakaa
