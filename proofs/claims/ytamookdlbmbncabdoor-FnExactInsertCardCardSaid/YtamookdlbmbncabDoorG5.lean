/- Steps through a region that draws its order, an operation taken first by its number and its slot: one that yields its value in every world of the condition, or one that its guard leaves out. -/
import Derived.Deep.RegionHeld3
import Derived.Test.YtamookdlbmbncabDoorSortStep
import Derived.Test.YtamookdlbmbncabDoorG3
import Derived.Test.YtamookdlbmbncabDoorG4
import Derived.Test.YtamookdlbmbncabDoorOwnMem
import Derived.Test.YtamookdlbmbncabDoorG2
import Derived.Test.YtamookdlbmbncabDoorOwn
import Derived.Deep.QuietTactic
import Derived.BigQuiet
namespace Go.Proofs.YtamookdlbmbncabDoor
open Go

section
variable {P : Program} {ops : Array Oper} {Q : Exit → Act → World → Prop} {md : Region.Mode} {S : World → Prop} {oi : Oper} {fuel : Nat} {listed : Array Bool} {a : Act} {w : World}
theorem region_take (i : Nat) (d : Tmp) (v : Value) (hi : ops[i]? = some oi) (hd : oi.dst = some d)
    (hs : Region.noSelect ops = true) (hf : Region.free md ops listed i = true) (hr : (Region.ready md ops listed).contains i = true)
    (hQ : ∀ c a w, Q (.panic c) (a.put (some d) v) w → Q (.panic c) a w) (hw : Region.wanted oi (yielded ops a.tmps) = true) (hy : ∀ w, S w → (execOp a.eval oi).run P w = .ok (.value v) w) (hS : S w)
    (h : wpAnyH P md ops Q S fuel (listed.setIfInBounds i true) (a.put (some d) v) w) : wpAnyH P md ops Q S (fuel + 1) listed a w :=
  wpAnyH_take hi hs hf hr (by rw [hd]; exact hQ) (Or.inl ⟨hw, hy⟩) hS (by rw [hd]; exact h)
theorem region_skip (i : Nat) (d : Tmp) (hi : ops[i]? = some oi) (hd : oi.dst = some d)
    (hs : Region.noSelect ops = true) (hf : Region.free md ops listed i = true) (hr : (Region.ready md ops listed).contains i = true)
    (hQ : ∀ c a w, Q (.panic c) (a.put (some d) undef) w → Q (.panic c) a w) (hw : Region.wanted oi (yielded ops a.tmps) = false) (hS : S w)
    (h : wpAnyH P md ops Q S fuel (listed.setIfInBounds i true) (a.put (some d) undef) w) : wpAnyH P md ops Q S (fuel + 1) listed a w :=
  wpAnyH_take hi hs hf hr (by rw [hd]; exact hQ) (Or.inr ⟨hw, rfl⟩) hS (by rw [hd]; exact h)
end
end Go.Proofs.YtamookdlbmbncabDoor

/- spec.l09Two: a contract. -/
namespace Go.Proofs.YtamookdlbmbncabDoor
open Go.ChangeShapes Go.WideShapes Go.ChangeAt Go.RowKit

/-- the code of two decks, by cases -/
def TwoF (d1 d2 f1 f2 : Bool) (k1 k2 r : Int) : Prop :=
  (d1 = false → r = 1) ∧ (d1 = true → d2 = false → r = 1) ∧ (d1 = true → d2 = true → f1 = false → r = 2) ∧ (d1 = true → d2 = true → f1 = true → f2 = false → r = 2) ∧
  (d1 = true → d2 = true → f1 = true → f2 = true → (k1 = 0 → k2 = 0 → r = 0) ∧ (k1 ≠ 0 ∨ k2 ≠ 0 → r = 8))
theorem two_f (H G : List (List Int)) (a b : Int) : TwoF (deckB H) (deckB G) (fieldB a b (widthH H)) (fieldB a b (widthH G)) (keysC H a b) (keysC G a b) (twoC H G a b) := by
  unfold TwoF
  rw [two_vals]
  unfold keysC
  cases deckB H <;> cases deckB G <;> cases fieldB a b (widthH H) <;> cases fieldB a b (widthH G) <;> cases keysB H a.toNat b.toNat <;> cases keysB G a.toNat b.toNat <;> simp

/-- the texts of a field of two decks, or a code -/
def GivesTwo (D D' : List CardV) (a b : Int) (n m : Nat) (r : Int) (w : World) (e : Ending) (w' : World) : Prop :=
  ∃ A1 n1 c1 A2 n2 c2, e = .returned (.tuple #[.slice A1 n1 c1, .slice A2 n2 c2, .int .i64 r]) ∧ Below w.heap.size w w' ∧
    (r = 0 → n = n1 ∧ m = n2 ∧ (0 < n → ∃ g, A1 = some ⟨g, 0, none⟩ ∧ g < w'.heap.size ∧ KeyRow w' g D a.toNat b.toNat) ∧ (0 < m → ∃ g, A2 = some ⟨g, 0, none⟩ ∧ g < w'.heap.size ∧ KeyRow w' g D' a.toNat b.toNat))
theorem KeyRow.later {w w' : World} {g i j : Nat} {D : List CardV} (h : KeyRow w g D i j) (hg : g < w.heap.size) (hb : Below w.heap.size w w') : KeyRow w' g D i j :=
  fun k d hd => (hb.cell (p := ⟨g, k, none⟩) hg).trans (h k d hd)

theorem keysS_any (A : Option Addr) (c : Nat) (D : List CardV) (B : Nat) (a b : Int) (w : World) (h : Deck w B A D) (hB : B ≤ w.heap.size) (hn : D.length ≤ 1048576) (hl : ∀ d ∈ D, d.xs.length ≤ 1048576) (hcap : CapsOk D) :
    Calls Tryd.prog 28 #[.slice A D.length c, .agg #[.int .i64 a, .int .i64 b]] w fun e w' => ∃ A1 n1 c1, e = .returned (.tuple #[.slice A1 n1 c1, .int .i64 (keysC (holes D) a b)]) ∧ Below w.heap.size w w' ∧
      (keysC (holes D) a b = 0 → D.length = n1 ∧ (0 < D.length → ∃ g, A1 = some ⟨g, 0, none⟩ ∧ g < w'.heap.size ∧ KeyRow w' g D a.toNat b.toNat)) := by
  refine (l07Keys_any A c D B a b w h hB hn hl hcap).mono ?_
  rintro e w' (⟨h0, rfl, hb⟩ | ⟨h0, A', cap, rfl, hb, hr⟩)
  · exact ⟨none, 0, 0, rfl, hb, fun e => absurd e h0⟩
  · exact ⟨A', _, cap, by rw [h0], hb, fun _ => ⟨rfl, hr⟩⟩

section
variable (A A' : Option Addr) (c c' : Nat) (D D' : List CardV) (B B' : Nat) (a b : Int) (w : World) (h : Deck w B A D) (h' : Deck w B' A' D') (hB : B ≤ w.heap.size) (hB' : B' ≤ w.heap.size) (hn : D.length ≤ 1048576) (hn' : D'.length ≤ 1048576) (hl : ∀ d ∈ D, d.xs.length ≤ 1048576) (hl' : ∀ d ∈ D', d.xs.length ≤ 1048576)
include h h' hB hB' hn hn' hl hl'
set_option maxRecDepth 100000 in
set_option maxHeartbeats 4000000 in
theorem l09Two_any (hcap : CapsOk D) (hcap' : CapsOk D') :
    Calls Tryd.prog 17 #[.slice A D.length c, .slice A' D'.length c', .agg #[.int .i64 a, .int .i64 b]] w (GivesTwo D D' a b D.length D'.length (twoC (holes D) (holes D') a b) w) := by
  have b0 := below_box w (.cells #[.int .i64 a, .int .i64 b] 36)
  have p0 : (w.alloc (.cells #[.int .i64 a, .int .i64 b] 36)).cell? ⟨w.heap.size, 0, none⟩ = some (.int .i64 a) := by simp
  have p1 : (w.alloc (.cells #[.int .i64 a, .int .i64 b] 36)).cell? ⟨w.heap.size, 1, none⟩ = some (.int .i64 b) := by simp
  have hd1 := fun W (hW : Below w.heap.size w W) => l02Deck_any A c D B W (h.below (hW.mono hB)) (Nat.le_trans hB hW.size) hn hl
  have hd2 := fun W (hW : Below w.heap.size w W) => l02Deck_any A' c' D' B' W (h'.below (hW.mono hB')) (Nat.le_trans hB' hW.size) hn' hl'
  have hw1 := fun W (hW : Below w.heap.size w W) => l07Width_any A c D B W (h.below (hW.mono hB)) hn hl
  have hw2 := fun W (hW : Below w.heap.size w W) => l07Width_any A' c' D' B' W (h'.below (hW.mono hB')) hn' hl'
  have hk1 := fun W (hW : Below w.heap.size w W) => keysS_any A c D B a b W (h.below (hW.mono hB)) (Nat.le_trans hB hW.size) hn hl hcap
  have hk2 := fun W (hW : Below w.heap.size w W) => keysS_any A' c' D' B' a b W (h'.below (hW.mono hB')) (Nat.le_trans hB' hW.size) hn' hl' hcap'
  have hf1 := fun W => l02Field_any a b (widthH (holes D)) W
  have hf2 := fun W => l02Field_any a b (widthH (holes D')) W
  have hf := two_f (holes D) (holes D') a b
  obtain ⟨r, hr⟩ : ∃ r, twoC (holes D) (holes D') a b = r := ⟨_, rfl⟩
  obtain ⟨k1, hk10⟩ : ∃ r, keysC (holes D) a b = r := ⟨_, rfl⟩
  obtain ⟨k2, hk20⟩ : ∃ r, keysC (holes D') a b = r := ⟨_, rfl⟩
  obtain ⟨d1, hd10⟩ : ∃ r, deckB (holes D) = r := ⟨_, rfl⟩
  obtain ⟨d2, hd20⟩ : ∃ r, deckB (holes D') = r := ⟨_, rfl⟩
  obtain ⟨x1, hx1⟩ : ∃ r, widthH (holes D) = r := ⟨_, rfl⟩
  obtain ⟨x2, hx2⟩ : ∃ r, widthH (holes D') = r := ⟨_, rfl⟩
  obtain ⟨f1, hf10⟩ : ∃ r, fieldB a b (x1 : Int) = r := ⟨_, rfl⟩
  obtain ⟨f2, hf20⟩ : ∃ r, fieldB a b (x2 : Int) = r := ⟨_, rfl⟩
  obtain ⟨n, hN⟩ : ∃ n, D.length = n := ⟨_, rfl⟩
  obtain ⟨m, hM⟩ : ∃ n, D'.length = n := ⟨_, rfl⟩
  rw [hr, hk10, hk20, hd10, hd20, hx1, hx2, hf10, hf20] at hf
  simp only [hd10, hN] at hd1
  simp only [hd20, hM] at hd2
  simp only [hx1, hN] at hw1
  simp only [hx2, hM] at hw2
  simp only [hk10, hN] at hk1
  simp only [hk20, hM] at hk2
  simp only [hx1, hf10] at hf1
  simp only [hx2, hf20] at hf2
  rw [hr, hN, hM]
  have HD1 := Lib.hid hd1
  have HD2 := Lib.hid hd2
  have HW1 := Lib.hid hw1
  have HW2 := Lib.hid hw2
  have HK1 := Lib.hid hk1
  have HK2 := Lib.hid hk2
  have HF1 := Lib.hid hf1
  have HF2 := Lib.hid hf2
  have BW := Lib.hid b0
  have hF1 := hf.1
  have hF2 := hf.2.1
  have hF3 := hf.2.2.1
  have hF4 := hf.2.2.2.1
  have hF5 := hf.2.2.2.2
  clear h h' hl hl' hcap hcap' hd1 hd2 hw1 hw2 hk1 hk2 hf1 hf2 b0 hr hk10 hk20 hd10 hd20 hx1 hx2 hf10 hf20 hN hM hf
  cases d1
  case false =>
    obtain rfl := hF1 rfl
    clear hF1 hF2 hF3 hF4 hF5 p0 p1
    go_enter Tryd.func17, Tryd.ntmps17
    go_wp2_with fail
    refine (HD1.out _ BW.out).mono ?_
    rintro e w1 ⟨rfl, hb⟩
    have B1 := Lib.hid (below_step BW.out hb)
    clear hb
    go_wp2
    go_ret3
    unfold GivesTwo
    exact ⟨none, 0, 0, none, 0, 0, rfl, B1.out, fun h => absurd h (by decide)⟩
  cases d2
  case false =>
    obtain rfl := hF2 rfl rfl
    clear hF1 hF2 hF3 hF4 hF5 p0 p1
    go_enter Tryd.func17, Tryd.ntmps17
    go_wp2_with fail
    refine (HD1.out _ BW.out).mono ?_
    rintro e w1 ⟨rfl, hb⟩
    have B1 := Lib.hid (below_step BW.out hb)
    clear hb
    go_wp2_with fail
    refine (HD2.out _ B1.out).mono ?_
    rintro e w2 ⟨rfl, hb⟩
    have B2 := Lib.hid (below_step B1.out hb)
    clear hb
    go_wp2
    go_ret3
    unfold GivesTwo
    exact ⟨none, 0, 0, none, 0, 0, rfl, B2.out, fun h => absurd h (by decide)⟩
  have HF3 := Lib.hid hF3
  have HF4 := Lib.hid hF4
  have HF5 := Lib.hid hF5
  clear hF1 hF2 hF3 hF4 hF5
  go_enter Tryd.func17, Tryd.ntmps17
  go_wp2_with fail
  refine (HD1.out _ BW.out).mono ?_
  rintro e w1 ⟨rfl, hb⟩
  have B1 := Lib.hid (below_step BW.out hb)
  have o0 := cell_kept p0 hb
  have o1 := cell_kept p1 hb
  clear hb
  go_wp2_with fail
  refine (HD2.out _ B1.out).mono ?_
  rintro e w2 ⟨rfl, hb⟩
  have B2 := Lib.hid (below_step B1.out hb)
  have q0 := cell_kept o0 hb
  have q1 := cell_kept o1 hb
  clear hb o0 o1 p0 p1
  cases f1
  case false =>
    obtain rfl := HF3.out (by trivial) (by trivial) rfl
    clear HF3 HF4 HF5
    go_wp2_with fail
    refine wp_region_held_drew (S := (fun W => W.cell? ⟨w.heap.size, 0, none⟩ = some (.int .i64 a) ∧ W.cell? ⟨w.heap.size, 1, none⟩ = some (.int .i64 b))) (by kernel_rfl) ?_ (fun hHeld => ?_)
    · (first | exact ⟨q0, q1⟩ | exact ⟨r0, r1⟩ | exact ⟨s0, s1⟩)
    refine region_take 0 21 (.agg #[.int .i64 a, .int .i64 b]) rfl rfl (by kernel_rfl) (by kernel_rfl) (by kernel_rfl) (fun _ _ _ h => h) (by rfl) ?_ (by assumption) ?_
    · (intro w hSw; (try dsimp only at hSw); go_simp)
    try simp only [Act.put, List.setIfInBounds_toArray, List.set_cons_zero, List.set_cons_succ]
    refine region_take 1 22 (.slice A n c) rfl rfl (by kernel_rfl) (by kernel_rfl) (by kernel_rfl) (fun _ _ _ h => h) (by rfl) ?_ (by assumption) ?_
    · (intro w hSw; (try dsimp only at hSw); go_simp)
    try simp only [Act.put, List.setIfInBounds_toArray, List.set_cons_zero, List.set_cons_succ]
    refine wpAnyH_ready (rs := [2]) (by kernel_rfl) (by simp) ?_
    refine AllReadyH.cons rfl (fun K hK => ?_) AllReadyH.nil
    (go_simp; go_at_call 27; refine (HW1.out _ B2.out.drew).mono ?_; rintro e w3 ⟨rfl, hb⟩; have K1 : Hid (Below w.heap.size w w3) := below_step B2.out.drew hb; have r0 := cell_kept (w := w2.drew) q0 hb; have r1 := cell_kept (w := w2.drew) q1 hb; clear hb)
    refine hK.out _ _ ?_ (fun hHeld => ?_)
    · (try dsimp only); (first | exact ⟨q0, q1⟩ | exact ⟨r0, r1⟩ | exact ⟨s0, s1⟩)
    clear hK K
    try simp only [Act.put, List.setIfInBounds_toArray, List.set_cons_zero, List.set_cons_succ]
    refine wpAnyH_ready (rs := [3]) (by kernel_rfl) (by simp) ?_
    refine AllReadyH.cons rfl (fun K hK => ?_) AllReadyH.nil
    (go_simp; go_at_call 26; refine (HF1.out _).mono ?_; rintro e w4 ⟨rfl, hb⟩; have K2 := Lib.hid (below_step K1.out hb); have s0 := cell_kept r0 hb; have s1 := cell_kept r1 hb; clear hb)
    refine hK.out _ _ ?_ (fun hHeld => ?_)
    · (try dsimp only); (first | exact ⟨q0, q1⟩ | exact ⟨r0, r1⟩ | exact ⟨s0, s1⟩)
    clear hK K
    try simp only [Act.put, List.setIfInBounds_toArray, List.set_cons_zero, List.set_cons_succ]
    refine region_take 4 25 (.bool true) rfl rfl (by kernel_rfl) (by kernel_rfl) (by kernel_rfl) (fun _ _ _ h => h) (by rfl) ?_ (by assumption) ?_
    · (intro w hSw; (try dsimp only at hSw); go_simp)
    try simp only [Act.put, List.setIfInBounds_toArray, List.set_cons_zero, List.set_cons_succ]
    refine region_take 5 26 (.bool true) rfl rfl (by kernel_rfl) (by kernel_rfl) (by kernel_rfl) (fun _ _ _ h => h) (by rfl) ?_ (by assumption) ?_
    · (intro w hSw; (try dsimp only at hSw); go_simp)
    try simp only [Act.put, List.setIfInBounds_toArray, List.set_cons_zero, List.set_cons_succ]
    refine region_skip 6 27 rfl rfl (by kernel_rfl) (by kernel_rfl) (by kernel_rfl) (fun _ _ _ h => h) (by rfl) (by assumption) ?_
    try simp only [Act.put, List.setIfInBounds_toArray, List.set_cons_zero, List.set_cons_succ]
    refine region_skip 7 28 rfl rfl (by kernel_rfl) (by kernel_rfl) (by kernel_rfl) (fun _ _ _ h => h) (by rfl) (by assumption) ?_
    try simp only [Act.put, List.setIfInBounds_toArray, List.set_cons_zero, List.set_cons_succ]
    refine region_skip 8 29 rfl rfl (by kernel_rfl) (by kernel_rfl) (by kernel_rfl) (fun _ _ _ h => h) (by rfl) (by assumption) ?_
    try simp only [Act.put, List.setIfInBounds_toArray, List.set_cons_zero, List.set_cons_succ]
    refine region_skip 9 30 rfl rfl (by kernel_rfl) (by kernel_rfl) (by kernel_rfl) (fun _ _ _ h => h) (by rfl) (by assumption) ?_
    try simp only [Act.put, List.setIfInBounds_toArray, List.set_cons_zero, List.set_cons_succ]
    refine region_skip 10 31 rfl rfl (by kernel_rfl) (by kernel_rfl) (by kernel_rfl) (fun _ _ _ h => h) (by rfl) (by assumption) ?_
    try simp only [Act.put, List.setIfInBounds_toArray, List.set_cons_zero, List.set_cons_succ]
    refine region_take 11 32 (.bool true) rfl rfl (by kernel_rfl) (by kernel_rfl) (by kernel_rfl) (fun _ _ _ h => h) (by rfl) ?_ (by assumption) ?_
    · (intro w hSw; (try dsimp only at hSw); go_simp)
    try simp only [Act.put, List.setIfInBounds_toArray, List.set_cons_zero, List.set_cons_succ]
    refine wpAnyH_done (by kernel_rfl) ?_ _
    all_goals
      go_wp2
      go_ret3
      unfold GivesTwo
      exact ⟨none, 0, 0, none, 0, 0, rfl, K2.out, fun h => absurd h (by decide)⟩
  go_wp2_with fail
  go_region_held3 (fun W => W.cell? ⟨w.heap.size, 0, none⟩ = some (.int .i64 a) ∧ W.cell? ⟨w.heap.size, 1, none⟩ = some (.int .i64 b))
    (first | exact ⟨q0, q1⟩ | exact ⟨r0, r1⟩ | exact ⟨s0, s1⟩ | exact ⟨t0, t1⟩ | exact ⟨u0, u1⟩)
    (first
      | (go_at_call 27
         with_reducible refine (HW1.out _ B2.out.drew).mono ?_
         rintro e w3 ⟨rfl, hb⟩
         have K1 : Hid (Below w.heap.size w w3) := below_step B2.out.drew hb
         have r0 := cell_kept (w := w2.drew) q0 hb
         have r1 := cell_kept (w := w2.drew) q1 hb
         clear hb)
      | (go_at_call 27
         with_reducible refine (HW2.out _ K2.out).mono ?_
         rintro e w5 ⟨rfl, hb⟩
         have K3 := Lib.hid (below_step K2.out hb)
         have t0 := cell_kept s0 hb
         have t1 := cell_kept s1 hb
         clear hb)
      | (go_at_call 26
         with_reducible refine (HF1.out w3).mono ?_
         rintro e w4 ⟨rfl, hb⟩
         have K2 := Lib.hid (below_step K1.out hb)
         have s0 := cell_kept r0 hb
         have s1 := cell_kept r1 hb
         clear hb)
      | (go_at_call 26
         with_reducible refine (HF2.out w5).mono ?_
         rintro e w6 ⟨rfl, hb⟩
         have K4 := Lib.hid (below_step K3.out hb)
         have u0 := cell_kept t0 hb
         have u1 := cell_kept t1 hb
         clear hb))
  all_goals
    clear q0 q1 r0 r1 s0 s1 t0 t1 K1 K2 K3 HW1 HW2 HF1 HF2 HD1 HD2
    cases f2
    case false =>
      obtain rfl := HF4.out (by trivial) (by trivial) (by trivial) rfl
      clear HF3 HF4 HF5
      go_wp2
      go_ret3
      unfold GivesTwo
      exact ⟨none, 0, 0, none, 0, 0, rfl, K4.out, fun h => absurd h (by decide)⟩
    have HF := Lib.hid (HF5.out (by trivial) (by trivial) (by trivial) rfl)
    clear HF3 HF4 HF5
    go_wp2_with fail
    refine (HK1.out w6 K4.out).mono ?_
    rintro e w7 ⟨A1, n1, c1, rfl, hb7, h7⟩
    have K7 := Lib.hid (below_step K4.out hb7)
    have H7 := Lib.hid h7
    have v0 := cell_kept u0 hb7
    have v1 := cell_kept u1 hb7
    clear hb7 h7 u0 u1 HK1
    go_wp2_with fail
    refine (HK2.out w7 K7.out).mono ?_
    rintro e w8 ⟨A2, n2, c2, rfl, hb8, h8⟩
    have L8 := Lib.hid hb8
    have K8 := Lib.hid (below_step K7.out hb8)
    have H8 := Lib.hid h8
    clear hb8 h8 v0 v1 HK2
    by_cases hz1 : k1 = 0
    · by_cases hz2 : k2 = 0
      · obtain rfl := HF.out.1 hz1 hz2
        subst hz1 hz2
        go_wp2
        go_ret3
        unfold GivesTwo
        refine ⟨A1, n1, c1, A2, n2, c2, rfl, K8.out, fun _ => ?_⟩
        obtain ⟨y1, y2⟩ := H7.out trivial
        obtain ⟨z1, z2⟩ := H8.out trivial
        refine ⟨y1, z1, fun h0 => ?_, z2⟩
        obtain ⟨g, e1, e2, e3⟩ := y2 h0
        exact ⟨g, e1, Nat.lt_of_lt_of_le e2 L8.out.size, e3.later e2 L8.out⟩
      · obtain rfl := HF.out.2 (Or.inr hz2)
        have hz3 : (k2 != 0) = true := by simpa using hz2
        subst hz1
        go_wp2
        go_ret3
        unfold GivesTwo
        exact ⟨none, 0, 0, none, 0, 0, rfl, K8.out, fun h => absurd h (by decide)⟩
    · obtain rfl := HF.out.2 (Or.inl hz1)
      have hz3 : (k1 != 0) = true := by simpa using hz1
      go_wp2
      go_ret3
      unfold GivesTwo
      exact ⟨none, 0, 0, none, 0, 0, rfl, K8.out, fun h => absurd h (by decide)⟩
end
end Go.Proofs.YtamookdlbmbncabDoor

/- spec.l02Copy: a contract. -/
namespace Go.Proofs.YtamookdlbmbncabDoor
open Go.ChangeShapes Go.WideShapes Go.ChangeAt Go.RowKit

/-- cards of one's own, in a row of one's own -/
def GivesRow (H : List (List Int)) (n : Nat) (w : World) (e : Ending) (w' : World) : Prop :=
  ∃ g cap E, e = .returned (.slice (some ⟨g, 0, none⟩) n cap) ∧ E.length = n ∧ holes E = H ∧ Below w.heap.size w w' ∧ w'.ownsRow w.heap.size 34 1 (.slice (some ⟨g, 0, none⟩) n cap) n (E.map CardV.value) ∧ NewRows w' w.heap.size E

set_option maxRecDepth 100000 in
set_option maxHeartbeats 2000000 in
theorem l02Copy_any (A : Option Addr) (c : Nat) (D : List CardV) (n B : Nat) (w : World) (h : Deck w B A D) (hB : B ≤ w.heap.size) (hN : D.length = n) (hn : n ≤ 40) (hx : ∀ d ∈ D, 0 < d.xs.length ∧ d.xs.length ≤ 20) :
    Calls Tryd.prog 31 #[.slice A n c] w (GivesRow (holes D) n w) := by
  obtain ⟨ic, hi0, hz0, hz1, hz2⟩ := info_parts info_card
  have HE0 := Lib.hid (empty_cards w)
  have H := Lib.hid h
  have HN := Lib.hid hN
  have HX := Lib.hid hx
  clear h hN hx
  go_enter Tryd.func31, Tryd.ntmps31
  go_wp2
  go_loopw [3, 4] (fun vo x wr => ∃ t cap : Nat, ∃ g : Nat, ∃ E : List CardV, t ≤ n ∧ x = .int .i64 t ∧ vo = .slice (some ⟨g, 0, none⟩) t cap ∧ Hid (E.length = t) ∧ Hid (holes E = (holes D).take t) ∧ Hid (Below w.heap.size w wr) ∧ Hid (wr.ownsRow w.heap.size 34 1 (.slice (some ⟨g, 0, none⟩) t cap) t (E.map CardV.value)) ∧ Hid (NewRows wr w.heap.size E)) (fun _ x _ => n - (intOf x).toNat)
  case atStart => exact ⟨0, 0, w.heap.size, [], Nat.zero_le _, rfl, rfl, rfl, by show _ = _; simp [holes], below_box w _, HE0, NewRows.nil⟩
  case round =>
    obtain ⟨t, cap, g, E, ht, rfl, rfl, HE, HS, HB, HO, HR⟩ := hrel
    by_cases hlt : t < n
    · obtain ⟨d, hd⟩ : ∃ d, D[t]? = some d := ⟨D[t]'(by rw [HN.out]; exact hlt), List.getElem?_eq_getElem _⟩
      obtain ⟨h0, h20⟩ := HX.out d (List.mem_of_getElem? hd)
      obtain ⟨b, off, rfl, hb, hcell⟩ := (H.out.below (HB.out.mono hB)) (by rw [HN.out]; omega)
      obtain ⟨hc, hi⟩ := hcell t d hd
      unfold CardV.value at hc
      have HT := Lib.hid (ownNew_any d.at_ d.cap d.xs B b (off + t) wr hc hi (Nat.le_trans hB HB.out.size) h0 (by omega))
      have HH1 : Hid (∀ e : CardV, e.xs = d.xs → holes (E ++ [e]) = (holes D).take (t + 1)) := fun e he => by
        rw [List.take_add_one, holesAt hd, ← HS.out]
        simp [holes, he]
      have t0 : (0 : Int) ≤ (t : Int) := Int.natCast_nonneg _
      have t1 : (t : Int) < (n : Int) := by omega
      clear hcell hd hi h0 h20 hc
      go_wp2_with fail
      refine HT.out.mono ?_
      rintro e w3 ⟨ge, cp, ex, rfl, hge, hb3, hrow⟩
      have HB3 := Lib.hid (below_step HB.out hb3)
      have HR3 := Lib.hid (HR.out.more hb3 (e := ⟨some ⟨ge, 0, none⟩, cp, d.xs⟩) rfl hge (Nat.le_trans HB.out.size hge) hrow)
      have HO3 : Hid (w3.ownsRow w.heap.size 34 1 (.slice (some ⟨g, 0, none⟩) t cap) t (E.map CardV.value)) := own_moved HO.out (fun i _ hi => hb3.block i hi)
      have hw3 : w.heap.size ≤ w3.heap.size := HB3.out.size
      clear hb3 hrow hge
      go_wp2_with (at_builtin; refine wpList_append_own _ rfl _ _ 30 rfl w.heap.size 34 ic (.agg #[.slice none 0 0]) 1 24 Tryd.underlying30 hi0 hz0 hz1 hz2 rfl (by decide) _ _ _ rfl (HO3.out.alloc _) ⟨w3.heap.size, 0, none⟩ 1 1 [CardV.value ⟨some ⟨ge, 0, none⟩, cp, d.xs⟩] rfl rfl (card_news w3 _) (card_one _) ?c3 ?c4 ?c5 ?_; rotate_left 3; intro v9 w9 hown hgrow hiff; have hv9 : v9 ≠ .slice none 0 0 := (fun e => by have := (hiff.1 e).1; cases this); obtain ⟨ho, hbb, hrr⟩ := own_card (x := ⟨some ⟨ge, 0, none⟩, cp, d.xs⟩) hown hgrow HO3.out HB3.out (Nat.le_refl _) hw3 HR3.out; obtain ⟨g9, cap9, rfl⟩ := row_shape ho hv9; have HO9 := Lib.hid ho; have HB9 := Lib.hid hbb; have HR9 := Lib.hid hrr; clear hown hgrow hiff hv9 ho hbb hrr)
      case c3 => unfold maxLen; omega
      case c4 => omega
      case c5 => simp; omega
      go_roundw
      case rel => exact ⟨t + 1, cap9, g9, E ++ [(⟨some ⟨ge, 0, none⟩, cp, d.xs⟩ : CardV)], by omega, by go_num, rfl, by show _ = _; simp [HE.out], HH1.out _ rfl, HB9, HO9, HR9⟩
      case measure => simp [intOf]; omega
    · obtain rfl : t = n := by omega
      have t1 : ¬ (t : Int) < (t : Int) := by omega
      have hh : holes E = holes D := by rw [HS.out, List.take_of_length_le (by rw [holes_len, HN.out]; omega)]
      have HHH := Lib.hid hh
      clear hh
      go_wp2
      go_ret
      exact ⟨g, cap, E, rfl, HE.out, HHH.out, HB.out, HO.out, HR.out⟩

end Go.Proofs.YtamookdlbmbncabDoor

/- spec.l07Places sorts the places of the cards by their texts: what its comparison and its copies answer: contracts. -/
namespace Go.Proofs.YtamookdlbmbncabDoor
open Go.ChangeShapes Go.WideShapes Go.ChangeAt Go.RowKit

theorem keyCmp_any {D : List CardV} {i j n kg : Nat} {w : World} (hrow : KeyRow w kg D i j) (hv : deckB (holes D) = true) (hkb : keysB (holes D) i j = true) (hj : j ≤ widthH (holes D)) (hN : D.length = n) {p q : Nat} (hp : p < n) (hq : q < n) :
    ∃ S1 S2, w.cell? ⟨kg, p, none⟩ = some (.string S1) ∧ w.cell? ⟨kg, q, none⟩ = some (.string S2) ∧ ∀ W, Calls Tryd.prog 29 #[.string S1, .string S2] W fun e w' => e = .returned (.int .i64 (cfK (holes D) i j p q)) ∧ w' = W := by
  obtain ⟨d, hd⟩ : ∃ d, D[p]? = some d := ⟨D[p]'(by omega), List.getElem?_eq_getElem _⟩
  obtain ⟨e, he⟩ : ∃ e, D[q]? = some e := ⟨D[q]'(by omega), List.getElem?_eq_getElem _⟩
  obtain ⟨g1, g2⟩ := deck_width hv (holes_at hd)
  obtain ⟨g3, g4⟩ := deck_width hv (holes_at he)
  have o1 := keysB_at (holes_at hd) hkb
  have o2 := keysB_at (holes_at he) hkb
  have l1 := partOf_length d.xs i j (by rw [g2]; exact hj)
  have l2 := partOf_length e.xs i j (by rw [g4]; exact hj)
  have z1 : (textS (partOf d.xs i j)).size = j - i := by rw [← l1]; exact textL_length _
  have z2 : (textS (partOf e.xs i j)).size = j - i := by rw [← l2]; exact textL_length _
  have h20 := (okB_parts g1).2
  have hck : cfK (holes D) i j p q = cmpTo (partOf d.xs i j) (partOf e.xs i j) (j - i) := by
    unfold cfK
    rw [Int.toNat_natCast, Int.toNat_natCast]
    exact cmpK_at hd he
  refine ⟨_, _, hrow p d hd, hrow q e he, fun W => ?_⟩
  rw [hck]
  exact (l03Compare_any (textS (partOf d.xs i j)) (textS (partOf e.xs i j)) (partOf d.xs i j) (partOf e.xs i j) (j - i) z1 z2 l1 l2 (fun k h => textS_get _ k h) (fun k h => textS_get _ k h) o1 o2 (by omega) W).mono fun _ _ hh => ⟨hh.1, hh.2.symm⟩

theorem own_rowS {w : World} {base n g cap : Nat} {xs : List Int} (h : w.ownsRow base 2 1 (.slice (some ⟨g, 0, none⟩) n cap) n (xs.map (Value.int .i64))) : base ≤ g ∧ n ≤ cap ∧ cap ≤ maxLen ∧ ∃ ex, Row w g xs ex := by
  rcases h.2 with ⟨h0, _⟩ | ⟨g', cap', cur, hv, hb, hh, hc, hm, _, ht⟩
  · cases h0
  · injection hv with e1 e2 e3
    injection e1 with e1
    injection e1 with e1
    subst e1
    subst e3
    refine ⟨hb, hc, hm, cur.toList.drop n, ?_⟩
    unfold Row
    rw [hh]
    congr 2
    apply Array.ext'
    rw [← List.take_append_drop n cur.toList, ← ht, Nat.mul_one]
    simp
theorem own_shape {w : World} {base n size : Nat} {et : TypeId} {v : Value} {xs : List Value} (h : w.ownsRow base et size v n xs) (hne : v ≠ .slice none 0 0) : ∃ g cap, v = .slice (some ⟨g, 0, none⟩) n cap := by
  rcases h.2 with ⟨hz, _⟩ | ⟨g, cap, cur, rfl, _⟩
  · exact absurd hz hne
  · exact ⟨g, cap, rfl⟩
theorem own_lower {w : World} {base base' n size : Nat} {et : TypeId} {v : Value} {xs : List Value} (h : w.ownsRow base et size v n xs) (hb : base' ≤ base) : w.ownsRow base' et size v n xs := by
  refine ⟨h.1, ?_⟩
  rcases h.2 with h0 | ⟨g, cap, cur, h1, h2, h3⟩
  · exact Or.inl h0
  · exact Or.inr ⟨g, cap, cur, h1, Nat.le_trans hb h2, h3⟩

/-- the copy of any part of a list, an empty one too -/
theorem ownInts_any (b off c : Nat) (xs : List Int) (w : World) (hb : b < w.heap.size) (hcell : ∀ i, i < xs.length → w.cell? ⟨b, off + i, none⟩ = some (.int .i64 (xs[i]?.getD 0))) (hn : xs.length ≤ 1048576) :
    Calls Tryd.prog 40 #[.slice (some ⟨b, off, none⟩) xs.length c] w fun e w' => ∃ v, e = .returned v ∧ v ≠ .slice none 0 0 ∧ w'.ownsRow w.heap.size 2 1 v xs.length (xs.map (Value.int .i64)) ∧ Below w.heap.size w w' := by
  obtain ⟨i0, hi0, hz0, hz1, hz2⟩ := info_parts info_int64
  have HN := Lib.hid (news_of (fun i hi => (World.cell?_alloc_lt w (.cells #[] 2) ⟨b, off + i, none⟩ hb).trans (hcell i hi)))
  have HM := Lib.hid (maps_length xs)
  have H1 := Lib.hid (maps_one xs)
  have HO := Lib.hid (empty_owned w)
  clear hcell
  go_enter Tryd.func40, Tryd.ntmps40
  go_wp2_with (at_builtin; refine wpList_append_own _ rfl (.tmp 3) (.tmp 4) 23 rfl w.heap.size 2 i0 (.int .i64 0) 1 8 Tryd.underlying23 hi0 hz0 hz1 hz2 rfl (by decide) (.slice (some ⟨w.heap.size, 0, none⟩) 0 0) 0 [] rfl HO.out ⟨b, off, none⟩ xs.length c (xs.map (Value.int .i64)) rfl HM.out HN.out H1.out ?c3 ?c4 ?c5 ?_; rotate_left 3; intro v1 w1 hown hgrow hiff; simp only [Nat.zero_add, List.nil_append] at hown; have B1 := Lib.hid (Below.grown (below_box w _) hgrow (by simp) (fun k hk => by simp [Value.ownBlock] at hk; omega)); have HW := Lib.hid hown; have HI : Hid (v1 ≠ .slice none 0 0) := (fun e => by have := (hiff.1 e).1; cases this); clear hown hgrow hiff)
  case c3 => unfold maxLen; omega
  case c4 => omega
  case c5 => simp
  go_ret
  exact ⟨v1, rfl, HI.out, HW.out, B1.out⟩
end Go.Proofs.YtamookdlbmbncabDoor

/- How the texts of two decks compare; the rest of a deck. -/
namespace Go.Proofs.YtamookdlbmbncabDoor
open Go.ChangeShapes Go.WideShapes Go.ChangeAt Go.RowKit

/-- how two texts of two decks compare -/
theorem keyCmp2_any {D D' : List CardV} {i j p q k1 k2 : Nat} {d e : CardV} {w : World} (hr : KeyRow w k1 D i j) (hr' : KeyRow w k2 D' i j) (hv : deckB (holes D) = true) (hv' : deckB (holes D') = true) (hk : keysB (holes D) i j = true) (hk' : keysB (holes D') i j = true) (hj : j ≤ widthH (holes D)) (hj' : j ≤ widthH (holes D')) (hd : D[p]? = some d) (he : D'[q]? = some e) :
    ∃ S1 S2, w.cell? ⟨k1, p, none⟩ = some (.string S1) ∧ w.cell? ⟨k2, q, none⟩ = some (.string S2) ∧ ∀ W, Calls Tryd.prog 29 #[.string S1, .string S2] W fun en w' => en = .returned (.int .i64 (cmpTo (partOf d.xs i j) (partOf e.xs i j) (j - i))) ∧ w' = W := by
  obtain ⟨g1, g2⟩ := deck_width hv (holes_at hd)
  obtain ⟨g3, g4⟩ := deck_width hv' (holes_at he)
  have o1 := keysB_at (holes_at hd) hk
  have o2 := keysB_at (holes_at he) hk'
  have l1 := partOf_length d.xs i j (by rw [g2]; exact hj)
  have l2 := partOf_length e.xs i j (by rw [g4]; exact hj')
  have z1 : (textS (partOf d.xs i j)).size = j - i := by rw [← l1]; exact textL_length _
  have z2 : (textS (partOf e.xs i j)).size = j - i := by rw [← l2]; exact textL_length _
  have h20 := (okB_parts g1).2
  refine ⟨_, _, hr p d hd, hr' q e he, fun W => ?_⟩
  exact (l03Compare_any (textS (partOf d.xs i j)) (textS (partOf e.xs i j)) (partOf d.xs i j) (partOf e.xs i j) (j - i) z1 z2 l1 l2 (fun k h => textS_get _ k h) (fun k h => textS_get _ k h) o1 o2 (by omega) W).mono fun _ _ hh => ⟨hh.1, hh.2.symm⟩
/-- the rest of a deck -/
theorem Deck.rest {w : World} {B t m : Nat} {A : Option Addr} {D : List CardV} (h : Deck w B A D) (hM : D.length = m) (ht : t ≤ m) :
    ∃ A2 c2, (∀ W : World, (Instr.slice 30 (.slice A m m) (some (.int .i64 t)) none none).run Tryd.prog W = .ok (.slice A2 (m - t) c2) W) ∧ Deck w B A2 (D.drop t) := by
  by_cases h0 : m = 0
  · subst h0
    obtain rfl : t = 0 := by omega
    cases A with
    | none => exact ⟨none, 0, fun W => by go_simp, fun h => absurd h (by simp [hM])⟩
    | some p =>
      refine ⟨some p, 0, fun W => by go_simp, fun h => absurd h (by simp [hM])⟩
  · obtain ⟨b, off, rfl, hb, hc⟩ := h (by omega)
    refine ⟨some ⟨b, (if t = m then off else off + t), none⟩, m - t, fun W => ?_, fun h1 => ⟨b, off + t, ?_, hb, fun i d hi => ?_⟩⟩
    · by_cases htm : t = m
      · subst htm
        go_simp
      · rw [if_neg htm]
        have h1 : (t : Int) ≤ (m : Int) := by omega
        have h2 : m - t ≠ 0 := by omega
        go_simp
        intro e
        exact absurd e.symm htm
    · rw [List.length_drop] at h1
      rw [if_neg (by omega)]
    · rw [List.getElem?_drop] at hi
      have := hc (t + i) d hi
      rw [Nat.add_assoc]
      exact this
end Go.Proofs.YtamookdlbmbncabDoor

/- spec.l09Merge: a contract. -/
namespace Go.Proofs.YtamookdlbmbncabDoor
open Go.ChangeShapes Go.WideShapes Go.ChangeAt Go.RowKit

theorem dropH {H : List (List Int)} {p : Nat} {x : List Int} (h : H[p]? = some x) : H.drop p = x :: H.drop (p + 1) := by
  obtain ⟨hp, e⟩ := List.getElem?_eq_some_iff.1 h
  rw [List.drop_eq_getElem_cons hp, e]
/-- what an append of many cards leaves -/
theorem own_cards {w w' W : World} {base B lo : Nat} {v v' : Value} {n k : Nat} {E F : List CardV}
    (hown : w'.ownsRow base 34 1 v' (n + k) (E.map CardV.value ++ F.map CardV.value)) (hgrow : w.grownBy w' v.ownBlock)
    (hold : w.ownsRow base 34 1 v n (E.map CardV.value)) (hb : Below B W w) (hB : B ≤ base) (hs : B ≤ w.heap.size) (hr : NewRows w lo (E ++ F)) :
    w'.ownsRow base 34 1 v' (n + k) ((E ++ F).map CardV.value) ∧ Below B W w' ∧ NewRows w' lo (E ++ F) := by
  refine ⟨by simpa using hown, hb.grown hgrow hs (fun k hk => Nat.le_trans hB (hold.lt k hk).1), ?_⟩
  exact hr.appended hold hgrow
theorem NewRows.plus {w w' : World} {lo : Nat} {E F : List CardV} (h : NewRows w lo E) (hb : Below w.heap.size w w') (hF : NewRows w' w.heap.size F) (hl : lo ≤ w.heap.size) : NewRows w' lo (E ++ F) := by
  refine ⟨fun e he => ?_, ?_⟩
  · rcases List.mem_append.1 he with he | he
    · exact (h.later hb).each e he
    · obtain ⟨ge, ex, h1, h2, h3⟩ := hF.each e he
      exact ⟨ge, ex, h1, by omega, h3⟩
  · rw [List.pairwise_append]
    refine ⟨h.apart, hF.apart, fun x hx y hy => ?_⟩
    obtain ⟨gx, _, a1, _, a3⟩ := h.each x hx
    obtain ⟨gy, _, b1, b2, _⟩ := hF.each y hy
    rw [a1, b1]
    intro e
    have e1 : gx = gy := by simpa using e
    have := a3.lt
    omega
/-- a deck of one's own -/
def GivesCards (H : List (List Int)) (w : World) (e : Ending) (w' : World) : Prop :=
  ∃ A cap E, e = .returned (.slice A H.length cap) ∧ holes E = H ∧ Below w.heap.size w w' ∧ DeckAt w' w.heap.size w'.heap.size A E
/-- what a deck and its texts are -/
structure KeyDeck (D : List CardV) (i j n : Nat) : Prop where
  len : D.length = n
  ok : deckB (holes D) = true
  keys : keysB (holes D) i j = true
  le : j ≤ widthH (holes D)
  lt : i < j
theorem KeyDeck.n40 {D : List CardV} {i j n : Nat} (h : KeyDeck D i j n) : n ≤ 40 := by
  have := deck_len h.ok
  rwa [holes_len, h.len] at this
theorem KeyDeck.cols {D : List CardV} {i j n : Nat} (h : KeyDeck D i j n) {d : CardV} (hd : d ∈ D) : 0 < d.xs.length ∧ d.xs.length ≤ 20 := by
  obtain ⟨k, hk, rfl⟩ := List.getElem_of_mem hd
  obtain ⟨g1, g2⟩ := deck_width h.ok (holes_at (List.getElem?_eq_getElem hk))
  have := h.le
  have := h.lt
  exact ⟨by rw [g2]; omega, (okB_parts g1).2⟩
/-- what stands between two steps of a merge: p cards of the first deck and t of the second are out -/
structure MergeS (w wr : World) (i j : Nat) (H G : List (List Int)) (p t l g cap : Nat) (E : List CardV) (M : List (List Int)) : Prop where
  len : E.length = l
  sum : l = p + t
  out : holes E ++ mg i j (H.drop p) (G.drop t) = M
  world : Below w.heap.size w wr
  row : wr.ownsRow w.heap.size 34 1 (.slice (some ⟨g, 0, none⟩) l cap) l (E.map CardV.value)
  rows : NewRows wr w.heap.size E
theorem MergeS.more {w wr w9 : World} {i j : Nat} {H G : List (List Int)} {p t l g cap : Nat} {E : List CardV} {M : List (List Int)} (h : MergeS w wr i j H G p t l g cap E M) {p' t' g9 cap9 : Nat} {e : CardV}
    (hs : p' + t' = p + t + 1) (hout : mg i j (H.drop p) (G.drop t) = e.xs :: mg i j (H.drop p') (G.drop t')) (hw : Below w.heap.size w w9) (hr : w9.ownsRow w.heap.size 34 1 (.slice (some ⟨g9, 0, none⟩) (l + 1) cap9) (l + 1) ((E ++ [e]).map CardV.value)) (hn : NewRows w9 w.heap.size (E ++ [e])) : MergeS w w9 i j H G p' t' (l + 1) g9 cap9 (E ++ [e]) M where
  len := by rw [List.length_append, h.len]; rfl
  sum := by rw [h.sum]; exact hs.symm
  out := by
    rw [← h.out, hout]
    simp [holes]
  world := hw
  row := hr
  rows := hn
theorem MergeS.drewN {w wr : World} {i j : Nat} {H G : List (List Int)} {p t l g cap : Nat} {E : List CardV} {M : List (List Int)} (h : MergeS w wr i j H G p t l g cap E M) (k : Nat) : MergeS w (wr.drewN k) i j H G p t l g cap E M :=
  ⟨h.len, h.sum, h.out, below_drewN h.world k, h.row, h.rows.later (below_drewN (Below.refl _ _) k)⟩

set_option maxRecDepth 100000 in
set_option maxHeartbeats 4000000 in
theorem l09Merge_any (A A' K1 K2 : Option Addr) (c kc1 kc2 : Nat) (D D' : List CardV) (B B' i j n m : Nat) (w : World) (h : Deck w B A D) (h' : Deck w B' A' D') (hB : B ≤ w.heap.size) (hB' : B' ≤ w.heap.size) (hD : KeyDeck D i j n) (hD' : KeyDeck D' i j m)
    (hr : 0 < n → ∃ g, K1 = some ⟨g, 0, none⟩ ∧ g < w.heap.size ∧ KeyRow w g D i j) (hr' : 0 < m → ∃ g, K2 = some ⟨g, 0, none⟩ ∧ g < w.heap.size ∧ KeyRow w g D' i j) :
    Calls Tryd.prog 19 #[.slice A n c, .slice A' m m, .slice K1 n kc1, .slice K2 m kc2] w (GivesCards (mg i j (holes D) (holes D')) w) := by
  obtain ⟨ic, hi0, hz0, hz1, hz2⟩ := info_parts info_card
  have HE0 := Lib.hid (empty_cards w)
  have hML := mg_length i j (holes D) (holes D')
  rw [holes_len, holes_len, hD.len, hD'.len] at hML
  obtain ⟨M, hM⟩ : ∃ M, mg i j (holes D) (holes D') = M := ⟨_, rfl⟩
  rw [hM] at hML ⊢
  have HM := Lib.hid hM
  have HML := Lib.hid hML
  have HD := Lib.hid hD
  have HD' := Lib.hid hD'
  have HA := Lib.hid h
  have HB := Lib.hid h'
  have HR := Lib.hid hr
  have HR' := Lib.hid hr'
  have n40 := hD.n40
  have m40 := hD'.n40
  clear h h' hD hD' hr hr' hM hML
  go_enter Tryd.func19, Tryd.ntmps19
  go_wp2
  go_loopw [9, 10, 11] (fun vo vk vi wr => ∃ p t l g cap : Nat, ∃ E : List CardV, p ≤ n ∧ t ≤ m ∧ vo = .slice (some ⟨g, 0, none⟩) l cap ∧ vk = .int .i64 t ∧ vi = .int .i64 p ∧ Hid (MergeS w wr i j (holes D) (holes D') p t l g cap E M)) (fun _ _ vi _ => n - (intOf vi).toNat)
  case atStart => exact ⟨0, 0, 0, w.heap.size, 0, [], Nat.zero_le _, Nat.zero_le _, rfl, rfl, rfl, ⟨rfl, rfl, HM.out, below_box w _, HE0.out, NewRows.nil⟩⟩
  case round =>
    obtain ⟨p, t, l, g, cap, E, hp, ht, rfl, rfl, rfl, HS⟩ := hrel
    by_cases hlt : p < n
    · obtain ⟨d, hd⟩ : ∃ d, D[p]? = some d := ⟨D[p]'(by rw [HD.out.len]; exact hlt), List.getElem?_eq_getElem _⟩
      have HDX := Lib.hid hd
      have p0 : (0 : Int) ≤ (p : Int) := Int.natCast_nonneg _
      have p1 : (p : Int) < (n : Int) := by omega
      clear hd
      go_wp2_with fail
      go_loopw [9, 10] (fun vo vk wr => ∃ t l g cap : Nat, ∃ E : List CardV, t ≤ m ∧ vo = .slice (some ⟨g, 0, none⟩) l cap ∧ vk = .int .i64 t ∧ Hid (MergeS w wr i j (holes D) (holes D') p t l g cap E M)) (fun _ vk _ => m - (intOf vk).toNat)
      case atStart => exact ⟨t, l, g, cap, E, ht, rfl, rfl, HS⟩
      case round =>
        clear HS ht
        obtain ⟨t, l, g, cap, E, ht, rfl, rfl, HS⟩ := hrel
        rename World => wr
        have t0 : (0 : Int) ≤ (t : Int) := Int.natCast_nonneg _
        by_cases hlt2 : t < m
        · obtain ⟨e, he⟩ : ∃ e, D'[t]? = some e := ⟨D'[t]'(by rw [HD'.out.len]; exact hlt2), List.getElem?_eq_getElem _⟩
          have HEX := Lib.hid he
          have t1 : (t : Int) < (m : Int) := by omega
          obtain ⟨kg1, rfl, hk1, hkr1⟩ := HR.out (by omega)
          obtain ⟨kg2, rfl, hk2, hkr2⟩ := HR'.out (by omega)
          obtain ⟨S1, S2, c1, c2, hcall⟩ := keyCmp2_any hkr2 hkr1 HD'.out.ok HD.out.ok HD'.out.keys HD.out.keys HD'.out.le HD.out.le he HDX.out
          have d1 := cell_kept c1 HS.out.world
          have d2 := cell_kept c2 HS.out.world
          have hgt := mg_gt (i := i) (j := j) (a := d.xs) (b := e.xs) (A := (holes D).drop (p + 1)) (B := (holes D').drop (t + 1))
          have hle := mg_le (i := i) (j := j) (a := d.xs) (b := e.xs) (A := (holes D).drop (p + 1)) (B := (holes D').drop (t + 1))
          rw [← dropH (holes_at HDX.out), ← dropH (holes_at he), cmpTo_neg] at hgt hle
          obtain ⟨v, hv⟩ : ∃ v, cmpTo (partOf e.xs i j) (partOf d.xs i j) (j - i) = v := ⟨_, rfl⟩
          rw [hv] at hcall hgt hle
          have HC := Lib.hid (fun m => hcall (wr.drewN m))
          clear hcall hv c1 c2 hkr1 hkr2 he
          by_cases hv0 : v < 0
          · have HOUT := Lib.hid (hgt (by omega))
            clear hgt hle
            go_wp2_with fail
            go_quiet ((go_at_call 29; exact Calls.quiet_of_same (HC.out _)))
            have HS2 := Lib.hid (HS.out.drewN nq)
            clear HS
            generalize wr.drewN nq = WX at *
            have HS := HS2
            clear HS2
            obtain ⟨x0, x20⟩ := HD'.out.cols (List.mem_of_getElem? HEX.out)
            obtain ⟨b, off, rfl, hb, hcell⟩ := (HB.out.below (HS.out.world.mono hB')) (by rw [HD'.out.len]; omega)
            obtain ⟨hc, hi⟩ := hcell t e HEX.out
            unfold CardV.value at hc
            have HT := Lib.hid (ownNew_any e.at_ e.cap e.xs B' b (off + t) WX hc hi (Nat.le_trans hB' HS.out.world.size) x0 (by omega))
            have hl80 : l ≤ 80 := by have := HS.out.sum; omega
            clear hcell hi x0 x20 hc
            go_wp2_with fail
            refine HT.out.mono ?_
            rintro en w3 ⟨ge, cp, ex, rfl, hge, hb3, hrow⟩
            have HB3 := Lib.hid (below_step HS.out.world hb3)
            have HR3 := Lib.hid (HS.out.rows.more hb3 (e := ⟨some ⟨ge, 0, none⟩, cp, e.xs⟩) rfl hge (Nat.le_trans HS.out.world.size hge) hrow)
            have HO3 : Hid (w3.ownsRow w.heap.size 34 1 (.slice (some ⟨g, 0, none⟩) l cap) l (E.map CardV.value)) := own_moved HS.out.row (fun i _ hi => hb3.block i hi)
            have hw3 : w.heap.size ≤ w3.heap.size := HB3.out.size
            clear hb3 hrow hge
            go_wp2_with (at_builtin; refine wpList_append_own _ rfl _ _ 30 rfl w.heap.size 34 ic (.agg #[.slice none 0 0]) 1 24 Tryd.underlying30 hi0 hz0 hz1 hz2 rfl (by decide) _ _ _ rfl (HO3.out.alloc _) ⟨w3.heap.size, 0, none⟩ 1 1 [CardV.value ⟨some ⟨ge, 0, none⟩, cp, e.xs⟩] rfl rfl (card_news w3 _) (card_one _) ?c3 ?c4 ?c5 ?_; rotate_left 3; intro v9 w9 hown hgrow hiff; have hv9 : v9 ≠ .slice none 0 0 := (fun e => by have := (hiff.1 e).1; cases this); obtain ⟨ho, hbb, hrr⟩ := own_card (x := ⟨some ⟨ge, 0, none⟩, cp, e.xs⟩) hown hgrow HO3.out HB3.out (Nat.le_refl _) hw3 HR3.out; obtain ⟨g9, cap9, rfl⟩ := own_shape ho hv9; have HO9 := Lib.hid ho; have HB9 := Lib.hid hbb; have HR9 := Lib.hid hrr; clear hown hgrow hiff hv9 ho hbb hrr)
            case c3 => unfold maxLen; omega
            case c4 => omega
            case c5 => simp; omega
            go_roundw
            case rel => exact ⟨t + 1, l + 1, g9, cap9, _, by omega, rfl, by go_num, HS.out.more (e := ⟨some ⟨ge, 0, none⟩, cp, e.xs⟩) (by omega) HOUT.out HB9.out HO9.out HR9.out⟩
            case measure => simp [intOf]; omega
          · have HOUT := Lib.hid (hle (by omega))
            clear hgt hle
            go_wp2_with fail
            go_quiet ((go_at_call 29; exact Calls.quiet_of_same (HC.out _)))
            have HS2 := Lib.hid (HS.out.drewN nq)
            clear HS
            generalize wr.drewN nq = WX at *
            have HS := HS2
            clear HS2
            obtain ⟨x0, x20⟩ := HD.out.cols (List.mem_of_getElem? HDX.out)
            obtain ⟨b, off, rfl, hb, hcell⟩ := (HA.out.below (HS.out.world.mono hB)) (by rw [HD.out.len]; omega)
            obtain ⟨hc, hi⟩ := hcell p d HDX.out
            unfold CardV.value at hc
            have HT := Lib.hid (ownNew_any d.at_ d.cap d.xs B b (off + p) WX hc hi (Nat.le_trans hB HS.out.world.size) x0 (by omega))
            have hl80 : l ≤ 80 := by have := HS.out.sum; omega
            clear hcell hi x0 x20 hc
            go_wp2_with fail
            refine HT.out.mono ?_
            rintro en w3 ⟨ge, cp, ex, rfl, hge, hb3, hrow⟩
            have HB3 := Lib.hid (below_step HS.out.world hb3)
            have HR3 := Lib.hid (HS.out.rows.more hb3 (e := ⟨some ⟨ge, 0, none⟩, cp, d.xs⟩) rfl hge (Nat.le_trans HS.out.world.size hge) hrow)
            have HO3 : Hid (w3.ownsRow w.heap.size 34 1 (.slice (some ⟨g, 0, none⟩) l cap) l (E.map CardV.value)) := own_moved HS.out.row (fun i _ hi => hb3.block i hi)
            have hw3 : w.heap.size ≤ w3.heap.size := HB3.out.size
            clear hb3 hrow hge
            go_wp2_with (at_builtin; refine wpList_append_own _ rfl _ _ 30 rfl w.heap.size 34 ic (.agg #[.slice none 0 0]) 1 24 Tryd.underlying30 hi0 hz0 hz1 hz2 rfl (by decide) _ _ _ rfl (HO3.out.alloc _) ⟨w3.heap.size, 0, none⟩ 1 1 [CardV.value ⟨some ⟨ge, 0, none⟩, cp, d.xs⟩] rfl rfl (card_news w3 _) (card_one _) ?c3 ?c4 ?c5 ?_; rotate_left 3; intro v9 w9 hown hgrow hiff; have hv9 : v9 ≠ .slice none 0 0 := (fun e => by have := (hiff.1 e).1; cases this); obtain ⟨ho, hbb, hrr⟩ := own_card (x := ⟨some ⟨ge, 0, none⟩, cp, d.xs⟩) hown hgrow HO3.out HB3.out (Nat.le_refl _) hw3 HR3.out; obtain ⟨g9, cap9, rfl⟩ := own_shape ho hv9; have HO9 := Lib.hid ho; have HB9 := Lib.hid hbb; have HR9 := Lib.hid hrr; clear hown hgrow hiff hv9 ho hbb hrr)
            case c3 => unfold maxLen; omega
            case c4 => omega
            case c5 => simp; omega
            go_roundw
            case rel => exact ⟨p + 1, t, l + 1, g9, cap9, _, by omega, ht, rfl, rfl, by go_num, HS.out.more (e := ⟨some ⟨ge, 0, none⟩, cp, d.xs⟩) (by omega) HOUT.out HB9.out HO9.out HR9.out⟩
            case measure => simp [intOf]; omega
        · have htm : t = m := by omega
          have t1 : decide ((t : Int) < (m : Int)) = false := by simp; omega
          have hdm : (holes D').drop t = [] := List.drop_of_length_le (by rw [holes_len, HD'.out.len]; omega)
          have HOUT : Hid (mg i j ((holes D).drop p) ((holes D').drop t) = d.xs :: mg i j ((holes D).drop (p + 1)) ((holes D').drop t)) := by
            show _ = _
            rw [hdm, mg_right, mg_right, dropH (holes_at HDX.out)]
          clear hdm htm
          go_wp2_with fail
          go_quiet (fail)
          have HS2 := Lib.hid (HS.out.drewN nq)
          clear HS
          generalize wr.drewN nq = WX at *
          have HS := HS2
          clear HS2
          obtain ⟨x0, x20⟩ := HD.out.cols (List.mem_of_getElem? HDX.out)
          obtain ⟨b, off, rfl, hb, hcell⟩ := (HA.out.below (HS.out.world.mono hB)) (by rw [HD.out.len]; omega)
          obtain ⟨hc, hi⟩ := hcell p d HDX.out
          unfold CardV.value at hc
          have HT := Lib.hid (ownNew_any d.at_ d.cap d.xs B b (off + p) WX hc hi (Nat.le_trans hB HS.out.world.size) x0 (by omega))
          have hl80 : l ≤ 80 := by have := HS.out.sum; omega
          clear hcell hi x0 x20 hc
          go_wp2_with fail
          refine HT.out.mono ?_
          rintro en w3 ⟨ge, cp, ex, rfl, hge, hb3, hrow⟩
          have HB3 := Lib.hid (below_step HS.out.world hb3)
          have HR3 := Lib.hid (HS.out.rows.more hb3 (e := ⟨some ⟨ge, 0, none⟩, cp, d.xs⟩) rfl hge (Nat.le_trans HS.out.world.size hge) hrow)
          have HO3 : Hid (w3.ownsRow w.heap.size 34 1 (.slice (some ⟨g, 0, none⟩) l cap) l (E.map CardV.value)) := own_moved HS.out.row (fun i _ hi => hb3.block i hi)
          have hw3 : w.heap.size ≤ w3.heap.size := HB3.out.size
          clear hb3 hrow hge
          go_wp2_with (at_builtin; refine wpList_append_own _ rfl _ _ 30 rfl w.heap.size 34 ic (.agg #[.slice none 0 0]) 1 24 Tryd.underlying30 hi0 hz0 hz1 hz2 rfl (by decide) _ _ _ rfl (HO3.out.alloc _) ⟨w3.heap.size, 0, none⟩ 1 1 [CardV.value ⟨some ⟨ge, 0, none⟩, cp, d.xs⟩] rfl rfl (card_news w3 _) (card_one _) ?c3 ?c4 ?c5 ?_; rotate_left 3; intro v9 w9 hown hgrow hiff; have hv9 : v9 ≠ .slice none 0 0 := (fun e => by have := (hiff.1 e).1; cases this); obtain ⟨ho, hbb, hrr⟩ := own_card (x := ⟨some ⟨ge, 0, none⟩, cp, d.xs⟩) hown hgrow HO3.out HB3.out (Nat.le_refl _) hw3 HR3.out; obtain ⟨g9, cap9, rfl⟩ := own_shape ho hv9; have HO9 := Lib.hid ho; have HB9 := Lib.hid hbb; have HR9 := Lib.hid hrr; clear hown hgrow hiff hv9 ho hbb hrr)
          case c3 => unfold maxLen; omega
          case c4 => omega
          case c5 => simp; omega
          go_roundw
          case rel => exact ⟨p + 1, t, l + 1, g9, cap9, _, by omega, ht, rfl, rfl, by go_num, HS.out.more (e := ⟨some ⟨ge, 0, none⟩, cp, d.xs⟩) (by omega) HOUT.out HB9.out HO9.out HR9.out⟩
          case measure => simp [intOf]; omega
    · obtain rfl : p = n := by omega
      have p1 : ¬ (p : Int) < (p : Int) := by omega
      have t0 : (0 : Int) ≤ (t : Int) := Int.natCast_nonneg _
      have t1 : (t : Int) ≤ (m : Int) := by omega
      have hout := HS.out.out
      rw [show (holes D).drop p = [] from List.drop_of_length_le (by rw [holes_len, HD.out.len]; exact Nat.le_refl _), mg_left] at hout
      obtain ⟨A2, c2, hsl, hdk⟩ := (HB.out.below (HS.out.world.mono hB')).rest HD'.out.len ht
      have hcp := l02Copy_any A2 c2 (D'.drop t) (m - t) B' wr hdk (Nat.le_trans hB' HS.out.world.size) (by rw [List.length_drop, HD'.out.len]) (by omega) (fun x hx => HD'.out.cols (List.mem_of_mem_drop hx))
      rw [show holes (D'.drop t) = (holes D').drop t from List.map_drop] at hcp
      have HCP := Lib.hid hcp
      have HOUT := Lib.hid hout
      clear hdk hcp hout
      go_wp2_with fail
      refine HCP.out.mono ?_
      rintro en w3 ⟨g2, cap2, F, rfl, hFl, hF, hb3, hrow, hrows⟩
      have HB3 := Lib.hid (below_step HS.out.world hb3)
      have hw3 : w.heap.size ≤ w3.heap.size := HB3.out.size
      have HR3 := Lib.hid (HS.out.rows.plus hb3 hrows HS.out.world.size)
      have HO3 : Hid (w3.ownsRow w.heap.size 34 1 (.slice (some ⟨g, 0, none⟩) l cap) l (E.map CardV.value)) := own_moved HS.out.row (fun i _ hi => hb3.block i hi)
      have hl80 : l ≤ 80 := by have := HS.out.sum; omega
      have HFL := Lib.hid hFl
      have HFF := Lib.hid hF
      have hnews : ∀ k u, (F.map CardV.value)[k]? = some u → w3.cell? ((⟨g2, 0, none⟩ : Addr).add k) = some u := fun k u hu => by
        rcases hrow.2 with ⟨h0, _⟩ | ⟨g', cap', cur, hv, _, hh, _, _, _, ht⟩
        · cases h0
        · injection hv with e1 _ _
          injection e1 with e1
          injection e1 with e1
          subst e1
          have hadd : (⟨g2, 0, none⟩ : Addr).add k = ⟨g2, 0 + k, none⟩ := Go.WideShapes.add_plain _ _ _
          rw [hadd, Nat.zero_add, cell_of_row w3 g2 k _ _ _ hh]
          have hk := (List.getElem?_eq_some_iff.1 hu).1
          rw [List.length_map, hFl] at hk
          rw [← ht, List.getElem?_take_of_lt (by omega)] at hu
          simpa using hu
      have HNW := Lib.hid hnews
      have hone : ∀ u ∈ F.map CardV.value, u.oneCell' = true := fun u hu => by
        obtain ⟨d, _, rfl⟩ := List.mem_map.1 hu
        rfl
      have HON := Lib.hid hone
      have hml : (F.map CardV.value).length = (m - t) * 1 := by rw [List.length_map, hFl, Nat.mul_one]
      clear hb3 hrow hrows hnews hone hFl hF hsl HCP
      go_wp2_with (at_builtin; refine wpList_append_own _ rfl _ _ 30 rfl w.heap.size 34 ic (.agg #[.slice none 0 0]) 1 24 Tryd.underlying30 hi0 hz0 hz1 hz2 rfl (by decide) _ _ _ rfl HO3.out ⟨g2, 0, none⟩ (m - t) cap2 (F.map CardV.value) rfl hml HNW.out HON.out ?c3 ?c4 hw3 ?_; rotate_left 2; intro v9 w9 hown hgrow hiff; have hv9 : v9 ≠ .slice none 0 0 := (fun e => by have := (hiff.1 e).1; cases this); obtain ⟨ho, hbb, hrr⟩ := own_cards hown hgrow HO3.out HB3.out (Nat.le_refl _) hw3 HR3.out; obtain ⟨g9, cap9, rfl⟩ := own_shape ho hv9; have HO9 := Lib.hid ho; have HB9 := Lib.hid hbb; have HR9 := Lib.hid hrr; clear hown hgrow hiff hv9 ho hbb hrr)
      case c3 => unfold maxLen; omega
      case c4 => omega
      have hlen : l + (m - t) = M.length := by have := HS.out.sum; rw [HML.out]; omega
      have hEF : (E ++ F).length = l + (m - t) := by rw [List.length_append, HS.out.len, HFL.out]
      obtain ⟨A9, c9, e9, hda⟩ := own_deckAt HO9.out hEF HR9.out (Nat.le_refl _)
      injection e9 with e9 _ _
      subst e9
      have HDA := Lib.hid hda
      have HLN := Lib.hid hlen
      clear hda hEF hlen
      go_ret
      unfold GivesCards
      refine ⟨_, cap9, E ++ F, by rw [← HLN.out]; rfl, ?_, HB9.out, HDA.out⟩
      rw [← HOUT.out, ← HFF.out]
      simp [holes]
end Go.Proofs.YtamookdlbmbncabDoor
