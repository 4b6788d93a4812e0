/- spec.SplitCounter and impl.SplitCounter give the counters of the lower and of the upper wheels, or the code, for every counter of at most 1048576 digits: contracts. -/
import Derived.Test.YtkiphejkgpfjjaaCntJoin
import Derived.Deep.RegionHeld3
namespace Go.Proofs.Ytkiphejkgpfjjaa
open Go.ChangeShapes Go.WideShapes Go.ChangeAt Go.RowKit

/-- the code of a counter and a number of wheels -/
def splitC (xs : List Int) (k : Int) : Int := if okK xs = false then 1 else if inB k 1 (xs.length - 1) = true then 0 else 2
def splitA (xs : List Int) (k : Int) : List Int := if splitC xs k = 0 then xs.take k.toNat else []
def splitB (xs : List Int) (k : Int) : List Int := if splitC xs k = 0 then xs.drop k.toNat else []
theorem splitA_length (xs : List Int) (k : Int) : (splitA xs k).length ≤ xs.length := by
  unfold splitA
  split
  · rw [List.length_take]; omega
  · simp
theorem splitB_length (xs : List Int) (k : Int) : (splitB xs k).length ≤ xs.length := by
  unfold splitB
  split
  · rw [List.length_drop]; omega
  · simp
theorem splitC_cases (xs : List Int) (k : Int) : (splitC xs k = 1 ∧ okK xs = false) ∨ (splitC xs k = 2 ∧ okK xs = true ∧ inB k 1 (xs.length - 1) = false) ∨ (splitC xs k = 0 ∧ okK xs = true ∧ inB k 1 (xs.length - 1) = true) := by
  unfold splitC
  cases okK xs <;> cases inB k 1 (xs.length - 1) <;> simp

theorem Ints.front {w : World} {B : Nat} {b off : Nat} {xs : List Int} (h : Ints w B (some ⟨b, off, none⟩) xs) (k : Nat) : Ints w B (some ⟨b, off, none⟩) (xs.take k) := fun h0 => by
  have hx : 0 < xs.length := by rw [List.length_take] at h0; omega
  obtain ⟨b', off', e, hb, hc⟩ := h hx
  injection e with e
  injection e with e1 e2
  subst e1 e2
  refine ⟨b, off, rfl, hb, fun i hi => ?_⟩
  rw [List.length_take] at hi
  rw [hc i (by omega), List.getElem?_take_of_lt (by omega)]
theorem Ints.back {w : World} {B : Nat} {b off : Nat} {xs : List Int} (h : Ints w B (some ⟨b, off, none⟩) xs) (k : Nat) : Ints w B (some ⟨b, off + k, none⟩) (xs.drop k) := fun h0 => by
  have hx : 0 < xs.length := by rw [List.length_drop] at h0; omega
  obtain ⟨b', off', e, hb, hc⟩ := h hx
  injection e with e
  injection e with e1 e2
  subst e1 e2
  refine ⟨b, off + k, rfl, hb, fun i hi => ?_⟩
  rw [List.length_drop] at hi
  rw [Nat.add_assoc, hc (k + i) (by omega), List.getElem?_drop]

/-- numbers of new memory, in the words of IAt -/
def GivesNew (ys : List Int) (w : World) (e : Ending) (w' : World) : Prop :=
  ∃ g cap, e = .returned (.slice (some ⟨g, 0, none⟩) ys.length cap) ∧ Below w.heap.size w w' ∧ IAt w' w.heap.size w'.heap.size (some ⟨g, 0, none⟩) ys
theorem GivesInts.new {ys : List Int} {w w' : World} {e : Ending} (h : GivesInts ys w e w') : GivesNew ys w e w' := by
  obtain ⟨g, cap, ex, he, hg, hb, hr⟩ := h
  exact ⟨g, cap, he, hb, GivesK1.kc (cap := cap) hg hr⟩
theorem IAt.far {w : World} {lo hi : Nat} {A : Option Addr} {L : List Int} (h : IAt w lo hi A L) (p : Addr) (u : Value) (hp : p.block < lo) : IAt (w.setCell p u) lo hi A L :=
  ⟨fun h0 => by obtain ⟨g, ex, e, h1, h2, h3⟩ := h.top h0; exact ⟨g, ex, e, h1, h2, h3.far (by omega) _⟩, by have := h.room; simpa [World.setCell] using this⟩

set_option maxRecDepth 100000 in
set_option maxHeartbeats 2000000 in
theorem specSplit_any (A : Option Addr) (c : Nat) (xs : List Int) (B : Nat) (x : Int) (w : World) (h : Ints w B A xs) (hB : B ≤ w.heap.size) (hn : xs.length ≤ 1048576) (hcl : xs.length ≤ c) (hcm : c ≤ 140737488355328) :
    Calls Try.prog 22 #[.agg #[.slice A xs.length c], .int .i64 x] w (GivesKK (splitA xs x) (splitB xs x) (splitC xs x) w) := by
  have e3 := below_boxed (below_boxed (below_box w (.cells #[.slice A xs.length c] 27)) (.cells #[.slice none 0 0] 27)) (.cells #[.slice none 0 0] 27)
  have o1 := l11Ok_any A c xs B w.heap.size 0 _ (by simp [go_sem]) (h.below (e3.mono hB)) hn
  have hj := splitC_cases xs x
  have hA : splitC xs x = 0 → splitA xs x = xs.take x.toNat ∧ splitB xs x = xs.drop x.toNat := fun e => by simp [splitA, splitB, e]
  have hA' : splitC xs x ≠ 0 → splitA xs x = [] ∧ splitB xs x = [] := fun e => by simp [splitA, splitB, e]
  have hw1 : IntKind.i64.wrap ((xs.length : Int) - 1) = (xs.length : Int) - 1 := IntWalk.i64_in _ (by omega)
  have hin := fun W => in_any x 1 ((xs.length : Int) - 1) W
  have E3 := Lib.hid e3
  rcases hj with ⟨e', hv⟩ | ⟨e', hv, hv'⟩ | ⟨e', hv, hv'⟩
  · rw [(hA' (by omega)).1, (hA' (by omega)).2, e']
    rw [hv] at o1
    have H1 := Lib.hid o1
    obtain ⟨n, hN⟩ : ∃ n, xs.length = n := ⟨_, rfl⟩
    rw [hN] at H1 E3 ⊢
    clear o1 h e' hv hA hA' e3 hw1 hin hN
    go_enter Try.func22, Try.ntmps22
    go_wp2_with (go_at_call 27; refine H1.out.mono ?_; rintro e w' ⟨rfl, rfl⟩)
    exact bodyPost_ret (v := .tuple #[.agg #[.slice none 0 0], .agg #[.slice none 0 0], .int .i64 1]) (by simp [results, Try.results22, go_sem]) rfl ⟨none, 0, none, 0, w.heap.size, w.heap.size, w.heap.size, w.heap.size, rfl, E3.out, ⟨Nat.le_refl _, Nat.le_refl _, E3.out.size, Nat.le_refl _, Nat.le_refl _, E3.out.size, Or.inl (Nat.le_refl _)⟩, IAt.nil E3.out.size, IAt.nil E3.out.size⟩
  · rw [(hA' (by omega)).1, (hA' (by omega)).2, e']
    rw [hv] at o1
    rw [hv'] at hin
    have H1 := Lib.hid o1
    obtain ⟨n, hN⟩ : ∃ n, xs.length = n := ⟨_, rfl⟩
    rw [hN] at H1 E3 hw1 hin ⊢
    have HI := Lib.hid hin
    clear o1 h e' hv hv' hA hA' e3 hin hN
    go_enter Try.func22, Try.ntmps22
    go_wp2_with (first | (go_at_call 27; refine H1.out.mono ?_; rintro e w' ⟨rfl, rfl⟩) | (go_at_call 42; refine (HI.out _).mono ?_; rintro e w' ⟨rfl, rfl⟩))
    exact bodyPost_ret (v := .tuple #[.agg #[.slice none 0 0], .agg #[.slice none 0 0], .int .i64 2]) (by simp [results, Try.results22, go_sem]) rfl ⟨none, 0, none, 0, w.heap.size, w.heap.size, w.heap.size, w.heap.size, rfl, E3.out, ⟨Nat.le_refl _, Nat.le_refl _, E3.out.size, Nat.le_refl _, Nat.le_refl _, E3.out.size, Or.inl (Nat.le_refl _)⟩, IAt.nil E3.out.size, IAt.nil E3.out.size⟩
  · rw [(hA e').1, (hA e').2, e']
    rw [hv] at o1
    rw [hv'] at hin
    have hb12 : 1 ≤ x ∧ x ≤ (xs.length : Int) - 1 := by simpa [inB] using hv'
    obtain ⟨k, rfl⟩ : ∃ k : Nat, x = k := ⟨x.toNat, by omega⟩
    rw [Int.toNat_natCast]
    obtain ⟨b, off, rfl, hb, hcell⟩ := h (by omega)
    have hl1 : (xs.take k).length = k := by rw [List.length_take]; omega
    have hl2 : (xs.drop k).length = xs.length - k := by rw [List.length_drop]
    have c1 := fun W (hW : Below w.heap.size w W) => (l00Own_any (some ⟨b, off, none⟩) c (xs.take k) B W ((h.below (hW.mono hB)).front k) (Nat.le_trans hB hW.size) (by omega) (by omega)).mono fun _ _ hh => GivesInts.new hh
    have c2 := fun W (hW : Below w.heap.size w W) => (l00Own_any (some ⟨b, off + k, none⟩) (c - k) (xs.drop k) B W ((h.below (hW.mono hB)).back k) (Nat.le_trans hB hW.size) (by omega) (by omega)).mono fun _ _ hh => GivesInts.new hh
    unfold GivesNew at c1 c2
    rw [hl1] at c1
    rw [hl2] at c2
    obtain ⟨n, hN⟩ : ∃ n, xs.length = n := ⟨_, rfl⟩
    obtain ⟨X, hX⟩ : ∃ X, xs.take k = X := ⟨_, rfl⟩
    obtain ⟨Y, hY⟩ : ∃ Y, xs.drop k = Y := ⟨_, rfl⟩
    rw [hX] at c1 hl1 ⊢
    rw [hY] at c2 hl2 ⊢
    rw [hN] at o1 E3 hw1 hin c2 hl2 hb12 hcl hn e3 ⊢
    obtain ⟨W3, hW3⟩ : ∃ W, ((w.alloc (.cells #[.slice (some ⟨b, off, none⟩) n c] 27)).alloc (.cells #[.slice none 0 0] 27)).alloc (.cells #[.slice none 0 0] 27) = W := ⟨_, rfl⟩
    have p0 : W3.cell? ⟨w.heap.size, 0, none⟩ = some (.slice (some ⟨b, off, none⟩) n c) := by rw [← hW3]; simp [go_sem]
    have r0 : W3.cell? ⟨w.heap.size + 1, 0, none⟩ = some (.slice none 0 0) := by rw [← hW3]; simp [go_sem]
    have s0 : W3.cell? ⟨w.heap.size + 2, 0, none⟩ = some (.slice none 0 0) := by rw [← hW3]; simp [go_sem]
    have f0 : W3.frozen? ⟨w.heap.size + 1, 0, none⟩ = false := by rw [← hW3]; simp [go_sem]
    have g0 : W3.frozen? ⟨w.heap.size + 2, 0, none⟩ = false := by rw [← hW3]; simp [go_sem]
    rw [hW3] at o1 e3 E3
    have sz3 : w.heap.size + 3 ≤ W3.heap.size := by rw [← hW3]; simp
    have H1 := Lib.hid o1
    have HI := Lib.hid hin
    have HC1 := Lib.hid c1
    have HC2 := Lib.hid c2
    have HL1 := Lib.hid hl1
    have HL2 := Lib.hid hl2
    have SZ := Lib.hid sz3
    have j0 : (0 : Int) ≤ (k : Int) := Int.natCast_nonneg _
    have j1 : (k : Int) ≤ (n : Int) := by omega
    have j2 : (k : Int) ≤ (c : Int) := by omega
    have j3 : (n : Int) ≤ (c : Int) := by omega
    have j4 : ¬ c = k := by omega
    have j5 : k ≤ n := by omega
    have j6 : k ≤ c := by omega
    have HB := Lib.hid e3.drew
    have P0 := Lib.hid p0
    have R0 := Lib.hid r0
    have S0 := Lib.hid s0
    have F0 := Lib.hid f0
    have G0 := Lib.hid g0
    have HK : Hid (Below W3.heap.size W3 W3.drew) := (Below.refl _ _).drew
    have p1 : W3.drew.cell? ⟨w.heap.size, 0, none⟩ = some (.slice (some ⟨b, off, none⟩) n c) := p0
    have HS : Hid (W3.heap.size ≤ W3.drew.heap.size) := Nat.le_refl _
    clear o1 h e' hv hv' hA hA' e3 hin hN hX hY c1 c2 hl1 hl2 sz3 hcell hb12 r0 s0 f0 g0 hb hB hn hcl hcm
    go_enter Try.func22, Try.ntmps22
    go_wp2_with (first | (go_at_call 27; refine H1.out.mono ?_; rintro e w' ⟨rfl, rfl⟩) | (go_at_call 42; refine (HI.out _).mono ?_; rintro e w' ⟨rfl, rfl⟩))
    go_region_law (first
      | (go_simp; go_at_call 43; with_reducible refine (HC1.out _ HB.out).mono ?_; rintro e wz ⟨ga, ca, rfl, hb, ho⟩; have IA := Lib.hid ho; have KA := Lib.hid hb; have HB := Lib.hid (below_step HB.out hb); have HK := Lib.hid (below_step HK.out hb); have pA := cell_kept P0.out HK.out; have rA := cell_kept R0.out HK.out; have sA := cell_kept S0.out HK.out; have fA := frozen_kept R0.out F0.out HK.out; have gA := frozen_kept S0.out G0.out HK.out; have SA := Lib.hid hb.size; have TA := HS; have HS := Lib.hid (Nat.le_trans HS.out hb.size); clear hb ho)
      | (go_simp; go_at_call 43; with_reducible refine (HC2.out _ HB.out).mono ?_; rintro e wz ⟨gb, cb, rfl, hb, ho⟩; have IB := Lib.hid ho; have KB := Lib.hid hb; have HB := Lib.hid (below_step HB.out hb); have HK := Lib.hid (below_step HK.out hb); have pB := cell_kept P0.out HK.out; have rB := cell_kept R0.out HK.out; have sB := cell_kept S0.out HK.out; have fB := frozen_kept R0.out F0.out HK.out; have gB := frozen_kept S0.out G0.out HK.out; have SB := Lib.hid hb.size; have TB := HS; have HS := Lib.hid (Nat.le_trans HS.out hb.size); clear hb ho))
    all_goals
      first | (have IA := Lib.hid (IA.out.later KB.out)) | (have IB := Lib.hid (IB.out.later KA.out))
      go_wp2
      refine bodyPost_ret (v := .tuple #[.agg #[.slice (some ⟨ga, 0, none⟩) k ca], .agg #[.slice (some ⟨gb, 0, none⟩) (n - k) cb], .int .i64 0]) (by simp [results, Try.results22, go_sem, rA, sA, rB, sB]) rfl ?_
      refine ⟨some ⟨ga, 0, none⟩, ca, some ⟨gb, 0, none⟩, cb, _, _, _, _, by rw [HL1.out, HL2.out], (HB.out.setCell (by show w.heap.size ≤ w.heap.size + 1; omega) _).setCell (by show w.heap.size ≤ w.heap.size + 2; omega) _, ?_, (IA.out.far _ _ ?_).far _ _ ?_, (IB.out.far _ _ ?_).far _ _ ?_⟩
      all_goals
        have t1 := SA.out
        have t2 := SB.out
        have t3 := TA.out
        have t4 := TB.out
        have t5 := HS.out
        have t6 := SZ.out
        have t7 := HB.out.size
        simp only [World.setCell, Array.size_modify, heap_drew] at *
        first | omega | (refine ⟨?_, ?_, ?_, ?_, ?_, ?_, ?_⟩ <;> omega)

set_option maxRecDepth 100000 in
set_option maxHeartbeats 2000000 in
theorem implSplit_any (A : Option Addr) (c : Nat) (xs : List Int) (B : Nat) (x : Int) (w : World) (h : Ints w B A xs) (hB : B ≤ w.heap.size) (hn : xs.length ≤ 1048576) (hcl : xs.length ≤ c) (hcm : c ≤ 140737488355328) :
    Calls Try.prog 23 #[.agg #[.slice A xs.length c], .int .i64 x] w (GivesKK (splitA xs x) (splitB xs x) (splitC xs x) w) := by
  have e3 := below_boxed (below_boxed (below_box w (.cells #[.slice A xs.length c] 27)) (.cells #[.slice none 0 0] 27)) (.cells #[.slice none 0 0] 27)
  have o1 := fun W (hW : Below w.heap.size w W) => implValidCounter_any A c xs B W (h.below (hW.mono hB)) (Nat.le_trans hB hW.size) hn
  have hj := splitC_cases xs x
  have hA : splitC xs x = 0 → splitA xs x = xs.take x.toNat ∧ splitB xs x = xs.drop x.toNat := fun e => by simp [splitA, splitB, e]
  have hA' : splitC xs x ≠ 0 → splitA xs x = [] ∧ splitB xs x = [] := fun e => by simp [splitA, splitB, e]
  obtain ⟨W3, hW3⟩ : ∃ W, ((w.alloc (.cells #[.slice A xs.length c] 27)).alloc (.cells #[.slice none 0 0] 27)).alloc (.cells #[.slice none 0 0] 27) = W := ⟨_, rfl⟩
  have p0 : W3.cell? ⟨w.heap.size, 0, none⟩ = some (.slice A xs.length c) := by rw [← hW3]; simp [go_sem]
  have R0 : Hid (W3.cell? ⟨w.heap.size + 1, 0, none⟩ = some (.slice none 0 0)) := by show _ = _; rw [← hW3]; simp [go_sem]
  have S0 : Hid (W3.cell? ⟨w.heap.size + 2, 0, none⟩ = some (.slice none 0 0)) := by show _ = _; rw [← hW3]; simp [go_sem]
  have F0 : Hid (W3.frozen? ⟨w.heap.size + 1, 0, none⟩ = false) := by show _ = _; rw [← hW3]; simp [go_sem]
  have G0 : Hid (W3.frozen? ⟨w.heap.size + 2, 0, none⟩ = false) := by show _ = _; rw [← hW3]; simp [go_sem]
  have SZ : Hid (w.heap.size + 3 ≤ W3.heap.size) := by show _ ≤ _; rw [← hW3]; simp
  rw [hW3] at e3
  have E3 := Lib.hid e3
  rcases hj with ⟨e', hv⟩ | ⟨e', hv, hv'⟩ | ⟨e', hv, hv'⟩
  · rw [(hA' (by omega)).1, (hA' (by omega)).2, e']
    rw [hv] at o1
    obtain ⟨n, hN⟩ : ∃ n, xs.length = n := ⟨_, rfl⟩
    rw [hN] at o1 p0 hW3 ⊢
    have H1 := Lib.hid o1
    clear o1 h e' hv hA hA' e3 hN
    go_enter Try.func23, Try.ntmps23
    go_wp2_with fail
    refine (H1.out _ E3.out).mono ?_
    rintro e w4 ⟨rfl, hb⟩
    have r4 := cell_kept R0.out hb
    have s4 := cell_kept S0.out hb
    have f4 := frozen_kept R0.out F0.out hb
    have g4 := frozen_kept S0.out G0.out hb
    have B4 := Lib.hid (below_step E3.out hb)
    clear hb
    go_wp2
    have BF := Lib.hid ((B4.out.setCell (p := ⟨w.heap.size + 1, 0, none⟩) (by show w.heap.size ≤ w.heap.size + 1; omega) (.slice none 0 0)).setCell (p := ⟨w.heap.size + 2, 0, none⟩) (by show w.heap.size ≤ w.heap.size + 2; omega) (.slice none 0 0))
    exact bodyPost_ret (v := .tuple #[.agg #[.slice none 0 0], .agg #[.slice none 0 0], .int .i64 1]) (by simp [results, Try.results23, go_sem, r4, s4]) rfl ⟨none, 0, none, 0, w.heap.size, w.heap.size, w.heap.size, w.heap.size, rfl, BF.out, ⟨Nat.le_refl _, Nat.le_refl _, BF.out.size, Nat.le_refl _, Nat.le_refl _, BF.out.size, Or.inl (Nat.le_refl _)⟩, IAt.nil BF.out.size, IAt.nil BF.out.size⟩
  · rw [(hA' (by omega)).1, (hA' (by omega)).2, e']
    rw [hv] at o1
    obtain ⟨n, hN⟩ : ∃ n, xs.length = n := ⟨_, rfl⟩
    have hx : x < 1 ∨ (1 ≤ x ∧ (xs.length : Int) ≤ x) := by
      simp only [inB, Bool.and_eq_false_iff, decide_eq_false_iff_not] at hv'
      omega
    rw [hN] at o1 p0 hW3 hx ⊢
    have H1 := Lib.hid o1
    have P0 := Lib.hid p0
    have HX := Lib.hid hx
    clear o1 h e' hv hv' hA hA' e3 hN hx
    go_enter Try.func23, Try.ntmps23
    go_wp2_with fail
    refine (H1.out _ E3.out).mono ?_
    rintro e w4 ⟨rfl, hb⟩
    have p4 := cell_kept P0.out hb
    have r4 := cell_kept R0.out hb
    have s4 := cell_kept S0.out hb
    have f4 := frozen_kept R0.out F0.out hb
    have g4 := frozen_kept S0.out G0.out hb
    have B4 := Lib.hid (below_step E3.out hb)
    clear hb
    have BF := Lib.hid ((B4.out.setCell (p := ⟨w.heap.size + 1, 0, none⟩) (by show w.heap.size ≤ w.heap.size + 1; omega) (.slice none 0 0)).setCell (p := ⟨w.heap.size + 2, 0, none⟩) (by show w.heap.size ≤ w.heap.size + 2; omega) (.slice none 0 0))
    rcases HX.out with hx | ⟨hx, hx'⟩
    · go_wp2
      exact bodyPost_ret (v := .tuple #[.agg #[.slice none 0 0], .agg #[.slice none 0 0], .int .i64 2]) (by simp [results, Try.results23, go_sem, r4, s4]) rfl ⟨none, 0, none, 0, w.heap.size, w.heap.size, w.heap.size, w.heap.size, rfl, BF.out, ⟨Nat.le_refl _, Nat.le_refl _, BF.out.size, Nat.le_refl _, Nat.le_refl _, BF.out.size, Or.inl (Nat.le_refl _)⟩, IAt.nil BF.out.size, IAt.nil BF.out.size⟩
    · have hx1 : ¬ x < 1 := by omega
      clear hx
      go_wp2
      exact bodyPost_ret (v := .tuple #[.agg #[.slice none 0 0], .agg #[.slice none 0 0], .int .i64 2]) (by simp [results, Try.results23, go_sem, r4, s4]) rfl ⟨none, 0, none, 0, w.heap.size, w.heap.size, w.heap.size, w.heap.size, rfl, BF.out, ⟨Nat.le_refl _, Nat.le_refl _, BF.out.size, Nat.le_refl _, Nat.le_refl _, BF.out.size, Or.inl (Nat.le_refl _)⟩, IAt.nil BF.out.size, IAt.nil BF.out.size⟩
  · rw [(hA e').1, (hA e').2, e']
    rw [hv] at o1
    have hb12 : 1 ≤ x ∧ x ≤ (xs.length : Int) - 1 := by simpa [inB] using hv'
    obtain ⟨k, rfl⟩ : ∃ k : Nat, x = k := ⟨x.toNat, by omega⟩
    rw [Int.toNat_natCast]
    obtain ⟨b, off, rfl, hb, hcell⟩ := h (by omega)
    have hl1 : (xs.take k).length = k := by rw [List.length_take]; omega
    have hl2 : (xs.drop k).length = xs.length - k := by rw [List.length_drop]
    have c1 := fun W (hW : Below w.heap.size w W) => (clone_any (some ⟨b, off, none⟩) c (xs.take k) B W ((h.below (hW.mono hB)).front k) (Nat.le_trans hB hW.size) (by omega) (by omega)).mono fun _ _ hh => GivesInts.new hh
    have c2 := fun W (hW : Below w.heap.size w W) => (clone_any (some ⟨b, off + k, none⟩) (c - k) (xs.drop k) B W ((h.below (hW.mono hB)).back k) (Nat.le_trans hB hW.size) (by omega) (by omega)).mono fun _ _ hh => GivesInts.new hh
    unfold GivesNew at c1 c2
    rw [hl1] at c1
    rw [hl2] at c2
    obtain ⟨n, hN⟩ : ∃ n, xs.length = n := ⟨_, rfl⟩
    obtain ⟨X, hX⟩ : ∃ X, xs.take k = X := ⟨_, rfl⟩
    obtain ⟨Y, hY⟩ : ∃ Y, xs.drop k = Y := ⟨_, rfl⟩
    rw [hX] at c1 hl1 ⊢
    rw [hY] at c2 hl2 ⊢
    rw [hN] at o1 p0 hW3 c2 hl2 hb12 hcl hn ⊢
    have H1 := Lib.hid o1
    have P0 := Lib.hid p0
    have HC1 := Lib.hid c1
    have HC2 := Lib.hid c2
    have HL1 := Lib.hid hl1
    have HL2 := Lib.hid hl2
    have j0 : (0 : Int) ≤ (k : Int) := Int.natCast_nonneg _
    have j1 : (k : Int) ≤ (n : Int) := by omega
    have j2 : (k : Int) ≤ (c : Int) := by omega
    have j3 : (n : Int) ≤ (c : Int) := by omega
    have j4 : ¬ c = k := by omega
    have j5 : k ≤ n := by omega
    have j6 : k ≤ c := by omega
    have j7 : ¬ (k : Int) < 1 := by omega
    have j8 : ¬ (n : Int) ≤ (k : Int) := by omega
    clear o1 h e' hv hv' hA hA' e3 hN hX hY c1 c2 hl1 hl2 hcell hb12 hb hB hn hcl hcm
    go_enter Try.func23, Try.ntmps23
    go_wp2_with fail
    refine (H1.out _ E3.out).mono ?_
    rintro e w4 ⟨rfl, hb⟩
    have p4 := cell_kept P0.out hb
    have P4 := Lib.hid p4
    have R4 := Lib.hid (cell_kept R0.out hb)
    have S4 := Lib.hid (cell_kept S0.out hb)
    have F4 := Lib.hid (frozen_kept R0.out F0.out hb)
    have G4 := Lib.hid (frozen_kept S0.out G0.out hb)
    have B4 := Lib.hid (below_step E3.out hb)
    have Z4 : Hid (w.heap.size + 3 ≤ w4.heap.size) := Nat.le_trans SZ.out hb.size
    have HB := Lib.hid B4.out.drew
    have HK : Hid (Below w4.heap.size w4 w4.drew) := (Below.refl _ _).drew
    have pd : w4.drew.cell? ⟨w.heap.size, 0, none⟩ = some (.slice (some ⟨b, off, none⟩) n c) := p4
    have HS : Hid (w4.heap.size ≤ w4.drew.heap.size) := Nat.le_refl _
    clear hb
    go_wp2
    go_region_law (first
      | (go_simp; go_at_call 44; with_reducible refine (HC1.out _ HB.out).mono ?_; rintro e wz ⟨ga, ca, rfl, hb, ho⟩; have IA := Lib.hid ho; have KA := Lib.hid hb; have HB := Lib.hid (below_step HB.out hb); have HK := Lib.hid (below_step HK.out hb); have pA := cell_kept P4.out HK.out; have rA := cell_kept R4.out HK.out; have sA := cell_kept S4.out HK.out; have fA := frozen_kept R4.out F4.out HK.out; have gA := frozen_kept S4.out G4.out HK.out; have SA := Lib.hid hb.size; have TA := HS; have HS := Lib.hid (Nat.le_trans HS.out hb.size); clear hb ho)
      | (go_simp; go_at_call 44; with_reducible refine (HC2.out _ HB.out).mono ?_; rintro e wz ⟨gb, cb, rfl, hb, ho⟩; have IB := Lib.hid ho; have KB := Lib.hid hb; have HB := Lib.hid (below_step HB.out hb); have HK := Lib.hid (below_step HK.out hb); have pB := cell_kept P4.out HK.out; have rB := cell_kept R4.out HK.out; have sB := cell_kept S4.out HK.out; have fB := frozen_kept R4.out F4.out HK.out; have gB := frozen_kept S4.out G4.out HK.out; have SB := Lib.hid hb.size; have TB := HS; have HS := Lib.hid (Nat.le_trans HS.out hb.size); clear hb ho))
    all_goals
      first | (have IA := Lib.hid (IA.out.later KB.out)) | (have IB := Lib.hid (IB.out.later KA.out))
      go_wp2
      refine bodyPost_ret (v := .tuple #[.agg #[.slice (some ⟨ga, 0, none⟩) k ca], .agg #[.slice (some ⟨gb, 0, none⟩) (n - k) cb], .int .i64 0]) (by simp [results, Try.results23, go_sem, rA, sA, rB, sB]) rfl ?_
      refine ⟨some ⟨ga, 0, none⟩, ca, some ⟨gb, 0, none⟩, cb, _, _, _, _, by rw [HL1.out, HL2.out], (HB.out.setCell (by show w.heap.size ≤ w.heap.size + 1; omega) _).setCell (by show w.heap.size ≤ w.heap.size + 2; omega) _, ?_, (IA.out.far _ _ ?_).far _ _ ?_, (IB.out.far _ _ ?_).far _ _ ?_⟩
      all_goals
        have t1 := SA.out
        have t2 := SB.out
        have t3 := TA.out
        have t4 := TB.out
        have t5 := HS.out
        have t6 := Z4.out
        have t7 := HB.out.size
        simp only [World.setCell, Array.size_modify, heap_drew] at *
        first | omega | (refine ⟨?_, ?_, ?_, ?_, ?_, ?_, ?_⟩ <;> omega)

end Go.Proofs.Ytkiphejkgpfjjaa
