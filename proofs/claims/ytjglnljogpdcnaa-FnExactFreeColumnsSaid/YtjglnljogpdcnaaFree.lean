/- spec.FreeColumns and impl.FreeColumns give the columns that belong to no item of the layout, or the code, for every layout of at most 1048576 items: contracts. -/
import Derived.Test.YtjglnljogpdcnaaLayoutV
import Derived.Test.YtjglnljogpdcnaaOwn
namespace Go.Proofs.Ytjglnljogpdcnaa
open Go.ChangeShapes Go.WideShapes Go.ChangeAt Go.RowKit

theorem okTo_at {ds : List It} {n : Int} {m i : Nat} {d : It} (h : okTo ds n m = true) (hi : i < m) (hd : ds[i]? = some d) : itemB d n = true := by
  cases hb : itemB d n with
  | true => rfl
  | false =>
    have h1 : okTo ds n (i + 1) = false := by rw [okTo_step hd, hb]; simp
    rw [okTo_false h1 hi] at h
    cases h
theorem layoutB_at {u : Int} {ds : List It} (h : layoutB u ds = true) {i : Nat} {d : It} (hd : ds[i]? = some d) : 0 ≤ d.f0 ∧ d.f0 < d.f1 ∧ d.f1 ≤ u := by
  simp only [layoutB, Bool.and_eq_true] at h
  have := okTo_at h.2.1 (List.getElem?_eq_some_iff.1 hd).1 hd
  simp only [itemB, fieldB, Bool.and_eq_true, decide_eq_true_eq] at this
  exact this.2.2.1
theorem layoutB_width {u : Int} {ds : List It} (h : layoutB u ds = true) : 1 ≤ u ∧ u ≤ 20 := by
  simp only [layoutB, inB, Bool.and_eq_true, decide_eq_true_eq] at h
  exact h.1
theorem inB_meet (a b : Int) (c : Nat) : inB (c : Int) a (b - 1) = meetB a b (c : Int) ((c : Int) + 1) := by
  rw [inB, meetB, Bool.eq_iff_iff]
  simp only [Bool.and_eq_true, decide_eq_true_eq]
  omega

/-- the columns among the first k that no item has -/
def freeTo (ds : List It) (k : Nat) : List Int := ((List.range k).filter fun c : Nat => !meetTo ds (c : Int) ((c : Int) + 1) ds.length).map fun i : Nat => (i : Int)
theorem freeTo_zero (ds : List It) : freeTo ds 0 = [] := rfl
theorem freeTo_no (ds : List It) (k : Nat) (h : meetTo ds (k : Int) ((k : Int) + 1) ds.length = true) : freeTo ds (k + 1) = freeTo ds k := by
  simp [freeTo, List.range_succ, h]
theorem freeTo_yes (ds : List It) (k : Nat) (h : meetTo ds (k : Int) ((k : Int) + 1) ds.length = false) : freeTo ds (k + 1) = freeTo ds k ++ [(k : Int)] := by
  simp [freeTo, List.range_succ, h]
theorem freeTo_length (ds : List It) (k : Nat) : (freeTo ds k).length ≤ k := by
  have := List.length_filter_le (fun c : Nat => !meetTo ds (c : Int) ((c : Int) + 1) ds.length) (List.range k)
  simpa [freeTo] using this

/-- A list of numbers of the call's own, and OK. -/
def GivesList (ys : List Int) (w : World) (e : Ending) (w' : World) : Prop :=
  ∃ A cap, e = .returned (.tuple #[.slice A ys.length cap, .int .i64 0]) ∧ Below w.heap.size w w' ∧ (0 < ys.length → ∃ g ex, A = some ⟨g, 0, none⟩ ∧ w.heap.size ≤ g ∧ Row w' g ys ex)
/-- No list, and a code. -/
def GivesNoList (a : Int) (w : World) (e : Ending) (w' : World) : Prop :=
  e = .returned (.tuple #[.slice none 0 0, .int .i64 a]) ∧ Below w.heap.size w w'

theorem owned_list {w : World} {base n : Nat} {v : Value} {xs : List Int} (h : w.ownsRow base 2 1 v n (xs.map (Value.int .i64))) (hl : xs.length = n) :
    ∃ A cap, v = .slice A xs.length cap ∧ (0 < xs.length → ∃ g ex, A = some ⟨g, 0, none⟩ ∧ base ≤ g ∧ Row w g xs ex) := by
  by_cases h0 : 0 < n
  · obtain ⟨g, cap, ex, hv, hg, hr⟩ := owned_row h h0 hl
    exact ⟨_, cap, hv, fun _ => ⟨g, ex, rfl, hg, hr⟩⟩
  · have hn : n = 0 := by omega
    subst hn
    rcases h.2 with ⟨hv, _⟩ | ⟨g, cap, cur, hv, _⟩
    · exact ⟨none, 0, by rw [hl]; exact hv, fun hh => absurd hh (by omega)⟩
    · exact ⟨_, cap, by rw [hl]; exact hv, fun hh => absurd hh (by omega)⟩

/-- What an append of one number leaves. -/
theorem own_more {w w' : World} {base : Nat} {v v' : Value} {xs : List Int} {x : Int} {W : World} {B : Nat}
    (hown : w'.ownsRow base 2 1 v' (xs.length + 1) (xs.map (Value.int .i64) ++ [.int .i64 x])) (hgrow : (w.alloc (.cells #[.int .i64 x] 2)).grownBy w' v.ownBlock)
    (hold : w.ownsRow base 2 1 v xs.length (xs.map (Value.int .i64))) (hb : Below B W w) (hB : B ≤ base) (hs : B ≤ w.heap.size) :
    w'.ownsRow base 2 1 v' (xs ++ [x]).length ((xs ++ [x]).map (Value.int .i64)) ∧ Below B W w' := by
  refine ⟨by simpa using hown, ?_⟩
  exact (hb.alloc hs _).grown hgrow (by simp; omega) (fun k hk => Nat.le_trans hB (hold.lt k hk).1)

theorem own_keep {w w' : World} {base n size : Nat} {e : TypeId} {v : Value} {xs : List Value} (h : w.ownsRow base e size v n xs) (hb : Below w.heap.size w w') : w'.ownsRow base e size v n xs := by
  refine ⟨h.1, ?_⟩
  rcases h.2 with h0 | ⟨g, cap, cur, hv, hg, hh, rest⟩
  · exact Or.inl h0
  · refine Or.inr ⟨g, cap, cur, hv, hg, ?_, rest⟩
    have hlt : g < w.heap.size := by
      rcases Nat.lt_or_ge g w.heap.size with h' | h'
      · exact h'
      · rw [Array.getElem?_eq_none h'] at hh; cases hh
    rw [hb.block g hlt]
    exact hh

theorem specFree_bad (u : Int) (A : Option Addr) (c : Nat) (ds : List It) (B : Nat) (w : World) (h : Items w B A ds) (hB : B ≤ w.heap.size) (hn : ds.length ≤ 1048576) (hv : layoutB u ds = false) :
    Calls Try.prog 21 #[.agg #[.int .i64 u, .slice A ds.length c]] w (GivesNoList 1 w) := by
  have B0 := Lib.hid (below_box w (.cells #[.int .i64 u, .slice A ds.length c] 29))
  have x0 : (w.alloc (.cells #[.int .i64 u, .slice A ds.length c] 29)).cell? ⟨w.heap.size, 0, none⟩ = some (.int .i64 u) := by simp [go_sem]
  have x1 : (w.alloc (.cells #[.int .i64 u, .slice A ds.length c] 29)).cell? ⟨w.heap.size, 0 + 1, none⟩ = some (.slice A ds.length c) := by simp [go_sem]
  have HO := Lib.hid (l04Ok_any u A c ds B w.heap.size 0 _ x0 x1 (h.alloc hB _) (Nat.le_trans hB B0.out.size) hn)
  rw [hv] at HO
  obtain ⟨n, hN⟩ : ∃ n, ds.length = n := ⟨_, rfl⟩
  rw [hN] at hn HO B0 ⊢
  clear h hN x0 x1 hv
  go_enter Try.func21, Try.ntmps21
  go_wp2_with fail
  refine HO.out.mono ?_
  rintro e w1 ⟨rfl, hb⟩
  have HB := Lib.hid (below_step B0.out hb)
  clear hb
  go_wp2
  go_ret2
  exact ⟨rfl, HB.out⟩

set_option maxRecDepth 100000 in
set_option maxHeartbeats 4000000 in
theorem specFree_good (u : Int) (A : Option Addr) (c : Nat) (ds : List It) (B : Nat) (w : World) (h : Items w B A ds) (hB : B ≤ w.heap.size) (hn : ds.length ≤ 1048576) (hv : layoutB u ds = true) (m : Nat) (hm : u = m) :
    Calls Try.prog 21 #[.agg #[.int .i64 u, .slice A ds.length c]] w (GivesList (freeTo ds m) w) := by
  obtain ⟨i0, hi0, hz0, hz1, hz2⟩ := info_parts info_int64
  have hw := layoutB_width hv
  have hm20 : m ≤ 20 := by omega
  have HAT := Lib.hid (fun i d (hd : ds[i]? = some d) => layoutB_at hv hd)
  have B0 := Lib.hid (below_box w (.cells #[.int .i64 u, .slice A ds.length c] 29))
  have x0 : (w.alloc (.cells #[.int .i64 u, .slice A ds.length c] 29)).cell? ⟨w.heap.size, 0, none⟩ = some (.int .i64 u) := by simp [go_sem]
  have x1 : (w.alloc (.cells #[.int .i64 u, .slice A ds.length c] 29)).cell? ⟨w.heap.size, 0 + 1, none⟩ = some (.slice A ds.length c) := by simp [go_sem]
  have HO := Lib.hid (l04Ok_any u A c ds B w.heap.size 0 _ x0 x1 (h.alloc hB _) (Nat.le_trans hB B0.out.size) hn)
  rw [hv] at HO
  have H := Lib.hid h
  obtain ⟨n, hN⟩ : ∃ n, ds.length = n := ⟨_, rfl⟩
  rw [hN] at hn HO B0 x0 x1 ⊢
  have HN := Lib.hid hN
  have HC := Lib.hid in_any
  subst hm
  clear h hN hv hw
  go_enter Try.func21, Try.ntmps21
  go_wp2_with fail
  refine HO.out.mono ?_
  rintro e w1 ⟨rfl, hb⟩
  have B1 := Lib.hid (below_step B0.out hb)
  have p0 := cell_kept x0 hb
  have p1 := cell_kept x1 hb
  clear hb x0 x1 HO B0
  go_wp2
  go_loopw [4, 5] (fun v i wr => ∃ k : Nat, ∃ vv : Value, k ≤ m ∧ i = .int .i64 k ∧ vv = v ∧ Hid (wr.ownsRow w1.heap.size 2 1 v (freeTo ds k).length ((freeTo ds k).map (Value.int .i64))) ∧ Hid (Below w1.heap.size w1 wr)) (fun _ i _ => m - (intOf i).toNat)
  case atStart => exact ⟨0, _, Nat.zero_le _, rfl, rfl, empty_owned w1, (Below.refl _ _).alloc (Nat.le_refl _) _⟩
  case round =>
    obtain ⟨k, vv, hk, rfl, rfl, HW, HB⟩ := hrel
    have q0 := cell_kept p0 HB.out
    have q1 := cell_kept p1 HB.out
    by_cases hlt : k < m
    · have hk0 : (0 : Int) ≤ (k : Int) := Int.natCast_nonneg _
      have hk1 : (k : Int) < (m : Int) := by omega
      rename World => w2
      go_wp2
      go_loopw [6, 7] (fun fl i wr => ∃ j : Nat, j ≤ n ∧ i = .int .i64 j ∧ fl = .bool (!meetTo ds (k : Int) ((k : Int) + 1) j) ∧ Hid (Below w2.heap.size w2 wr)) (fun _ i _ => n - (intOf i).toNat)
      case atStart => exact ⟨0, Nat.zero_le _, rfl, rfl, Below.refl _ _⟩
      case round =>
        obtain ⟨j, hj, rfl, rfl, HB3⟩ := hrel
        rename World => w3
        have r1 := cell_kept q1 HB3.out
        have hBw : B ≤ w3.heap.size := Nat.le_trans hB (Nat.le_trans B1.out.size (Nat.le_trans HB.out.size HB3.out.size))
        have hj0 : (0 : Int) ≤ (j : Int) := Int.natCast_nonneg _
        by_cases hjl : j < n
        · have hj1 : (j : Int) < (n : Int) := by omega
          obtain ⟨d, hd⟩ : ∃ d, ds[j]? = some d := ⟨ds[j]'(by rw [HN.out]; exact hjl), List.getElem?_eq_getElem _⟩
          obtain ⟨g0, g1, g2⟩ := HAT.out j d hd
          obtain ⟨b, off, rfl, hb, e0, e1, e2, e3⟩ := (H.out.below ((below_step (below_step B1.out HB.out) HB3.out).mono hB)).at_ hd
          have hst := meetTo_step (a := (k : Int)) (b := (k : Int) + 1) hd
          rw [← inB_meet d.f0 d.f1 k] at hst
          have hC : ∀ W, Calls Try.prog 55 #[.int .i64 k, .int .i64 d.f0, .int .i64 (d.f1 - 1)] W fun e w' => e = .returned (.bool (inB (k : Int) d.f0 (d.f1 - 1))) ∧ w' = W := fun W => (HC.out (k : Int) d.f0 (d.f1 - 1) W).mono fun e w' hh => ⟨hh.1, hh.2.symm⟩
          obtain ⟨r, hr⟩ : ∃ r, inB (k : Int) d.f0 (d.f1 - 1) = r := ⟨_, rfl⟩
          rw [hr] at hst
          simp only [hr] at hC
          have HCC := Lib.hid hC
          have HST := Lib.hid hst
          obtain ⟨a0, ha0⟩ : ∃ a0, d.f0 = a0 := ⟨_, rfl⟩
          obtain ⟨a1, ha1⟩ : ∃ a1, d.f1 = a1 := ⟨_, rfl⟩
          rw [ha0] at e2 HCC g0 g1
          rw [ha1] at e3 HCC g1 g2
          have hw2 : IntKind.i64.wrap (a1 - 1) = a1 - 1 := IntWalk.i64_in _ (by omega)
          clear hst hC hr hd e0 e1 ha0 ha1 q0 q1
          obtain ⟨mt, hmt⟩ : ∃ mt, meetTo ds (k : Int) ((k : Int) + 1) j = mt := ⟨_, rfl⟩
          rw [hmt] at HST ⊢
          clear hmt
          cases r
          all_goals
            go_wp2
            go_quiet ((go_at_call 55; exact Calls.quiet_of_same (HCC.out _)))
            go_wp2
            go_roundw
            case rel => exact ⟨j + 1, by omega, by go_num, by rw [HST.out]; simp, below_drewN HB3.out _⟩
            case measure => simp [intOf]; omega
        · obtain rfl : j = n := by omega
          have hj1 : ¬ (j : Int) < (j : Int) := by omega
          have HW3 := Lib.hid (own_keep HW.out HB3.out)
          have HBB := Lib.hid (below_step HB.out HB3.out)
          have hwr : w1.heap.size ≤ w3.heap.size := HBB.out.size
          have hlen := freeTo_length ds k
          cases hmt : meetTo ds (k : Int) ((k : Int) + 1) j
          · have HI := Lib.hid (freeTo_yes ds k (by rw [HN.out]; exact hmt))
            obtain ⟨ys, hy⟩ : ∃ ys, freeTo ds k = ys := ⟨_, rfl⟩
            rw [hy] at HW3 HI hlen
            clear hmt hy HW HB q0 q1
            go_wp2_with (at_builtin; refine wpList_append_own _ rfl _ _ 49 rfl w1.heap.size 2 i0 (.int .i64 0) 1 8 Try.underlying49 hi0 hz0 hz1 hz2 rfl (by decide) _ _ _ rfl (HW3.out.alloc _) ⟨w3.heap.size, 0, none⟩ 1 1 [.int .i64 k] rfl rfl ?c1 ?c2 ?c3 ?c4 ?c5 ?_; rotate_left 5; intro v' w4 hown hgrow _; obtain ⟨ho, hbb⟩ := own_more hown hgrow HW3.out HBB.out (Nat.le_refl _) hwr; have HW1 := Lib.hid ho; have HB1 := Lib.hid hbb; clear hown hgrow ho hbb)
            case c2 => first | rfl | (intro u hu; simp at hu; subst hu; rfl)
            case c3 => unfold maxLen; omega
            case c4 => omega
            case c5 => first | omega | (simp; omega)
            go_roundw
            case rel => exact ⟨k + 1, _, by omega, by go_num, rfl, by rw [HI.out]; exact HW1, HB1⟩
            case measure => simp [intOf]; omega
          · have HI := Lib.hid (freeTo_no ds k (by rw [HN.out]; exact hmt))
            clear hmt HW HB q0 q1
            go_wp2
            go_roundw
            case rel => exact ⟨k + 1, _, by omega, by go_num, rfl, by rw [HI.out]; exact HW3, HBB⟩
            case measure => simp [intOf]; omega
    · have hkn : k = m := by omega
      have hk1 : ¬ (k : Int) < (m : Int) := by omega
      have HE : Hid (∃ A cap, vv = .slice A (freeTo ds m).length cap ∧ (0 < (freeTo ds m).length → ∃ g ex, A = some ⟨g, 0, none⟩ ∧ w1.heap.size ≤ g ∧ Row wr g (freeTo ds m) ex)) := by
        rw [← hkn]
        exact owned_list HW.out rfl
      have HF : Hid (Below w.heap.size w wr) := below_step B1.out HB.out
      have hw1 : w.heap.size ≤ w1.heap.size := B1.out.size
      clear hkn HW HB
      go_wp2
      go_ret2
      obtain ⟨A', cap, hv, hr⟩ := HE.out
      refine ⟨A', cap, by rw [← hv]; rfl, HF.out, fun h0 => ?_⟩
      obtain ⟨g, ex, hA, hg, hrow⟩ := hr h0
      exact ⟨g, ex, hA, by omega, hrow⟩
theorem implFree_bad (u : Int) (A : Option Addr) (c : Nat) (ds : List It) (B : Nat) (w : World) (h : Items w B A ds) (hB : B ≤ w.heap.size) (hn : ds.length ≤ 1048576) (hc : ds.length ≤ c) (hs : ∀ d ∈ ds, d.name.size ≤ 1048576) (hv : layoutB u ds = false) :
    Calls Try.prog 22 #[.agg #[.int .i64 u, .slice A ds.length c]] w (GivesNoList 1 w) := by
  have B0 := Lib.hid (below_box w (.cells #[.int .i64 u, .slice A ds.length c] 29))
  have HO := Lib.hid (implValidL_any u A c ds B _ (h.alloc hB (.cells #[.int .i64 u, .slice A ds.length c] 29)) (Nat.le_trans hB B0.out.size) hn hc hs)
  rw [hv] at HO
  obtain ⟨n, hN⟩ : ∃ n, ds.length = n := ⟨_, rfl⟩
  rw [hN] at hn HO B0 ⊢
  clear h hN hv hs hc
  go_enter Try.func22, Try.ntmps22
  go_wp2_with fail
  refine HO.out.mono ?_
  rintro e w1 ⟨rfl, hb⟩
  have HB := Lib.hid (below_step B0.out hb)
  clear hb
  go_wp2
  go_ret2
  exact ⟨rfl, HB.out⟩

set_option maxHeartbeats 1000000 in
theorem implFree_good (u : Int) (A : Option Addr) (c : Nat) (ds : List It) (B : Nat) (w : World) (h : Items w B A ds) (hB : B ≤ w.heap.size) (hn : ds.length ≤ 1048576) (hc : ds.length ≤ c) (hs : ∀ d ∈ ds, d.name.size ≤ 1048576) (hv : layoutB u ds = true) (m : Nat) (hm : u = m) :
    Calls Try.prog 22 #[.agg #[.int .i64 u, .slice A ds.length c]] w (GivesList (freeTo ds m) w) := by
  obtain ⟨i0, hi0, hz0, hz1, hz2⟩ := info_parts info_int64
  have hw := layoutB_width hv
  have hm20 : m ≤ 20 := by omega
  have B0 := Lib.hid (below_box w (.cells #[.int .i64 u, .slice A ds.length c] 29))
  have x0 : (w.alloc (.cells #[.int .i64 u, .slice A ds.length c] 29)).cell? ⟨w.heap.size, 0, none⟩ = some (.int .i64 u) := by simp [go_sem]
  have x1 : (w.alloc (.cells #[.int .i64 u, .slice A ds.length c] 29)).cell? ⟨w.heap.size, 1, none⟩ = some (.slice A ds.length c) := by simp [go_sem]
  have HO := Lib.hid (implValidL_any u A c ds B _ (h.alloc hB (.cells #[.int .i64 u, .slice A ds.length c] 29)) (Nat.le_trans hB B0.out.size) hn hc hs)
  rw [hv] at HO
  have hT := fun (a b : Int) (W : World) (hW : Below w.heap.size w W) => isTaken_any A c ds B a b W (h.below (hW.mono hB)) (Nat.le_trans hB hW.size) hn
  obtain ⟨n, hN⟩ : ∃ n, ds.length = n := ⟨_, rfl⟩
  rw [hN] at hn HO B0 x0 x1 hT ⊢
  have HN := Lib.hid hN
  have HT := Lib.hid hT
  subst hm
  clear h hN hv hw hT hs hc
  go_enter Try.func22, Try.ntmps22
  go_wp2_with fail
  refine HO.out.mono ?_
  rintro e w1 ⟨rfl, hb⟩
  have B1 := Lib.hid (below_step B0.out hb)
  have p0 := cell_kept x0 hb
  have p1 := cell_kept x1 hb
  clear hb x0 x1 HO B0
  go_wp2
  go_loopw [4, 11] (fun v i wr => ∃ k : Nat, ∃ vv : Value, k ≤ m ∧ i = .int .i64 k ∧ vv = v ∧ Hid (wr.ownsRow w1.heap.size 2 1 v (freeTo ds k).length ((freeTo ds k).map (Value.int .i64))) ∧ Hid (Below w1.heap.size w1 wr)) (fun _ i _ => m - (intOf i).toNat)
  case atStart => exact ⟨0, _, Nat.zero_le _, rfl, rfl, ⟨rfl, Or.inl ⟨rfl, rfl⟩⟩, Below.refl _ _⟩
  case round =>
    obtain ⟨k, vv, hk, rfl, rfl, HW, HB⟩ := hrel
    have q0 := cell_kept p0 HB.out
    have q1 := cell_kept p1 HB.out
    by_cases hlt : k < m
    · have hk0 : (0 : Int) ≤ (k : Int) := Int.natCast_nonneg _
      have hk1 : (k : Int) < (m : Int) := by omega
      have hkw : IntKind.i64.wrap ((k : Int) + 1) = (k : Int) + 1 := IntWalk.i64_in _ (by omega)
      have HT1 := Lib.hid (HT.out (k : Int) ((k : Int) + 1) _ (below_step B1.out HB.out))
      have hlen := freeTo_length ds k
      have hbw : w1.heap.size ≤ wr.heap.size := HB.out.size
      rename World => w2
      cases hmt : meetTo ds (k : Int) ((k : Int) + 1) n
      · rw [hmt] at HT1
        have HI := Lib.hid (freeTo_yes ds k (by rw [HN.out]; exact hmt))
        obtain ⟨ys, hy⟩ : ∃ ys, freeTo ds k = ys := ⟨_, rfl⟩
        rw [hy] at HW HI hlen
        clear hmt hy q0
        go_wp2_with fail
        refine HT1.out.mono ?_
        rintro e w3 ⟨rfl, hb⟩
        have HW3 := Lib.hid (own_keep HW.out hb)
        have HBB := Lib.hid (below_step HB.out hb)
        have hwr : w1.heap.size ≤ w3.heap.size := Nat.le_trans hbw hb.size
        clear hb HW HB HT1 q1
        go_wp2_with (at_builtin; refine wpList_append_own _ rfl _ _ 49 rfl w1.heap.size 2 i0 (.int .i64 0) 1 8 Try.underlying49 hi0 hz0 hz1 hz2 rfl (by decide) _ _ _ rfl (HW3.out.alloc _) ⟨w3.heap.size, 0, none⟩ 1 1 [.int .i64 k] rfl rfl ?c1 ?c2 ?c3 ?c4 ?c5 ?_; rotate_left 5; intro v' w4 hown hgrow _; obtain ⟨ho, hbb⟩ := own_more hown hgrow HW3.out HBB.out (Nat.le_refl _) hwr; have HW1 := Lib.hid ho; have HB1 := Lib.hid hbb; clear hown hgrow ho hbb)
        case c1 =>
          intro j u hj
          match j, hj with
          | 0, hj => simp at hj; subst hj; simp [Addr.add]
        case c2 => intro u hu; simp at hu; subst hu; rfl
        case c3 => unfold maxLen; omega
        case c4 => omega
        case c5 => simp; omega
        go_roundw
        case rel => exact ⟨k + 1, _, by omega, by go_num, rfl, by rw [HI.out]; exact HW1, HB1⟩
        case measure => simp [intOf]; omega
      · rw [hmt] at HT1
        have HI := Lib.hid (freeTo_no ds k (by rw [HN.out]; exact hmt))
        clear hmt q0
        go_wp2_with fail
        refine HT1.out.mono ?_
        rintro e w3 ⟨rfl, hb⟩
        have HW3 := Lib.hid (own_keep HW.out hb)
        have HBB := Lib.hid (below_step HB.out hb)
        clear hb HW HB HT1 q1
        go_wp2
        go_roundw
        case rel => exact ⟨k + 1, _, by omega, by go_num, rfl, by rw [HI.out]; exact HW3, HBB⟩
        case measure => simp [intOf]; omega
    · have hkn : k = m := by omega
      have hk1 : ¬ (k : Int) < (m : Int) := by omega
      have HE : Hid (∃ A cap, vv = .slice A (freeTo ds m).length cap ∧ (0 < (freeTo ds m).length → ∃ g ex, A = some ⟨g, 0, none⟩ ∧ w1.heap.size ≤ g ∧ Row wr g (freeTo ds m) ex)) := by
        rw [← hkn]
        exact owned_list HW.out rfl
      have HF : Hid (Below w.heap.size w wr) := below_step B1.out HB.out
      have hw1 : w.heap.size ≤ w1.heap.size := B1.out.size
      clear hkn HW HB
      go_wp2
      go_ret2
      obtain ⟨A', cap, hv, hr⟩ := HE.out
      refine ⟨A', cap, by rw [← hv]; rfl, HF.out, fun h0 => ?_⟩
      obtain ⟨g, ex, hA, hg, hrow⟩ := hr h0
      exact ⟨g, ex, hA, by omega, hrow⟩
end Go.Proofs.Ytjglnljogpdcnaa
