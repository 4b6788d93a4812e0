/- spec.IllegalColumns and impl.IllegalColumns give the columns without a character, or the code, for every card of at most 1048576 columns: contracts. -/
import Derived.Test.YthkfdfocghmmeabDoorChars
import Derived.Test.YthkfdfocghmmeabDoorGrow
namespace Go.Proofs.YthkfdfocghmmeabDoor
open Go.ChangeShapes Go.WideShapes Go.ChangeAt Go.RowKit

/-- the columns without a character among the first k -/
def illTo (xs : List Int) (k : Nat) : List Int := ((List.range k).filter fun i => !charOk (xs[i]?.getD 0)).map fun i : Nat => (i : Int)
theorem illTo_zero (xs : List Int) : illTo xs 0 = [] := rfl
theorem illTo_ok (xs : List Int) (k : Nat) (h : charOk (xs[k]?.getD 0) = true) : illTo xs (k + 1) = illTo xs k := by
  simp [illTo, List.range_succ, h]
theorem illTo_bad (xs : List Int) (k : Nat) (h : charOk (xs[k]?.getD 0) = false) : illTo xs (k + 1) = illTo xs k ++ [(k : Int)] := by
  simp [illTo, List.range_succ, h]
theorem illTo_length (xs : List Int) (k : Nat) : (illTo xs k).length ≤ k := by
  have := List.length_filter_le (fun i => !charOk (xs[i]?.getD 0)) (List.range k)
  simpa [illTo] using this

theorem implIll_bad (A : Option Addr) (c : Nat) (xs : List Int) (B : Nat) (w : World) (h : Ints w B A xs) (hB : B ≤ w.heap.size) (hn : xs.length ≤ 1048576) (hv : okB xs = false) :
    Calls Tryd.prog 20 #[.agg #[.slice A xs.length c]] w (GivesNoList 1 w) := by
  have hok := implValidCard_any A c xs B (w.alloc (.cells #[.slice A xs.length c] 26)) (h.alloc hB _) (by simp; omega) hn
  rw [hv] at hok
  have HO := Lib.hid hok
  clear hok hv h hn
  go_enter Tryd.func20, Tryd.ntmps20
  go_wp2_with fail
  refine HO.out.mono ?_
  rintro e w1 ⟨rfl, hb⟩
  have B1 := Lib.hid (below_step (below_box w _) hb)
  clear hb
  go_wp2
  go_ret2
  exact ⟨rfl, B1.out⟩

theorem implIll_good (A : Option Addr) (c : Nat) (xs : List Int) (B : Nat) (w : World) (h : Ints w B A xs) (hB : B ≤ w.heap.size) (hn : xs.length ≤ 1048576) (hv : okB xs = true) :
    Calls Tryd.prog 20 #[.agg #[.slice A xs.length c]] w (GivesList (illTo xs xs.length) w) := by
  obtain ⟨i0, hi0, hz0, hz1, hz2⟩ := info_parts info_int64
  have hok := implValidCard_any A c xs B (w.alloc (.cells #[.slice A xs.length c] 26)) (h.alloc hB _) (by simp; omega) hn
  rw [hv] at hok
  obtain ⟨hleg, hn20⟩ := okB_parts hv
  obtain ⟨n, hN⟩ : ∃ n, xs.length = n := ⟨_, rfl⟩
  rw [hN] at hok hn hn20 ⊢
  have HO := Lib.hid hok
  have HN := Lib.hid hN
  have H0 := Lib.hid h
  have HC := Lib.hid implCharOf_any
  clear hok hv h hN hleg
  go_enter Tryd.func20, Tryd.ntmps20
  go_wp2_with fail
  refine HO.out.mono ?_
  rintro e w1 ⟨rfl, hb⟩
  have B1 := Lib.hid (below_step (below_box w _) hb)
  have c1 := cell_kept (p := ⟨w.heap.size, 0, none⟩) (v := .slice A n c) (by simp) hb
  have H := Lib.hid (H0.out.below (B1.out.mono hB))
  have hBs : B ≤ w1.heap.size := Nat.le_trans hB B1.out.size
  clear hb H0 HO
  go_wp2
  clear c1
  go_loopw [4, 15] (fun v i wr => ∃ k : Nat, ∃ vv : Value, k ≤ n ∧ i = .int .i64 k ∧ vv = v ∧ Hid (wr.ownsRow w1.heap.size 2 1 v (illTo xs k).length ((illTo xs k).map (Value.int .i64))) ∧ Hid (Below w1.heap.size w1 wr)) (fun _ i _ => n - (intOf i).toNat)
  case atStart => exact ⟨0, _, Nat.zero_le _, rfl, rfl, ⟨rfl, Or.inl ⟨rfl, rfl⟩⟩, Below.refl _ _⟩
  case round =>
    obtain ⟨k, vv, hk, rfl, rfl, HW, HB⟩ := hrel
    have hwr : w1.heap.size ≤ wr.heap.size := HB.out.size
    by_cases hlt : k < n
    · have hx : k < xs.length := by rw [HN.out]; exact hlt
      obtain ⟨b, off, rfl, hb, hcell⟩ := (H.out.below (HB.out.mono hBs)) (by omega)
      have h1 := hcell k hx
      obtain ⟨x, hxx⟩ : ∃ x, xs[k]?.getD 0 = x := ⟨_, rfl⟩
      rw [hxx] at h1
      have Hx := Lib.hid hxx
      have hk0 : (0 : Int) ≤ (k : Int) := Int.natCast_nonneg _
      have hk1 : (k : Int) < (n : Int) := by omega
      have hc := fun W => HC.out x W
      have hlen := illTo_length xs k
      obtain ⟨cv, hcv⟩ : ∃ cv, charV x = cv := ⟨_, rfl⟩
      rw [hcv] at hc
      clear hcell hxx hx H hb hcv
      cases hm : charOk x
      · rw [hm] at hc
        have HX := Lib.hid hc
        have HI := Lib.hid (illTo_bad xs k (by rw [Hx.out]; exact hm))
        obtain ⟨ys, hy⟩ : ∃ ys, illTo xs k = ys := ⟨_, rfl⟩
        rw [hy] at HW HI hlen
        clear hc hm hy
        go_wp2_with (first | (go_at_call 43; refine (HX.out _).mono ?_; rintro e w' ⟨rfl, rfl⟩) | (at_builtin; refine wpList_append_own _ rfl _ _ 24 rfl w1.heap.size 2 i0 (.int .i64 0) 1 8 Tryd.underlying24 hi0 hz0 hz1 hz2 rfl (by decide) _ _ _ rfl (HW.out.alloc _) ⟨wr.heap.size, 0, none⟩ 1 1 [.int .i64 k] rfl rfl ?c1 ?c2 ?c3 ?c4 ?c5 ?_; rotate_left 5; intro v' w2 hown hgrow _; obtain ⟨ho, hbb⟩ := own_more hown hgrow HW.out HB.out (Nat.le_refl _) hwr; have HW1 := Lib.hid ho; have HB1 := Lib.hid hbb; clear hown hgrow ho hbb))
        case c1 =>
          intro j u hj
          match j, hj with
          | 0, hj => simp at hj; subst hj; simp [Addr.add]
        case c2 => intro u hu; simp at hu; subst hu; rfl
        case c3 => unfold maxLen; omega
        case c4 => omega
        case c5 => simp; omega
        go_roundw
        case rel => exact ⟨k + 1, _, by omega, by go_num, rfl, by rw [HI.out]; exact HW1, HB1⟩
        case measure => simp [intOf]; omega
      · rw [hm] at hc
        have HX := Lib.hid hc
        have HI := Lib.hid (illTo_ok xs k (by rw [Hx.out]; exact hm))
        clear hc hm
        go_wp2_with (go_at_call 43; refine (HX.out _).mono ?_; rintro e w' ⟨rfl, rfl⟩)
        go_roundw
        case rel => exact ⟨k + 1, _, by omega, by go_num, rfl, by rw [HI.out]; exact HW, HB⟩
        case measure => simp [intOf]; omega
    · have hkn : k = n := by omega
      have hk1 : ¬ (k : Int) < (n : Int) := by omega
      have HE : Hid (∃ A cap, vv = .slice A (illTo xs n).length cap ∧ (0 < (illTo xs n).length → ∃ g ex, A = some ⟨g, 0, none⟩ ∧ w1.heap.size ≤ g ∧ Row wr g (illTo xs n) ex)) := by
        rw [← hkn]
        exact owned_list HW.out rfl
      have HF : Hid (Below w.heap.size w wr) := below_step B1.out HB.out
      have hw1 : w.heap.size ≤ w1.heap.size := B1.out.size
      clear hkn HW HB
      go_wp2
      go_ret2
      obtain ⟨A', cap, hv, hr⟩ := HE.out
      refine ⟨A', cap, by rw [← hv]; rfl, HF.out, fun h0 => ?_⟩
      obtain ⟨g, ex, hA, hg, hrow⟩ := hr h0
      exact ⟨g, ex, hA, by omega, hrow⟩
end Go.Proofs.YthkfdfocghmmeabDoor
