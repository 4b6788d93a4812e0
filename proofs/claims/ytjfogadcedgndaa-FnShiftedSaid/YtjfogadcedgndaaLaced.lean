/- spec.LacedColumns and impl.LacedColumns give the columns with all holes, or the code, for every card of at most 1048576 columns: contracts. -/
import Derived.Test.YtjfogadcedgndaaSh2
namespace Go.Proofs.Ytjfogadcedgndaa
open Go.ChangeShapes Go.WideShapes Go.ChangeAt Go.RowKit

/-- whether a column has all holes -/
def laceQ (xs : List Int) (k : Nat) : Bool := xs[k]?.getD 0 == 4095

theorem specLaced_bad (A : Option Addr) (c : Nat) (xs : List Int) (B : Nat) (w : World) (h : Ints w B A xs) (hB : B ≤ w.heap.size) (hn : xs.length ≤ 1048576) (hv : okB xs = false) :
    Calls Try.prog 39 #[.agg #[.slice A xs.length c]] w (GivesNoList 1 w) := by
  have hok := l02Ok_any A c xs B w.heap.size 0 (w.alloc (.cells #[.slice A xs.length c] 26)) (by simp) (h.alloc hB _) hn
  rw [hv] at hok
  have HO := Lib.hid hok
  clear hok hv h hn
  go_enter Try.func39, Try.ntmps39
  go_wp2_with fail
  refine HO.out.mono ?_
  rintro e w' ⟨rfl, rfl⟩
  go_wp2
  go_ret2
  exact ⟨rfl, below_box w _⟩

theorem specLaced_good (A : Option Addr) (c : Nat) (xs : List Int) (B : Nat) (w : World) (h : Ints w B A xs) (hB : B ≤ w.heap.size) (hn : xs.length ≤ 1048576) (hv : okB xs = true) :
    Calls Try.prog 39 #[.agg #[.slice A xs.length c]] w (GivesList (selTo (laceQ xs) xs.length) w) := by
  obtain ⟨i0, hi0, hz0, hz1, hz2⟩ := info_parts info_int64
  have hok := l02Ok_any A c xs B w.heap.size 0 (w.alloc (.cells #[.slice A xs.length c] 26)) (by simp) (h.alloc hB _) hn
  rw [hv] at hok
  obtain ⟨hleg, hn20⟩ := okB_parts hv
  obtain ⟨n, hN⟩ : ∃ n, xs.length = n := ⟨_, rfl⟩
  rw [hN] at hok hn hn20 ⊢
  have HO := Lib.hid hok
  have HN := Lib.hid hN
  have H := Lib.hid (h.alloc hB (.cells #[.slice A n c] 26))
  have hBs : B ≤ w.heap.size + 1 := by omega
  clear hok hv h hN hleg
  go_enter Try.func39, Try.ntmps39
  go_wp2_with fail
  refine HO.out.mono ?_
  rintro e w' ⟨rfl, rfl⟩
  go_wp2
  go_loopw [4, 5] (fun v i wr => ∃ k : Nat, ∃ vv : Value, k ≤ n ∧ i = .int .i64 k ∧ vv = v ∧ Hid (wr.ownsRow (w.heap.size + 1) 2 1 v (selTo (laceQ xs) k).length ((selTo (laceQ xs) k).map (Value.int .i64))) ∧ Hid (Below (w.heap.size + 1) (w.alloc (.cells #[.slice A n c] 26)) wr)) (fun _ i _ => n - (intOf i).toNat)
  case atStart =>
    refine ⟨0, _, Nat.zero_le _, rfl, rfl, ?_, ?_⟩
    · exact ⟨rfl, Or.inr ⟨w.heap.size + 1, 0, #[], rfl, Nat.le_refl _, by have := heap_alloc_new (w.alloc (.cells #[.slice A n c] 26)) (.cells #[] 2); simpa using this, Nat.le_refl _, Nat.zero_le _, rfl, rfl⟩⟩
    · exact (Below.refl _ _).alloc (by simp) _
  case round =>
    obtain ⟨k, vv, hk, rfl, rfl, HW, HB⟩ := hrel
    have hbox : wr.cell? ⟨w.heap.size, 0, none⟩ = some (.slice A n c) := by rw [HB.out.cell (by simp)]; simp
    have hwr : w.heap.size + 1 ≤ wr.heap.size := by have := HB.out.size; simpa using this
    by_cases hlt : k < n
    · have hx : k < xs.length := by rw [HN.out]; exact hlt
      obtain ⟨b, off, rfl, hb, hcell⟩ := (H.out.below (HB.out.mono hBs)) (by omega)
      have h1 := hcell k hx
      have hq : laceQ xs k = (xs[k]?.getD 0 == 4095) := rfl
      obtain ⟨x, hxx⟩ : ∃ x, xs[k]?.getD 0 = x := ⟨_, rfl⟩
      rw [hxx] at h1 hq
      have hk0 : (0 : Int) ≤ (k : Int) := Int.natCast_nonneg _
      have hk1 : (k : Int) < (n : Int) := by omega
      have hlen := selTo_length (laceQ xs) k
      clear hcell hxx hx H hb
      cases hm : (x == 4095)
      · rw [hm] at hq
        have HI := Lib.hid (selTo_no (laceQ xs) k hq)
        clear hq
        go_wp2
        go_roundw
        case rel => exact ⟨k + 1, _, by omega, by go_num, rfl, by rw [HI.out]; exact HW, HB⟩
        case measure => simp [intOf]; omega
      · rw [hm] at hq
        have HI := Lib.hid (selTo_yes (laceQ xs) k hq)
        obtain ⟨ys, hy⟩ : ∃ ys, selTo (laceQ xs) k = ys := ⟨_, rfl⟩
        rw [hy] at HW HI hlen
        clear hq hy
        go_wp2_with (at_builtin; refine wpList_append_own _ rfl _ _ 24 rfl (w.heap.size + 1) 2 i0 (.int .i64 0) 1 8 Try.underlying24 hi0 hz0 hz1 hz2 rfl (by decide) _ _ _ rfl (HW.out.alloc _) ⟨wr.heap.size, 0, none⟩ 1 1 [.int .i64 k] rfl rfl ?c1 ?c2 ?c3 ?c4 ?c5 ?_; rotate_left 5; intro v' w9 hown hgrow _; obtain ⟨ho, hbb⟩ := own_more hown hgrow HW.out HB.out (Nat.le_refl _) hwr; have HW1 := Lib.hid ho; have HB1 := Lib.hid hbb; clear hown hgrow ho hbb)
        case c1 =>
          intro j u hj
          match j, hj with
          | 0, hj => simp at hj; subst hj; simp [Addr.add]
        case c2 => intro u hu; simp at hu; subst hu; rfl
        case c3 => unfold maxLen; omega
        case c4 => omega
        case c5 => simp; omega
        go_roundw
        case rel => exact ⟨k + 1, _, by omega, by go_num, rfl, by rw [HI.out]; exact HW1, HB1⟩
        case measure => simp [intOf]; omega
    · have hkn : k = n := by omega
      have hk1 : ¬ (k : Int) < (n : Int) := by omega
      have HE : Hid (∃ A cap, vv = .slice A (selTo (laceQ xs) n).length cap ∧ (0 < (selTo (laceQ xs) n).length → ∃ g ex, A = some ⟨g, 0, none⟩ ∧ w.heap.size + 1 ≤ g ∧ Row wr g (selTo (laceQ xs) n) ex)) := by
        rw [← hkn]
        exact owned_list HW.out rfl
      have HF : Hid (Below w.heap.size w wr) := (below_box w _).trans (HB.out.mono (by omega))
      clear hkn HW HB
      go_wp2
      go_ret2
      obtain ⟨A', cap, hv, hr⟩ := HE.out
      refine ⟨A', cap, by rw [← hv]; rfl, HF.out, fun h0 => ?_⟩
      obtain ⟨g, ex, hA, hg, hrow⟩ := hr h0
      exact ⟨g, ex, hA, by omega, hrow⟩

theorem implLaced_bad (A : Option Addr) (c : Nat) (xs : List Int) (B : Nat) (w : World) (h : Ints w B A xs) (hB : B ≤ w.heap.size) (hn : xs.length ≤ 1048576) (hv : okB xs = false) :
    Calls Try.prog 38 #[.agg #[.slice A xs.length c]] w (GivesNoList 1 w) := by
  have hok := implValidCard_any A c xs B (w.alloc (.cells #[.slice A xs.length c] 26)) (h.alloc hB _) (by simp; omega) hn
  rw [hv] at hok
  have HO := Lib.hid hok
  clear hok hv h hn
  go_enter Try.func38, Try.ntmps38
  go_wp2_with fail
  refine HO.out.mono ?_
  rintro e w1 ⟨rfl, hb⟩
  have B1 := Lib.hid (below_step (below_box w _) hb)
  clear hb
  go_wp2
  go_ret2
  exact ⟨rfl, B1.out⟩

theorem implLaced_good (A : Option Addr) (c : Nat) (xs : List Int) (B : Nat) (w : World) (h : Ints w B A xs) (hB : B ≤ w.heap.size) (hn : xs.length ≤ 1048576) (hv : okB xs = true) :
    Calls Try.prog 38 #[.agg #[.slice A xs.length c]] w (GivesList (selTo (laceQ xs) xs.length) w) := by
  obtain ⟨i0, hi0, hz0, hz1, hz2⟩ := info_parts info_int64
  have hok := implValidCard_any A c xs B (w.alloc (.cells #[.slice A xs.length c] 26)) (h.alloc hB _) (by simp; omega) hn
  rw [hv] at hok
  obtain ⟨hleg, hn20⟩ := okB_parts hv
  obtain ⟨n, hN⟩ : ∃ n, xs.length = n := ⟨_, rfl⟩
  rw [hN] at hok hn hn20 ⊢
  have HO := Lib.hid hok
  have HN := Lib.hid hN
  have H0 := Lib.hid h
  clear hok hv h hN hleg
  go_enter Try.func38, Try.ntmps38
  go_wp2_with fail
  refine HO.out.mono ?_
  rintro e w1 ⟨rfl, hb⟩
  have B1 := Lib.hid (below_step (below_box w _) hb)
  have c1 := cell_kept (p := ⟨w.heap.size, 0, none⟩) (v := .slice A n c) (by simp) hb
  have H := Lib.hid (H0.out.below (B1.out.mono hB))
  have hBs : B ≤ w1.heap.size := Nat.le_trans hB B1.out.size
  clear hb H0 HO
  go_wp2
  clear c1
  go_loopw [4, 13] (fun v i wr => ∃ k : Nat, ∃ vv : Value, k ≤ n ∧ i = .int .i64 k ∧ vv = v ∧ Hid (wr.ownsRow (w1.heap.size) 2 1 v (selTo (laceQ xs) k).length ((selTo (laceQ xs) k).map (Value.int .i64))) ∧ Hid (Below (w1.heap.size) w1 wr)) (fun _ i _ => n - (intOf i).toNat)
  case atStart =>
    exact ⟨0, _, Nat.zero_le _, rfl, rfl, ⟨rfl, Or.inl ⟨rfl, rfl⟩⟩, Below.refl _ _⟩
  case round =>
    obtain ⟨k, vv, hk, rfl, rfl, HW, HB⟩ := hrel
    have hwr : w1.heap.size ≤ wr.heap.size := HB.out.size
    by_cases hlt : k < n
    · have hx : k < xs.length := by rw [HN.out]; exact hlt
      obtain ⟨b, off, rfl, hb, hcell⟩ := (H.out.below (HB.out.mono hBs)) (by omega)
      have h1 := hcell k hx
      have hq : laceQ xs k = (xs[k]?.getD 0 == 4095) := rfl
      obtain ⟨x, hxx⟩ : ∃ x, xs[k]?.getD 0 = x := ⟨_, rfl⟩
      rw [hxx] at h1 hq
      have hk0 : (0 : Int) ≤ (k : Int) := Int.natCast_nonneg _
      have hk1 : (k : Int) < (n : Int) := by omega
      have hlen := selTo_length (laceQ xs) k
      clear hcell hxx hx H hb
      cases hm : (x == 4095)
      · rw [hm] at hq
        have HI := Lib.hid (selTo_no (laceQ xs) k hq)
        clear hq
        go_wp2
        go_roundw
        case rel => exact ⟨k + 1, _, by omega, by go_num, rfl, by rw [HI.out]; exact HW, HB⟩
        case measure => simp [intOf]; omega
      · rw [hm] at hq
        have HI := Lib.hid (selTo_yes (laceQ xs) k hq)
        obtain ⟨ys, hy⟩ : ∃ ys, selTo (laceQ xs) k = ys := ⟨_, rfl⟩
        rw [hy] at HW HI hlen
        clear hq hy
        go_wp2_with (at_builtin; refine wpList_append_own _ rfl _ _ 24 rfl (w1.heap.size) 2 i0 (.int .i64 0) 1 8 Try.underlying24 hi0 hz0 hz1 hz2 rfl (by decide) _ _ _ rfl (HW.out.alloc _) ⟨wr.heap.size, 0, none⟩ 1 1 [.int .i64 k] rfl rfl ?c1 ?c2 ?c3 ?c4 ?c5 ?_; rotate_left 5; intro v' w9 hown hgrow _; obtain ⟨ho, hbb⟩ := own_more hown hgrow HW.out HB.out (Nat.le_refl _) hwr; have HW1 := Lib.hid ho; have HB1 := Lib.hid hbb; clear hown hgrow ho hbb)
        case c1 =>
          intro j u hj
          match j, hj with
          | 0, hj => simp at hj; subst hj; simp [Addr.add]
        case c2 => intro u hu; simp at hu; subst hu; rfl
        case c3 => unfold maxLen; omega
        case c4 => omega
        case c5 => simp; omega
        go_roundw
        case rel => exact ⟨k + 1, _, by omega, by go_num, rfl, by rw [HI.out]; exact HW1, HB1⟩
        case measure => simp [intOf]; omega
    · have hkn : k = n := by omega
      have hk1 : ¬ (k : Int) < (n : Int) := by omega
      have HE : Hid (∃ A cap, vv = .slice A (selTo (laceQ xs) n).length cap ∧ (0 < (selTo (laceQ xs) n).length → ∃ g ex, A = some ⟨g, 0, none⟩ ∧ w1.heap.size ≤ g ∧ Row wr g (selTo (laceQ xs) n) ex)) := by
        rw [← hkn]
        exact owned_list HW.out rfl
      have HF : Hid (Below w.heap.size w wr) := below_step B1.out HB.out
      have hw1 : w.heap.size ≤ w1.heap.size := B1.out.size
      clear hkn HW HB
      go_wp2
      go_ret2
      obtain ⟨A', cap, hv, hr⟩ := HE.out
      refine ⟨A', cap, by rw [← hv]; rfl, HF.out, fun h0 => ?_⟩
      obtain ⟨g, ex, hA, hg, hrow⟩ := hr h0
      exact ⟨g, ex, hA, by omega, hrow⟩

end Go.Proofs.Ytjfogadcedgndaa
