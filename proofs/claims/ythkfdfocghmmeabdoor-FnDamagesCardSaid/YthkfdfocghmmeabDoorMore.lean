/- spec.AddedHoles, spec.LostHoles, impl.AddedHoles and impl.LostHoles give the columns in which one card has holes that the other one has not, or the code, for all cards of at most 1048576 columns: contracts. -/
import Derived.Test.YthkfdfocghmmeabDoorGrow
import Derived.Test.YthkfdfocghmmeabDoorPair
namespace Go.Proofs.YthkfdfocghmmeabDoor
open Go.ChangeShapes Go.WideShapes Go.ChangeAt Go.RowKit

/-- whether a column has holes that another one has not -/
def moreQ (xs ys : List Int) (k : Nat) : Bool := bits .andNot .i64 (xs[k]?.getD 0) (ys[k]?.getD 0) != 0
theorem pairCode_comm (xs ys : List Int) : pairCode xs ys = pairCode ys xs := by
  rcases pairCode_cases xs ys with ⟨e, hv⟩ | ⟨e, hv, hv'⟩ | ⟨e, hv, hv', hl⟩ | ⟨e, hv, hv', hl⟩
  · rw [e, pairCode]
    cases h : okB ys
    · rw [if_pos rfl]
    · rw [if_neg (by decide), if_pos hv]
  · rw [e, pairCode, if_pos hv']
  · rw [e, pairCode, hv, hv', if_neg (by decide), if_neg (by decide), if_neg (fun h => hl h.symm)]
  · rw [e, pairCode, hv, hv', if_neg (by decide), if_neg (by decide), if_pos hl.symm]
/-- A list of numbers of the call's own. -/
def GivesL (ys : List Int) (w : World) (e : Ending) (w' : World) : Prop :=
  ∃ A cap, e = .returned (.slice A ys.length cap) ∧ Below w.heap.size w w' ∧ (0 < ys.length → ∃ g ex, A = some ⟨g, 0, none⟩ ∧ w.heap.size ≤ g ∧ Row w' g ys ex)

theorem l06More_any (A A' : Option Addr) (c c' : Nat) (xs ys : List Int) (B B' p o q o' : Nat) (w : World) (hp : w.cell? ⟨p, o, none⟩ = some (.slice A xs.length c)) (hq : w.cell? ⟨q, o', none⟩ = some (.slice A' ys.length c')) (h : Ints w B A xs) (h' : Ints w B' A' ys) (hB : B ≤ w.heap.size) (hB' : B' ≤ w.heap.size) (hn : xs.length ≤ 1048576) (hl : xs.length = ys.length) :
    Calls Tryd.prog 26 #[.pointer (some ⟨p, o, none⟩), .pointer (some ⟨q, o', none⟩)] w (GivesL (selTo (moreQ xs ys) xs.length) w) := by
  obtain ⟨i0, hi0, hz0, hz1, hz2⟩ := info_parts info_int64
  obtain ⟨n, hN⟩ : ∃ n, xs.length = n := ⟨_, rfl⟩
  have hM : ys.length = n := by rw [← hl, hN]
  rw [hN] at hn hp ⊢
  rw [hM] at hq
  have H := Lib.hid h
  have H' := Lib.hid h'
  have HN := Lib.hid hN
  have HM := Lib.hid hM
  have HP := Lib.hid hp
  have HQ := Lib.hid hq
  clear h h' hN hM hl
  go_enter Tryd.func26, Tryd.ntmps26
  go_wp2
  go_loopw [5, 6] (fun v i wr => ∃ k : Nat, ∃ vv : Value, k ≤ n ∧ i = .int .i64 k ∧ vv = v ∧ Hid (wr.ownsRow w.heap.size 2 1 v (selTo (moreQ xs ys) k).length ((selTo (moreQ xs ys) k).map (Value.int .i64))) ∧ Hid (Below w.heap.size w wr)) (fun _ i _ => n - (intOf i).toNat)
  case atStart =>
    refine ⟨0, _, Nat.zero_le _, rfl, rfl, ?_, ?_⟩
    · exact ⟨rfl, Or.inr ⟨w.heap.size, 0, #[], rfl, Nat.le_refl _, by have := heap_alloc_new w (.cells #[] 2); simpa using this, Nat.le_refl _, Nat.zero_le _, rfl, rfl⟩⟩
    · exact (Below.refl _ _).alloc (by simp) _
  case round =>
    obtain ⟨k, vv, hk, rfl, rfl, HW, HB⟩ := hrel
    have hwr : w.heap.size ≤ wr.heap.size := HB.out.size
    have p1 := cell_kept HP.out HB.out
    have q1 := cell_kept HQ.out HB.out
    by_cases hlt : k < n
    · have hx : k < xs.length := by rw [HN.out]; exact hlt
      have hy : k < ys.length := by rw [HM.out]; exact hlt
      obtain ⟨b, off, rfl, hb, hcell⟩ := (H.out.below (HB.out.mono hB)) (by omega)
      obtain ⟨b', off', rfl, hb', hcell'⟩ := (H'.out.below (HB.out.mono hB')) (by omega)
      have h1 := hcell k hx
      have h2 := hcell' k hy
      have hq : moreQ xs ys k = (bits .andNot .i64 (xs[k]?.getD 0) (ys[k]?.getD 0) != 0) := rfl
      obtain ⟨x, hxx⟩ : ∃ x, xs[k]?.getD 0 = x := ⟨_, rfl⟩
      obtain ⟨y, hyy⟩ : ∃ y, ys[k]?.getD 0 = y := ⟨_, rfl⟩
      rw [hxx] at h1 hq
      rw [hyy] at h2 hq
      have hk0 : (0 : Int) ≤ (k : Int) := Int.natCast_nonneg _
      have hk1 : (k : Int) < (n : Int) := by omega
      have hlen := selTo_length (moreQ xs ys) k
      have HWd : Hid (wr.drew.ownsRow w.heap.size 2 1 vv (selTo (moreQ xs ys) k).length ((selTo (moreQ xs ys) k).map (Value.int .i64))) := HW.out
      have HBd : Hid (Below w.heap.size w wr.drew) := HB.out.drew
      have hwd : w.heap.size ≤ wr.drew.heap.size := hwr
      clear hcell hcell' hxx hyy hx hy H H' hb hb'
      cases hm : (bits .andNot .i64 x y != 0)
      · rw [hm] at hq
        have HI := Lib.hid (selTo_no (moreQ xs ys) k hq)
        clear hq
        go_wp2
        go_region
        all_goals
          go_wp2
          go_roundw
          case rel => exact ⟨k + 1, _, by omega, by go_num, rfl, by rw [HI.out]; exact HWd, HBd⟩
          case measure => simp [intOf]; omega
      · rw [hm] at hq
        have HI := Lib.hid (selTo_yes (moreQ xs ys) k hq)
        obtain ⟨zs, hy⟩ : ∃ zs, selTo (moreQ xs ys) k = zs := ⟨_, rfl⟩
        rw [hy] at HWd HI hlen
        clear hq hy HW
        go_wp2
        go_region
        all_goals
          go_wp2_with (at_builtin; refine wpList_append_own _ rfl _ _ 24 rfl w.heap.size 2 i0 (.int .i64 0) 1 8 Tryd.underlying24 hi0 hz0 hz1 hz2 rfl (by decide) _ _ _ rfl (HWd.out.alloc _) ⟨wr.heap.size, 0, none⟩ 1 1 [.int .i64 k] rfl rfl ?c1 ?c2 ?c3 ?c4 ?c5 ?_; rotate_left 5; intro v' w9 hown hgrow _; obtain ⟨ho, hbb⟩ := own_more (w := wr.drew) (v := vv) hown hgrow HWd.out HBd.out (Nat.le_refl _) hwd; have HW1 := Lib.hid ho; have HB1 := Lib.hid hbb; clear hown hgrow ho hbb)
          case c1 =>
            intro j u hj
            match j, hj with
            | 0, hj => simp at hj; subst hj; simp [Addr.add]
          case c2 => intro u hu; simp at hu; subst hu; rfl
          case c3 => unfold maxLen; omega
          case c4 => omega
          case c5 => simp; omega
          go_roundw
          case rel => exact ⟨k + 1, _, by omega, by go_num, rfl, by rw [HI.out]; exact HW1, HB1⟩
          case measure => simp [intOf]; omega
    · have hkn : k = n := by omega
      have hk1 : ¬ (k : Int) < (n : Int) := by omega
      have HE : Hid (∃ A cap, vv = .slice A (selTo (moreQ xs ys) n).length cap ∧ (0 < (selTo (moreQ xs ys) n).length → ∃ g ex, A = some ⟨g, 0, none⟩ ∧ w.heap.size ≤ g ∧ Row wr g (selTo (moreQ xs ys) n) ex)) := by
        rw [← hkn]
        exact owned_list HW.out rfl
      clear hkn HW
      go_wp2
      go_ret
      obtain ⟨A', cap, hv, hr⟩ := HE.out
      exact ⟨A', cap, by rw [← hv]; rfl, HB.out, hr⟩

theorem specMore_bad (F : Nat) (hF : F = 9 ∨ F = 11) (A A' : Option Addr) (c c' : Nat) (xs ys : List Int) (B B' : Nat) (w : World) (h : Ints w B A xs) (h' : Ints w B' A' ys) (hB : B ≤ w.heap.size) (hB' : B' ≤ w.heap.size) (hn : xs.length ≤ 1048576) (hn' : ys.length ≤ 1048576) (e : pairCode xs ys ≠ 0) :
    Calls Tryd.prog F #[.agg #[.slice A xs.length c], .agg #[.slice A' ys.length c']] w (GivesNoList (pairCode xs ys) w) := by
  have i1 := (h.alloc hB (.cells #[.slice A xs.length c] 26)).alloc (by simp; omega) (.cells #[.slice A' ys.length c'] 26)
  have i2 := (h'.alloc hB' (.cells #[.slice A xs.length c] 26)).alloc (by simp; omega) (.cells #[.slice A' ys.length c'] 26)
  have o1 := l06Two_any A A' c c' xs ys B B' w.heap.size 0 (w.heap.size + 1) 0 _ (by simp [go_sem]) (by simp [go_sem]) i1 i2 hn hn'
  obtain ⟨a, ha⟩ : ∃ a, pairCode xs ys = a := ⟨_, rfl⟩
  rw [ha] at o1 e ⊢
  have ha' : (a == 0) = false := by simpa using e
  have H1 := Lib.hid o1
  clear o1 i1 i2 h h' e ha
  rcases hF with rfl | rfl
  · go_enter Tryd.func9, Tryd.ntmps9
    go_wp2_with fail
    refine H1.out.mono ?_
    rintro e w1 ⟨rfl, hb⟩
    have B1 := Lib.hid (below_step ((below_box w _).alloc (by simp) _) hb)
    clear hb H1
    go_wp2
    go_ret2
    exact ⟨rfl, B1.out⟩
  · go_enter Tryd.func11, Tryd.ntmps11
    go_wp2_with fail
    refine H1.out.mono ?_
    rintro e w1 ⟨rfl, hb⟩
    have B1 := Lib.hid (below_step ((below_box w _).alloc (by simp) _) hb)
    clear hb H1
    go_wp2
    go_ret2
    exact ⟨rfl, B1.out⟩

theorem specAdded_good (A A' : Option Addr) (c c' : Nat) (xs ys : List Int) (B B' : Nat) (w : World) (h : Ints w B A xs) (h' : Ints w B' A' ys) (hB : B ≤ w.heap.size) (hB' : B' ≤ w.heap.size) (hn : xs.length ≤ 1048576) (hn' : ys.length ≤ 1048576) (e : pairCode xs ys = 0) :
    Calls Tryd.prog 9 #[.agg #[.slice A xs.length c], .agg #[.slice A' ys.length c']] w (GivesList (selTo (moreQ ys xs) ys.length) w) := by
  obtain ⟨_, _, hl⟩ := pairCode_zero e
  have i1 := (h.alloc hB (.cells #[.slice A xs.length c] 26)).alloc (by simp; omega) (.cells #[.slice A' ys.length c'] 26)
  have i2 := (h'.alloc hB' (.cells #[.slice A xs.length c] 26)).alloc (by simp; omega) (.cells #[.slice A' ys.length c'] 26)
  have o1 := l06Two_any A A' c c' xs ys B B' w.heap.size 0 (w.heap.size + 1) 0 _ (by simp [go_sem]) (by simp [go_sem]) i1 i2 hn hn'
  rw [e] at o1
  have m1 := fun W hp hq hI hI' hb hb' => l06More_any A' A c' c ys xs B' B (w.heap.size + 1) 0 w.heap.size 0 W hp hq hI hI' hb hb' hn' hl.symm
  obtain ⟨zs, hz⟩ : ∃ zs, selTo (moreQ ys xs) ys.length = zs := ⟨_, rfl⟩
  rw [hz] at m1 ⊢
  have H1 := Lib.hid o1
  have HM := Lib.hid m1
  have I1 := Lib.hid i1
  have I2 := Lib.hid i2
  clear o1 m1 i1 i2 h h' e hz hl
  go_enter Tryd.func9, Tryd.ntmps9
  go_wp2_with fail
  refine H1.out.mono ?_
  rintro e w1 ⟨rfl, hb⟩
  have B0 := Lib.hid hb
  have B1 := Lib.hid (below_step ((below_box w _).alloc (by simp) _) hb)
  have c1 := cell_kept (p := ⟨w.heap.size, 0, none⟩) (v := .slice A xs.length c) (by simp [go_sem]) hb
  have d1 := cell_kept (p := ⟨w.heap.size + 1, 0, none⟩) (v := .slice A' ys.length c') (by simp [go_sem]) hb
  clear hb H1
  go_wp2_with fail
  refine (HM.out w1 d1 c1 (I2.out.below (B0.out.mono (by simp; omega))) (I1.out.below (B0.out.mono (by simp; omega))) (Nat.le_trans hB' B1.out.size) (Nat.le_trans hB B1.out.size)).mono ?_
  rintro e w2 ⟨Ag, cap, rfl, hb, hr⟩
  have B2 := Lib.hid (below_step B1.out hb)
  have HR := Lib.hid hr
  clear hb hr
  go_wp2
  go_ret2
  refine ⟨Ag, cap, rfl, B2.out, fun h0 => ?_⟩
  obtain ⟨g, ex, hA, hg, hrow⟩ := HR.out h0
  exact ⟨g, ex, hA, Nat.le_trans B1.out.size hg, hrow⟩

theorem specLost_good (A A' : Option Addr) (c c' : Nat) (xs ys : List Int) (B B' : Nat) (w : World) (h : Ints w B A xs) (h' : Ints w B' A' ys) (hB : B ≤ w.heap.size) (hB' : B' ≤ w.heap.size) (hn : xs.length ≤ 1048576) (hn' : ys.length ≤ 1048576) (e : pairCode xs ys = 0) :
    Calls Tryd.prog 11 #[.agg #[.slice A xs.length c], .agg #[.slice A' ys.length c']] w (GivesList (selTo (moreQ xs ys) xs.length) w) := by
  obtain ⟨_, _, hl⟩ := pairCode_zero e
  have i1 := (h.alloc hB (.cells #[.slice A xs.length c] 26)).alloc (by simp; omega) (.cells #[.slice A' ys.length c'] 26)
  have i2 := (h'.alloc hB' (.cells #[.slice A xs.length c] 26)).alloc (by simp; omega) (.cells #[.slice A' ys.length c'] 26)
  have o1 := l06Two_any A A' c c' xs ys B B' w.heap.size 0 (w.heap.size + 1) 0 _ (by simp [go_sem]) (by simp [go_sem]) i1 i2 hn hn'
  rw [e] at o1
  have m1 := fun W hp hq hI hI' hb hb' => l06More_any A A' c c' xs ys B B' w.heap.size 0 (w.heap.size + 1) 0 W hp hq hI hI' hb hb' hn hl
  obtain ⟨zs, hz⟩ : ∃ zs, selTo (moreQ xs ys) xs.length = zs := ⟨_, rfl⟩
  rw [hz] at m1 ⊢
  have H1 := Lib.hid o1
  have HM := Lib.hid m1
  have I1 := Lib.hid i1
  have I2 := Lib.hid i2
  clear o1 m1 i1 i2 h h' e hz hl
  go_enter Tryd.func11, Tryd.ntmps11
  go_wp2_with fail
  refine H1.out.mono ?_
  rintro e w1 ⟨rfl, hb⟩
  have B0 := Lib.hid hb
  have B1 := Lib.hid (below_step ((below_box w _).alloc (by simp) _) hb)
  have c1 := cell_kept (p := ⟨w.heap.size, 0, none⟩) (v := .slice A xs.length c) (by simp [go_sem]) hb
  have d1 := cell_kept (p := ⟨w.heap.size + 1, 0, none⟩) (v := .slice A' ys.length c') (by simp [go_sem]) hb
  clear hb H1
  go_wp2_with fail
  refine (HM.out w1 c1 d1 (I1.out.below (B0.out.mono (by simp; omega))) (I2.out.below (B0.out.mono (by simp; omega))) (Nat.le_trans hB B1.out.size) (Nat.le_trans hB' B1.out.size)).mono ?_
  rintro e w2 ⟨Ag, cap, rfl, hb, hr⟩
  have B2 := Lib.hid (below_step B1.out hb)
  have HR := Lib.hid hr
  clear hb hr
  go_wp2
  go_ret2
  refine ⟨Ag, cap, rfl, B2.out, fun h0 => ?_⟩
  obtain ⟨g, ex, hA, hg, hrow⟩ := HR.out h0
  exact ⟨g, ex, hA, Nat.le_trans B1.out.size hg, hrow⟩

theorem implAdded_bad (A A' : Option Addr) (c c' : Nat) (xs ys : List Int) (B B' : Nat) (w : World) (h : Ints w B A xs) (h' : Ints w B' A' ys) (hB : B ≤ w.heap.size) (hB' : B' ≤ w.heap.size) (hn : xs.length ≤ 1048576) (hn' : ys.length ≤ 1048576) (e : pairCode xs ys ≠ 0) :
    Calls Tryd.prog 8 #[.agg #[.slice A xs.length c], .agg #[.slice A' ys.length c']] w (GivesNoList (pairCode xs ys) w) := by
  have i1 := (h.alloc hB (.cells #[.slice A xs.length c] 26)).alloc (by simp; omega) (.cells #[.slice A' ys.length c'] 26)
  have i2 := (h'.alloc hB' (.cells #[.slice A xs.length c] 26)).alloc (by simp; omega) (.cells #[.slice A' ys.length c'] 26)
  have o1 := checkPair_any A A' c c' xs ys B B' _ i1 i2 (by simp; omega) (by simp; omega) hn hn'
  obtain ⟨a, ha⟩ : ∃ a, pairCode xs ys = a := ⟨_, rfl⟩
  rw [ha] at o1 e ⊢
  have ha' : (a == 0) = false := by simpa using e
  have H1 := Lib.hid o1
  clear o1 i1 i2 h h' e ha
  go_enter Tryd.func8, Tryd.ntmps8
  go_wp2_with fail
  refine H1.out.mono ?_
  rintro e w1 ⟨rfl, hb⟩
  have B1 := Lib.hid (below_step ((below_box w _).alloc (by simp) _) hb)
  clear hb H1
  go_wp2
  go_ret2
  exact ⟨rfl, B1.out⟩

theorem implAdded_good (A A' : Option Addr) (c c' : Nat) (xs ys : List Int) (B B' : Nat) (w : World) (h : Ints w B A xs) (h' : Ints w B' A' ys) (hB : B ≤ w.heap.size) (hB' : B' ≤ w.heap.size) (hn : xs.length ≤ 1048576) (hn' : ys.length ≤ 1048576) (e : pairCode xs ys = 0) :
    Calls Tryd.prog 8 #[.agg #[.slice A xs.length c], .agg #[.slice A' ys.length c']] w (GivesList (selTo (moreQ ys xs) ys.length) w) := by
  obtain ⟨i0, hi0, hz0, hz1, hz2⟩ := info_parts info_int64
  obtain ⟨_, _, hl⟩ := pairCode_zero e
  have i1 := (h.alloc hB (.cells #[.slice A xs.length c] 26)).alloc (by simp; omega) (.cells #[.slice A' ys.length c'] 26)
  have i2 := (h'.alloc hB' (.cells #[.slice A xs.length c] 26)).alloc (by simp; omega) (.cells #[.slice A' ys.length c'] 26)
  have o1 := checkPair_any A A' c c' xs ys B B' _ i1 i2 (by simp; omega) (by simp; omega) hn hn'
  rw [e] at o1
  obtain ⟨n, hN⟩ : ∃ n, xs.length = n := ⟨_, rfl⟩
  have hM : ys.length = n := by rw [← hl, hN]
  rw [hN] at o1 hn ⊢
  rw [hM] at o1 ⊢
  have H1 := Lib.hid o1
  have HN := Lib.hid hN
  have HM := Lib.hid hM
  have G := Lib.hid h
  have G' := Lib.hid h'
  clear o1 i1 i2 h h' e hN hM hl hn'
  go_enter Tryd.func8, Tryd.ntmps8
  go_wp2_with fail
  refine H1.out.mono ?_
  rintro e w1 ⟨rfl, hb⟩
  have B1 := Lib.hid (below_step ((below_box w _).alloc (by simp) _) hb)
  have c1 := cell_kept (p := ⟨w.heap.size, 0, none⟩) (v := .slice A n c) (by simp [go_sem]) hb
  have d1 := cell_kept (p := ⟨w.heap.size + 1, 0, none⟩) (v := .slice A' n c') (by simp [go_sem]) hb
  have H := Lib.hid (G.out.below (B1.out.mono hB))
  have H' := Lib.hid (G'.out.below (B1.out.mono hB'))
  have hBs : B ≤ w1.heap.size := Nat.le_trans hB B1.out.size
  have hBs' : B' ≤ w1.heap.size := Nat.le_trans hB' B1.out.size
  have HP := Lib.hid c1
  clear hb H1 G G'
  go_wp2
  clear d1 c1
  go_loopw [7, 19] (fun v i wr => ∃ k : Nat, ∃ vv : Value, k ≤ n ∧ i = .int .i64 k ∧ vv = v ∧ Hid (wr.ownsRow w1.heap.size 2 1 v (selTo (moreQ ys xs) k).length ((selTo (moreQ ys xs) k).map (Value.int .i64))) ∧ Hid (Below w1.heap.size w1 wr)) (fun _ i _ => n - (intOf i).toNat)
  case atStart => exact ⟨0, _, Nat.zero_le _, rfl, rfl, ⟨rfl, Or.inl ⟨rfl, rfl⟩⟩, Below.refl _ _⟩
  case round =>
    obtain ⟨k, vv, hk, rfl, rfl, HW, HB⟩ := hrel
    have hwr : w1.heap.size ≤ wr.heap.size := HB.out.size
    have p1 := cell_kept HP.out HB.out
    by_cases hlt : k < n
    · have hx : k < xs.length := by rw [HN.out]; exact hlt
      have hy : k < ys.length := by rw [HM.out]; exact hlt
      obtain ⟨b, off, rfl, hb, hcell⟩ := (H.out.below (HB.out.mono hBs)) (by omega)
      obtain ⟨b', off', rfl, hb', hcell'⟩ := (H'.out.below (HB.out.mono hBs')) (by omega)
      have h1 := hcell k hx
      have h2 := hcell' k hy
      have hq : moreQ ys xs k = (bits .andNot .i64 (ys[k]?.getD 0) (xs[k]?.getD 0) != 0) := rfl
      obtain ⟨x, hxx⟩ : ∃ x, xs[k]?.getD 0 = x := ⟨_, rfl⟩
      obtain ⟨y, hyy⟩ : ∃ y, ys[k]?.getD 0 = y := ⟨_, rfl⟩
      rw [hxx] at h1 hq
      rw [hyy] at h2 hq
      have hk0 : (0 : Int) ≤ (k : Int) := Int.natCast_nonneg _
      have hk1 : (k : Int) < (n : Int) := by omega
      have hlen := selTo_length (moreQ ys xs) k
      clear hcell hcell' hxx hyy hx hy H H' hb hb'
      cases hm : (bits .andNot .i64 y x != 0)
      · rw [hm] at hq
        have HI := Lib.hid (selTo_no (moreQ ys xs) k hq)
        clear hq
        go_wp2
        go_roundw
        case rel => exact ⟨k + 1, _, by omega, by go_num, rfl, by rw [HI.out]; exact HW, HB⟩
        case measure => simp [intOf]; omega
      · rw [hm] at hq
        have HI := Lib.hid (selTo_yes (moreQ ys xs) k hq)
        obtain ⟨zs, hy⟩ : ∃ zs, selTo (moreQ ys xs) k = zs := ⟨_, rfl⟩
        rw [hy] at HW HI hlen
        clear hq hy
        go_wp2_with (at_builtin; refine wpList_append_own _ rfl _ _ 24 rfl w1.heap.size 2 i0 (.int .i64 0) 1 8 Tryd.underlying24 hi0 hz0 hz1 hz2 rfl (by decide) _ _ _ rfl (HW.out.alloc _) ⟨wr.heap.size, 0, none⟩ 1 1 [.int .i64 k] rfl rfl ?c1 ?c2 ?c3 ?c4 ?c5 ?_; rotate_left 5; intro v' w9 hown hgrow _; obtain ⟨ho, hbb⟩ := own_more hown hgrow HW.out HB.out (Nat.le_refl _) hwr; have HW1 := Lib.hid ho; have HB1 := Lib.hid hbb; clear hown hgrow ho hbb)
        case c1 =>
          intro j u hj
          match j, hj with
          | 0, hj => simp at hj; subst hj; simp [Addr.add]
        case c2 => intro u hu; simp at hu; subst hu; rfl
        case c3 => unfold maxLen; omega
        case c4 => omega
        case c5 => simp; omega
        go_roundw
        case rel => exact ⟨k + 1, _, by omega, by go_num, rfl, by rw [HI.out]; exact HW1, HB1⟩
        case measure => simp [intOf]; omega
    · have hkn : k = n := by omega
      have hk1 : ¬ (k : Int) < (n : Int) := by omega
      have HE : Hid (∃ A cap, vv = .slice A (selTo (moreQ ys xs) n).length cap ∧ (0 < (selTo (moreQ ys xs) n).length → ∃ g ex, A = some ⟨g, 0, none⟩ ∧ w1.heap.size ≤ g ∧ Row wr g (selTo (moreQ ys xs) n) ex)) := by
        rw [← hkn]
        exact owned_list HW.out rfl
      have HF : Hid (Below w.heap.size w wr) := below_step B1.out HB.out
      have hw1 : w.heap.size ≤ w1.heap.size := B1.out.size
      clear hkn HW HB H H'
      go_wp2
      go_ret2
      obtain ⟨A', cap, hv, hr⟩ := HE.out
      refine ⟨A', cap, by rw [← hv]; rfl, HF.out, fun h0 => ?_⟩
      obtain ⟨g, ex, hA, hg, hrow⟩ := hr h0
      exact ⟨g, ex, hA, by omega, hrow⟩

theorem implLost_bad (A A' : Option Addr) (c c' : Nat) (xs ys : List Int) (B B' : Nat) (w : World) (h : Ints w B A xs) (h' : Ints w B' A' ys) (hB : B ≤ w.heap.size) (hB' : B' ≤ w.heap.size) (hn : xs.length ≤ 1048576) (hn' : ys.length ≤ 1048576) (e : pairCode xs ys ≠ 0) :
    Calls Tryd.prog 10 #[.agg #[.slice A xs.length c], .agg #[.slice A' ys.length c']] w (GivesNoList (pairCode xs ys) w) := by
  have i1 := (h.alloc hB (.cells #[.slice A xs.length c] 26)).alloc (by simp; omega) (.cells #[.slice A' ys.length c'] 26)
  have i2 := (h'.alloc hB' (.cells #[.slice A xs.length c] 26)).alloc (by simp; omega) (.cells #[.slice A' ys.length c'] 26)
  have o1 := implAdded_bad A' A c' c ys xs B' B _ i2 i1 (by simp; omega) (by simp; omega) hn' hn (by rw [pairCode_comm]; exact e)
  rw [pairCode_comm ys xs] at o1
  have H1 := Lib.hid o1
  clear o1 i1 i2 h h' e
  go_enter Tryd.func10, Tryd.ntmps10
  go_wp2_with fail
  refine H1.out.mono ?_
  rintro e w1 ⟨rfl, hb⟩
  have B1 := Lib.hid (below_step ((below_box w _).alloc (by simp) _) hb)
  clear hb H1
  go_wp2
  go_ret2
  exact ⟨rfl, B1.out⟩

theorem implLost_good (A A' : Option Addr) (c c' : Nat) (xs ys : List Int) (B B' : Nat) (w : World) (h : Ints w B A xs) (h' : Ints w B' A' ys) (hB : B ≤ w.heap.size) (hB' : B' ≤ w.heap.size) (hn : xs.length ≤ 1048576) (hn' : ys.length ≤ 1048576) (e : pairCode xs ys = 0) :
    Calls Tryd.prog 10 #[.agg #[.slice A xs.length c], .agg #[.slice A' ys.length c']] w (GivesList (selTo (moreQ xs ys) xs.length) w) := by
  have i1 := (h.alloc hB (.cells #[.slice A xs.length c] 26)).alloc (by simp; omega) (.cells #[.slice A' ys.length c'] 26)
  have i2 := (h'.alloc hB' (.cells #[.slice A xs.length c] 26)).alloc (by simp; omega) (.cells #[.slice A' ys.length c'] 26)
  have o1 := implAdded_good A' A c' c ys xs B' B _ i2 i1 (by simp; omega) (by simp; omega) hn' hn (by rw [pairCode_comm]; exact e)
  obtain ⟨zs, hz⟩ : ∃ zs, selTo (moreQ xs ys) xs.length = zs := ⟨_, rfl⟩
  rw [hz] at o1 ⊢
  have H1 := Lib.hid o1
  clear o1 i1 i2 h h' e hz
  go_enter Tryd.func10, Tryd.ntmps10
  go_wp2_with fail
  refine H1.out.mono ?_
  rintro e w1 ⟨Ag, cap, rfl, hb, hr⟩
  have B1 := Lib.hid (below_step ((below_box w _).alloc (by simp) _) hb)
  have HR := Lib.hid hr
  clear hb hr H1
  go_wp2
  go_ret2
  refine ⟨Ag, cap, rfl, B1.out, fun h0 => ?_⟩
  obtain ⟨g, ex, hA, hg, hrow⟩ := HR.out h0
  exact ⟨g, ex, hA, by simp at hg; omega, hrow⟩
end Go.Proofs.YthkfdfocghmmeabDoor
