/- spec.NearestCard and impl.NearestCard answer the place of the first card of a deck with the least distance, and this distance, or the code, for all decks and cards of at most 1048576 columns: contracts. -/
import Derived.Test.YtjfogadcedgndaaNear
import Derived.Test.YtjfogadcedgndaaLawDeck
namespace Go.Proofs.Ytjfogadcedgndaa
open Go.ChangeShapes Go.WideShapes Go.ChangeAt Go.RowKit

/-- the distances of the cards of a deck from a card -/
def distL (H : List (List Int)) (ys : List Int) : List Int := H.map fun xs => (distN xs ys : Int)
theorem distL_length (H : List (List Int)) (ys : List Int) : (distL H ys).length = H.length := by simp [distL]
theorem distL_get (D : List CardV) (ys : List Int) (k : Nat) (d : CardV) (h : D[k]? = some d) : (distL (holes D) ys)[k]?.getD 0 = (distN d.xs ys : Int) := by
  simp [distL, holes, h]
def nearCode (D : List CardV) (ys : List Int) : Int := if deckB (holes D) = false then 1 else if okB ys = false then 1 else if D.length = 0 then 3 else if firstZ (holes D) = ys.length then 0 else 2
theorem nearCode_cases (D : List CardV) (ys : List Int) : (nearCode D ys = 1 ∧ deckB (holes D) = false) ∨ (nearCode D ys = 1 ∧ deckB (holes D) = true ∧ okB ys = false) ∨ (nearCode D ys = 3 ∧ deckB (holes D) = true ∧ okB ys = true ∧ D.length = 0) ∨
    (nearCode D ys = 2 ∧ deckB (holes D) = true ∧ okB ys = true ∧ 0 < D.length ∧ firstZ (holes D) ≠ ys.length) ∨ (nearCode D ys = 0 ∧ deckB (holes D) = true ∧ okB ys = true ∧ 0 < D.length ∧ firstZ (holes D) = ys.length) := by
  unfold nearCode
  cases deckB (holes D) <;> cases okB ys <;> by_cases h : D.length = 0 <;> by_cases h' : firstZ (holes D) = ys.length <;> simp [h, h'] <;> omega
theorem deckB_at {D : List CardV} (h : deckB (holes D) = true) {k : Nat} {d : CardV} (hd : D[k]? = some d) : okB d.xs = true ∧ d.xs.length = firstZ (holes D) := by
  rw [deckB, Bool.and_eq_true, List.all_eq_true] at h
  have := h.1 d.xs (by rw [holes, List.mem_map]; exact ⟨d, List.mem_of_getElem? hd, rfl⟩)
  rw [goodB, Bool.and_eq_true, decide_eq_true_eq] at this
  exact this
/-- what the two functions answer -/
def NearIs (D : List CardV) (ys : List Int) (w : World) (e : Ending) (w' : World) : Prop :=
  e = .returned (.tuple #[.int .i64 (if nearCode D ys = 0 then (bestTo (distL (holes D) ys) (D.length - 1) : Int) else 0), .int .i64 (if nearCode D ys = 0 then minTo (distL (holes D) ys) (D.length - 1) else 0), .int .i64 (nearCode D ys)]) ∧ Below w.heap.size w w'

theorem specNear_any (A A' : Option Addr) (c c' : Nat) (D : List CardV) (ys : List Int) (B B' : Nat) (w : World) (h : Deck w B A D) (h' : Ints w B' A' ys) (hB : B ≤ w.heap.size) (hB' : B' ≤ w.heap.size) (hn : D.length ≤ 1048576) (hl : ∀ d ∈ D, d.xs.length ≤ 1048576) (hn' : ys.length ≤ 1048576) :
    Calls Try.prog 42 #[.slice A D.length c, .agg #[.slice A' ys.length c']] w (NearIs D ys w) := by
  have i1 := h.alloc hB (.cells #[.slice A' ys.length c'] 26)
  have i2 := h'.alloc hB' (.cells #[.slice A' ys.length c'] 26)
  have o1 := l02Deck_any A c D B _ i1 (by simp; omega) hn hl
  have o2 := fun W hp hI => l02Ok_any A' c' ys B' w.heap.size 0 W hp hI hn'
  have I1 := Lib.hid i1
  have I2 := Lib.hid i2
  unfold NearIs
  rcases nearCode_cases D ys with ⟨e, hv⟩ | ⟨e, hv, hv'⟩ | ⟨e, hv, hv', h0⟩ | ⟨e, hv, hv', h0, hz⟩ | ⟨e, hv, hv', h0, hz⟩
  · rw [e, if_neg (by decide), if_neg (by decide)]
    rw [hv] at o1
    have H1 := Lib.hid o1
    clear o1 o2 i1 i2 h h' e hv hl I1 I2
    go_enter Try.func42, Try.ntmps42
    go_wp2_with fail
    refine H1.out.mono ?_
    rintro e w1 ⟨rfl, hb⟩
    have B1 := Lib.hid (below_step (below_box w _) hb)
    clear hb H1
    go_wp2
    refine bodyPost_ret (v := .tuple #[.int .i64 0, .int .i64 0, .int .i64 1]) (by simp [results, Try.results42, go_sem]) rfl ⟨rfl, B1.out⟩
  · rw [e, if_neg (by decide), if_neg (by decide)]
    rw [hv] at o1
    have H1 := Lib.hid o1
    have H2 := Lib.hid o2
    clear o1 o2 i1 i2 h h' e hv hl
    go_enter Try.func42, Try.ntmps42
    go_wp2_with fail
    refine H1.out.mono ?_
    rintro e w1 ⟨rfl, hb⟩
    have B1 := Lib.hid (below_step (below_box w _) hb)
    have J2 := Lib.hid (I2.out.below (hb.mono (by simp; omega)))
    have c1 := cell_kept (p := ⟨w.heap.size, 0, none⟩) (v := .slice A' ys.length c') (by simp) hb
    clear hb H1
    go_wp2_with fail
    refine (H2.out w1 c1 J2.out).mono ?_
    rintro e w2 ⟨rfl, rfl⟩
    rw [hv']
    go_wp2
    refine bodyPost_ret (v := .tuple #[.int .i64 0, .int .i64 0, .int .i64 1]) (by simp [results, Try.results42, go_sem]) rfl ⟨rfl, B1.out⟩
  all_goals
    rw [hv] at o1
    have H1 := Lib.hid o1
    have H2 := Lib.hid o2
    have HV := Lib.hid hv
    have HV' := Lib.hid hv'
    clear o1 o2 i1 i2 h h' hv
  · rw [e, if_neg (by decide), if_neg (by decide)]
    rw [h0] at H1 ⊢
    clear hl e h0 I1
    go_enter Try.func42, Try.ntmps42
    go_wp2_with fail
    refine H1.out.mono ?_
    rintro e w1 ⟨rfl, hb⟩
    have B1 := Lib.hid (below_step (below_box w _) hb)
    have J2 := Lib.hid (I2.out.below (hb.mono (by simp; omega)))
    have c1 := cell_kept (p := ⟨w.heap.size, 0, none⟩) (v := .slice A' ys.length c') (by simp) hb
    clear hb H1
    go_wp2_with fail
    refine (H2.out w1 c1 J2.out).mono ?_
    rintro e w2 ⟨rfl, rfl⟩
    rw [hv']
    go_wp2
    refine bodyPost_ret (v := .tuple #[.int .i64 0, .int .i64 0, .int .i64 3]) (by simp [results, Try.results42, go_sem]) rfl ⟨rfl, B1.out⟩
  · rw [e, if_neg (by decide), if_neg (by decide)]
    obtain ⟨n, hN⟩ : ∃ n, D.length = n := ⟨_, rfl⟩
    obtain ⟨d0, hd0⟩ : ∃ d, D[0]? = some d := ⟨D[0]'(by omega), List.getElem?_eq_getElem _⟩
    have hz0 : d0.xs.length = firstZ (holes D) := (deckB_at HV.out hd0).2
    rw [← hz0] at hz
    have HD := Lib.hid hd0
    rw [hN] at H1 h0 hn ⊢
    clear hl e hz0 hd0
    go_enter Try.func42, Try.ntmps42
    go_wp2_with fail
    refine H1.out.mono ?_
    rintro e w1 ⟨rfl, hb⟩
    have B1 := Lib.hid (below_step (below_box w _) hb)
    have J1 := Lib.hid (I1.out.below (hb.mono (by simp; omega)))
    have J2 := Lib.hid (I2.out.below (hb.mono (by simp; omega)))
    have c1 := cell_kept (p := ⟨w.heap.size, 0, none⟩) (v := .slice A' ys.length c') (by simp) hb
    clear hb H1 I1 I2
    go_wp2_with fail
    refine (H2.out w1 c1 J2.out).mono ?_
    rintro e w2 ⟨rfl, rfl⟩
    rw [hv']
    obtain ⟨b, off, rfl, hb, hcell⟩ := J1.out (by rw [hN]; exact h0)
    have x0 := (hcell 0 d0 HD.out).1
    rw [Nat.add_zero] at x0
    unfold CardV.value at x0
    obtain ⟨z, hzz⟩ : ∃ z, d0.xs.length = z := ⟨_, rfl⟩
    obtain ⟨m, hm⟩ : ∃ m, ys.length = m := ⟨_, rfl⟩
    rw [hzz] at x0 hz
    rw [hm] at c1 hz
    have hne : ((z : Int) == (m : Int)) = false := by simpa using (by omega : ¬ (z : Int) = m)
    have hne2 : ((z : Int) != (m : Int)) = true := by rw [bne_iff_ne]; omega
    have k0 : ((n : Int) == 0) = false := by simpa using (by omega : ¬ (n : Int) = 0)
    have k1 : (0 : Int) < (n : Int) := by omega
    clear hcell hb J1 J2 H2 hzz hz
    rw [hm]
    clear hm
    go_wp2
    go_region
    all_goals
      go_wp2
      refine bodyPost_ret (v := .tuple #[.int .i64 0, .int .i64 0, .int .i64 2]) (by simp [results, Try.results42, go_sem]) rfl ⟨rfl, below_drewN B1.out 1⟩
  · rw [e, if_pos rfl, if_pos rfl]
    obtain ⟨n, hN⟩ : ∃ n, D.length = n := ⟨_, rfl⟩
    obtain ⟨d0, hd0⟩ : ∃ d, D[0]? = some d := ⟨D[0]'(by omega), List.getElem?_eq_getElem _⟩
    have hz0 : d0.xs.length = ys.length := by rw [(deckB_at HV.out hd0).2, hz]
    have HD := Lib.hid hd0
    have HEACH : Hid (∀ (k : Nat) (d : CardV), D[k]? = some d → legalB d.xs = true ∧ d.xs.length = ys.length) := fun k d hd => by
      have := deckB_at HV.out hd
      exact ⟨(okB_parts this.1).1, by rw [this.2, hz]⟩
    have hleg := (okB_parts hv').1
    have HLEG := Lib.hid hleg
    have HLL : Hid ((distL (holes D) ys).length = n) := by show _ = _; rw [distL_length]; simp [holes, hN]
    have HGET := Lib.hid (fun k d hd => distL_get D ys k d hd)
    rw [hN] at H1 h0 hn ⊢
    obtain ⟨ds, hds⟩ : ∃ ds, distL (holes D) ys = ds := ⟨_, rfl⟩
    rw [hds] at HLL HGET ⊢
    have HN := Lib.hid hN
    have HL := Lib.hid hl
    clear hl e hd0 hleg hz hN hds HV HV'
    go_enter Try.func42, Try.ntmps42
    go_wp2_with fail
    refine H1.out.mono ?_
    rintro e w1 ⟨rfl, hb⟩
    have B1 := Lib.hid (below_step (below_box w _) hb)
    have J1 := Lib.hid (I1.out.below (hb.mono (by simp; omega)))
    have J2 := Lib.hid (I2.out.below (hb.mono (by simp; omega)))
    have c1 := cell_kept (p := ⟨w.heap.size, 0, none⟩) (v := .slice A' ys.length c') (by simp) hb
    clear hb H1 I1 I2
    go_wp2_with fail
    refine (H2.out w1 c1 J2.out).mono ?_
    rintro e w2 ⟨rfl, rfl⟩
    rw [hv']
    obtain ⟨b, off, rfl, hb, hcell⟩ := J1.out (by rw [HN.out]; exact h0)
    have x0 := (hcell 0 d0 HD.out).1
    rw [Nat.add_zero] at x0
    unfold CardV.value at x0
    obtain ⟨m, hm⟩ : ∃ m, ys.length = m := ⟨_, rfl⟩
    rw [hz0, hm] at x0
    rw [hm] at c1
    have HM := Lib.hid hm
    have k0 : ((n : Int) == 0) = false := by simpa using (by omega : ¬ (n : Int) = 0)
    have k1 : (0 : Int) < (n : Int) := by omega
    have HC := Lib.hid hcell
    have C1 := Lib.hid c1
    have hBw : B ≤ w1.heap.size := Nat.le_trans hB B1.out.size
    have hBw' : B' ≤ w1.heap.size := Nat.le_trans hB' B1.out.size
    rw [hm]
    clear hcell hb J1 H2 hz0 hm hv' HD
    go_wp2
    go_region
    all_goals
      clear x0
      go_wp2
      go_loopw [7, 8] (fun a i wr => ∃ k : Nat, 1 ≤ k ∧ k ≤ n ∧ i = .int .i64 k ∧ a = .int .i64 (bestTo ds (k - 1) : Nat) ∧ Hid (∃ q, wr = w1.drewN q)) (fun _ i _ => n - (intOf i).toNat)
      case atStart => exact ⟨1, by omega, by omega, rfl, rfl, ⟨1, rfl⟩⟩
      case round =>
        obtain ⟨k, hk1, hk, rfl, rfl, HW⟩ := hrel
        have hble := best_le ds (k - 1)
        have HFAR : Hid (∀ (t : Nat) (d : CardV), D[t]? = some d → ∀ q, Calls Try.prog 82 #[.pointer (some ⟨b, off + t, none⟩), .pointer (some ⟨w.heap.size, 0, none⟩)] (wr.drewN q) fun e w' => e = .returned (.int .i64 (distN d.xs ys)) ∧ ∃ m, w' = wr.drewN m) := fun t d hd q => by
          obtain ⟨q0, hq0⟩ := HW.out
          obtain ⟨hc, hi⟩ := HC.out t d hd
          obtain ⟨l1, l2⟩ := HEACH.out t d hd
          unfold CardV.value at hc
          have := l06FarD_any d.at_ A' d.cap c' d.xs ys B B' b (off + t) w.heap.size 0 (wr.drewN q) (by rw [hq0]; exact hc) (by rw [hq0, HM.out]; exact C1.out) (by rw [hq0]; exact hi) (by rw [hq0]; exact J2.out) (by rw [hq0]; exact hBw) (by rw [hq0]; exact hBw') (HL.out d (List.mem_of_getElem? hd)) l2 l1 HLEG.out
          refine this.mono ?_
          rintro e w' ⟨he, r, hr⟩
          exact ⟨he, _, by rw [hr, World.drewN_drewN]⟩
        by_cases hlt : k < n
        · obtain ⟨d, hd⟩ : ∃ d, D[k]? = some d := ⟨D[k]'(by rw [HN.out]; exact hlt), List.getElem?_eq_getElem _⟩
          obtain ⟨d', hd'⟩ : ∃ d, D[bestTo ds (k - 1)]? = some d := ⟨D[bestTo ds (k - 1)]'(by rw [HN.out]; omega), List.getElem?_eq_getElem _⟩
          have f1 := HFAR.out k d hd
          have f2 := HFAR.out _ d' hd'
          have hst : Hid (bestTo ds k = if (distN d.xs ys : Int) < (distN d'.xs ys : Int) then k else bestTo ds (k - 1)) := by
            show _ = _
            obtain ⟨m, rfl⟩ : ∃ m, k = m + 1 := ⟨k - 1, by omega⟩
            have hd2 : D[bestTo ds m]? = some d' := hd'
            rw [bestTo, HGET.out _ d hd, HGET.out _ d' hd2]
            rfl
          obtain ⟨u, hu⟩ : ∃ u, distN d.xs ys = u := ⟨_, rfl⟩
          obtain ⟨v, hv⟩ : ∃ v, distN d'.xs ys = v := ⟨_, rfl⟩
          obtain ⟨t, ht⟩ : ∃ t, bestTo ds (k - 1) = t := ⟨_, rfl⟩
          rw [hu] at f1 hst
          rw [hv] at f2 hst
          rw [ht] at f2 hst hble ⊢
          have F1 := Lib.hid f1
          have F2 := Lib.hid f2
          have j0 : (0 : Int) ≤ (k : Int) := Int.natCast_nonneg _
          have j1 : (k : Int) < (n : Int) := by omega
          have j2 : (0 : Int) ≤ (t : Int) := Int.natCast_nonneg _
          have j3 : (t : Int) < (n : Int) := by omega
          clear f1 f2 hd hd' hu hv ht HFAR
          by_cases hcmp : (u : Int) < (v : Int)
          · rw [if_pos hcmp] at hst
            go_wp2
            go_quiet ((first | (go_at_call 82; with_reducible exact F1.out _) | (go_at_call 82; with_reducible exact F2.out _)))
            go_wp2
            go_roundw
            case rel => exact ⟨k + 1, by omega, by omega, by go_num, congrArg (fun t : Nat => Value.int .i64 (t : Int)) hst.out.symm, by
              obtain ⟨q, hq⟩ := HW.out
              exact ⟨_, by rw [hq, World.drewN_drewN]⟩⟩
            case measure => simp [intOf]; omega
          · rw [if_neg hcmp] at hst
            go_wp2
            go_quiet ((first | (go_at_call 82; with_reducible exact F1.out _) | (go_at_call 82; with_reducible exact F2.out _)))
            go_wp2
            go_roundw
            case rel => exact ⟨k + 1, by omega, by omega, by go_num, congrArg (fun t : Nat => Value.int .i64 (t : Int)) hst.out.symm, by
              obtain ⟨q, hq⟩ := HW.out
              exact ⟨_, by rw [hq, World.drewN_drewN]⟩⟩
            case measure => simp [intOf]; omega
        · obtain rfl : k = n := by omega
          have hmin := Lib.hid (best_min ds (k - 1))
          obtain ⟨d', hd'⟩ : ∃ d, D[bestTo ds (k - 1)]? = some d := ⟨D[bestTo ds (k - 1)]'(by rw [HN.out]; omega), List.getElem?_eq_getElem _⟩
          have f2 := HFAR.out _ d' hd' 0
          have hv : Hid ((distN d'.xs ys : Int) = minTo ds (k - 1)) := by
            show _ = _
            rw [← hmin.out, HGET.out _ d' hd']
          obtain ⟨v, hvv⟩ : ∃ v, distN d'.xs ys = v := ⟨_, rfl⟩
          obtain ⟨t, ht⟩ : ∃ t, bestTo ds (k - 1) = t := ⟨_, rfl⟩
          rw [hvv] at f2 hv
          rw [ht] at f2 hble ⊢
          have F2 := Lib.hid f2
          have HT := Lib.hid ht
          have j1 : ¬ (k : Int) < (k : Int) := by omega
          have j2 : (0 : Int) ≤ (t : Int) := Int.natCast_nonneg _
          have j3 : (t : Int) < (k : Int) := by omega
          clear f2 hd' hvv ht HFAR hmin
          go_wp2_with fail
          refine F2.out.mono ?_
          rintro e w3 ⟨rfl, q3, hq3⟩
          have B3 : Hid (Below w.heap.size w w3) := by
            obtain ⟨q, hq⟩ := HW.out
            rw [hq3, hq]
            exact below_drewN (below_drewN B1.out _) _
          clear hq3
          go_wp2
          refine bodyPost_ret (v := .tuple #[.int .i64 t, .int .i64 v, .int .i64 0]) (by simp [results, Try.results42, go_sem]) rfl ⟨by rw [HT.out, ← hv.out], B3.out⟩
end Go.Proofs.Ytjfogadcedgndaa
