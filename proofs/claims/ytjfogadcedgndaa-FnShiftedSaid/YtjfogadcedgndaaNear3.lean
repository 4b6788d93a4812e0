/- impl.NearestCard answers the place of the first card of a deck with the least distance, and this distance, or the code, for all decks and cards of at most 1048576 columns: a contract. -/
import Derived.Test.YtjfogadcedgndaaNear2
import Derived.Test.YtjfogadcedgndaaSh2
namespace Go.Proofs.Ytjfogadcedgndaa
open Go.ChangeShapes Go.WideShapes Go.ChangeAt Go.RowKit

theorem below_grown_at {w w' : World} {g : Nat} (hg : g ≤ w.heap.size) (h : w.grownBy w' (some g)) : Below g w w' := ⟨h.os, h.tape, h.output, h.size, fun i hi => h.block i (by omega) (fun e => by injection e; omega)⟩
theorem cell_kept_at {w w' : World} {B : Nat} {p : Addr} {v : Value} (h : w.cell? p = some v) (hb : Below B w w') (hp : p.block < B) : w'.cell? p = some v := by
  rw [hb.cell hp]
  exact h

theorem implNear_any (A A' : Option Addr) (c c' : Nat) (D : List CardV) (ys : List Int) (B B' : Nat) (w : World) (h : Deck w B A D) (h' : Ints w B' A' ys) (hB : B ≤ w.heap.size) (hB' : B' ≤ w.heap.size) (hn : D.length ≤ 1048576) (hl : ∀ d ∈ D, d.xs.length ≤ 1048576) (hn' : ys.length ≤ 1048576) :
    Calls Try.prog 41 #[.slice A D.length c, .agg #[.slice A' ys.length c']] w (NearIs D ys w) := by
  have i1 := h.alloc hB (.cells #[.slice A' ys.length c'] 26)
  have i2 := h'.alloc hB' (.cells #[.slice A' ys.length c'] 26)
  have o1 := implValidCard_any A' c' ys B' _ i2 (by simp; omega) hn'
  have o2 := fun W hI hb => implValidDeck_any A c D B W hI hb hn hl
  have I1 := Lib.hid i1
  have I2 := Lib.hid i2
  unfold NearIs
  cases hv' : okB ys
  · have e : nearCode D ys = 1 := by
      unfold nearCode
      cases deckB (holes D)
      · rw [if_pos rfl]
      · rw [if_neg (by decide), if_pos hv']
    rw [e, if_neg (by decide), if_neg (by decide)]
    rw [hv'] at o1
    have H1 := Lib.hid o1
    clear o1 o2 i1 i2 h h' e hv' hl I1 I2
    go_enter Try.func41, Try.ntmps41
    go_wp2_with fail
    refine H1.out.mono ?_
    rintro e w1 ⟨rfl, hb⟩
    have B1 := Lib.hid (below_step (below_box w _) hb)
    clear hb H1
    go_wp2
    refine bodyPost_ret (v := .tuple #[.int .i64 0, .int .i64 0, .int .i64 1]) (by simp [results, Try.results41, go_sem]) rfl ⟨rfl, B1.out⟩
  · rw [hv'] at o1
    have H1 := Lib.hid o1
    have H2 := Lib.hid o2
    clear o1 o2 i1 i2 h h'
    rcases nearCode_cases D ys with ⟨e, hv⟩ | ⟨e, hv, hw'⟩ | ⟨e, hv, _, h0⟩ | ⟨e, hv, _, h0, hz⟩ | ⟨e, hv, _, h0, hz⟩
    · rw [e, if_neg (by decide), if_neg (by decide)]
      clear hl e hv'
      go_enter Try.func41, Try.ntmps41
      go_wp2_with fail
      refine H1.out.mono ?_
      rintro e w1 ⟨rfl, hb⟩
      have B1 := Lib.hid (below_step (below_box w _) hb)
      have J1 := Lib.hid (I1.out.below (hb.mono (by simp; omega)))
      clear hb H1
      go_wp2_with fail
      refine (H2.out w1 J1.out (Nat.le_trans hB B1.out.size)).mono ?_
      rintro e w2 ⟨rfl, hb⟩
      have B2 := Lib.hid (below_step B1.out hb)
      rw [hv]
      clear hb
      go_wp2
      refine bodyPost_ret (v := .tuple #[.int .i64 0, .int .i64 0, .int .i64 1]) (by simp [results, Try.results41, go_sem]) rfl ⟨rfl, B2.out⟩
    · rw [hv'] at hw'; exact absurd hw' (by decide)
    · rw [e, if_neg (by decide), if_neg (by decide)]
      rw [h0] at H2 ⊢
      clear hl e h0 hv'
      go_enter Try.func41, Try.ntmps41
      go_wp2_with fail
      refine H1.out.mono ?_
      rintro e w1 ⟨rfl, hb⟩
      have B1 := Lib.hid (below_step (below_box w _) hb)
      have J1 := Lib.hid (I1.out.below (hb.mono (by simp; omega)))
      clear hb H1
      go_wp2_with fail
      refine (H2.out w1 J1.out (Nat.le_trans hB B1.out.size)).mono ?_
      rintro e w2 ⟨rfl, hb⟩
      have B2 := Lib.hid (below_step B1.out hb)
      rw [hv]
      clear hb
      go_wp2
      refine bodyPost_ret (v := .tuple #[.int .i64 0, .int .i64 0, .int .i64 3]) (by simp [results, Try.results41, go_sem]) rfl ⟨rfl, B2.out⟩
    · rw [e, if_neg (by decide), if_neg (by decide)]
      obtain ⟨n, hN⟩ : ∃ n, D.length = n := ⟨_, rfl⟩
      obtain ⟨d0, hd0⟩ : ∃ d, D[0]? = some d := ⟨D[0]'(by omega), List.getElem?_eq_getElem _⟩
      have hz0 : d0.xs.length = firstZ (holes D) := (deckB_at hv hd0).2
      rw [← hz0] at hz
      have HD := Lib.hid hd0
      rw [hN] at H2 h0 hn ⊢
      clear hl e hz0 hd0 hv'
      go_enter Try.func41, Try.ntmps41
      go_wp2_with fail
      refine H1.out.mono ?_
      rintro e w1 ⟨rfl, hb⟩
      have B1 := Lib.hid (below_step (below_box w _) hb)
      have J1 := Lib.hid (I1.out.below (hb.mono (by simp; omega)))
      have c1 := cell_kept (p := ⟨w.heap.size, 0, none⟩) (v := .slice A' ys.length c') (by simp) hb
      clear hb H1 I1 I2
      go_wp2_with fail
      refine (H2.out w1 J1.out (Nat.le_trans hB B1.out.size)).mono ?_
      rintro e w2 ⟨rfl, hb2⟩
      have B2 := Lib.hid (below_step B1.out hb2)
      have c2 := cell_kept c1 hb2
      rw [hv]
      obtain ⟨b, off, rfl, hb, hcell⟩ := (J1.out.below (hb2.mono (Nat.le_trans hB B1.out.size))) (by rw [hN]; exact h0)
      have x0 := (hcell 0 d0 HD.out).1
      rw [Nat.add_zero] at x0
      unfold CardV.value at x0
      obtain ⟨z, hzz⟩ : ∃ z, d0.xs.length = z := ⟨_, rfl⟩
      obtain ⟨m, hm⟩ : ∃ m, ys.length = m := ⟨_, rfl⟩
      rw [hzz] at x0 hz
      rw [hm] at c2 hz
      have hne : ((z : Int) == (m : Int)) = false := by simpa using (by omega : ¬ (z : Int) = m)
      have hne2 : ((z : Int) != (m : Int)) = true := by rw [bne_iff_ne]; omega
      have k0 : ((n : Int) == 0) = false := by simpa using (by omega : ¬ (n : Int) = 0)
      have k1 : (0 : Int) < (n : Int) := by omega
      clear hcell hb hb2 J1 H2 hzz hz c1 B1
      rw [hm]
      clear hm
      go_wp2
      go_region
      all_goals
        go_wp2
        refine bodyPost_ret (v := .tuple #[.int .i64 0, .int .i64 0, .int .i64 2]) (by simp [results, Try.results41, go_sem]) rfl ⟨rfl, below_drewN B2.out 1⟩
    · rw [e, if_pos rfl, if_pos rfl]
      obtain ⟨n, hN⟩ : ∃ n, D.length = n := ⟨_, rfl⟩
      obtain ⟨d0, hd0⟩ : ∃ d, D[0]? = some d := ⟨D[0]'(by omega), List.getElem?_eq_getElem _⟩
      have hz0 : d0.xs.length = ys.length := by rw [(deckB_at hv hd0).2, hz]
      have HD := Lib.hid hd0
      have HEACH : Hid (∀ (k : Nat) (d : CardV), D[k]? = some d → legalB d.xs = true ∧ d.xs.length = ys.length) := fun k d hd => by
        have := deckB_at hv hd
        exact ⟨(okB_parts this.1).1, by rw [this.2, hz]⟩
      have HLEG := Lib.hid (okB_parts hv').1
      have HLL : Hid ((distL (holes D) ys).length = n) := by show _ = _; rw [distL_length]; simp [holes, hN]
      have HGET := Lib.hid (fun k d hd => distL_get D ys k d hd)
      rw [hN] at H2 h0 hn ⊢
      obtain ⟨ds, hds⟩ : ∃ ds, distL (holes D) ys = ds := ⟨_, rfl⟩
      rw [hds] at HLL HGET ⊢
      have HN := Lib.hid hN
      have HL := Lib.hid hl
      have hmk := run_make_row' (P := Try.prog) 24 2 (.int .i64 0) 8 Try.underlying24 info_int64 rfl .i64 .i64 n (by omega) (by omega)
      clear hl e hd0 hz hN hds hv'
      go_enter Try.func41, Try.ntmps41
      go_wp2_with fail
      refine H1.out.mono ?_
      rintro e w1 ⟨rfl, hb⟩
      have B1 := Lib.hid (below_step (below_box w _) hb)
      have J1 := Lib.hid (I1.out.below (hb.mono (by simp; omega)))
      have J2 := Lib.hid (I2.out.below (hb.mono (by simp; omega)))
      have c1 := cell_kept (p := ⟨w.heap.size, 0, none⟩) (v := .slice A' ys.length c') (by simp) hb
      clear hb H1 I1 I2
      go_wp2_with fail
      refine (H2.out w1 J1.out (Nat.le_trans hB B1.out.size)).mono ?_
      rintro e w2 ⟨rfl, hb2⟩
      have B2 := Lib.hid (below_step B1.out hb2)
      have c2 := cell_kept c1 hb2
      rw [hv]
      have D2 := Lib.hid (J1.out.below (hb2.mono (Nat.le_trans hB B1.out.size)))
      have Y2 := Lib.hid (J2.out.below (hb2.mono (Nat.le_trans hB' B1.out.size)))
      obtain ⟨b, off, rfl, hb, hcell⟩ := D2.out (by rw [HN.out]; exact h0)
      have x0 := (hcell 0 d0 HD.out).1
      rw [Nat.add_zero] at x0
      unfold CardV.value at x0
      obtain ⟨m, hm⟩ : ∃ m, ys.length = m := ⟨_, rfl⟩
      rw [hz0, hm] at x0
      rw [hm] at c2
      have HM := Lib.hid hm
      have k0 : ((n : Int) == 0) = false := by simpa using (by omega : ¬ (n : Int) = 0)
      have k1 : (0 : Int) < (n : Int) := by omega
      have hBw : B ≤ w2.heap.size := Nat.le_trans hB B2.out.size
      have hBw' : B' ≤ w2.heap.size := Nat.le_trans hB' B2.out.size
      rw [hm]
      clear hcell hb hb2 J1 J2 H2 hz0 hm hv HD c1 B1
      go_wp2
      go_region
      all_goals
        have B3 : Hid (Below w.heap.size w w2.drew) := below_drewN B2.out 1
        have C3 : Hid (w2.drew.cell? ⟨w.heap.size, 0, none⟩ = some (.slice A' m c')) := c2
        have D3 := Lib.hid D2.out.drew
        have Y3 := Lib.hid Y2.out.drew
        have hBw3 : B ≤ w2.drew.heap.size := hBw
        have hBw3' : B' ≤ w2.drew.heap.size := hBw'
        have hg0 : w.heap.size < w2.drew.heap.size := World.block_lt_of_cell? _ _ c2
        clear x0 c2 B2 D2 Y2 hBw hBw'
        generalize w2.drew = w3 at *
        go_wp2
        clear hmk
        have HROW : Hid (Row (w3.alloc (.cells (madeCells #[Value.int .i64 0] n) 2)) w3.heap.size (part ds 0) []) := by
          show Row _ _ _ _
          rw [part_zero, HLL.out, madeCells_int]
          exact Row.new_at _ _ rfl
        have hbb := below_box w3 (.cells (madeCells #[Value.int .i64 0] n) 2)
        have B4 := Lib.hid (below_step B3.out hbb)
        have C4 := Lib.hid (cell_kept C3.out hbb)
        have D4 := Lib.hid (D3.out.below (hbb.mono hBw3))
        have Y4 := Lib.hid (Y3.out.below (hbb.mono hBw3'))
        have hg2 : Hid (w3.heap.size < (w3.alloc (.cells (madeCells #[Value.int .i64 0] n) 2)).heap.size) := HROW.out.lt
        clear hbb B3 C3 D3 Y3
        generalize w3.alloc (.cells (madeCells #[Value.int .i64 0] n) 2) = w4 at *
        go_loopw [36] (fun i wr => ∃ k : Nat, k ≤ n ∧ i = .int .i64 k ∧ w4.grownBy wr (some w3.heap.size) ∧ Row wr w3.heap.size (part ds k) []) (fun i _ => n - (intOf i).toNat)
        case atStart => exact ⟨0, Nat.zero_le _, rfl, World.grownBy.refl _ _, HROW.out⟩
        case round =>
          obtain ⟨k, hk, rfl, hgr, hrow⟩ := hrel
          have B5 := Lib.hid (below_only B4.out hgr (by omega))
          by_cases hlt : k < n
          · obtain ⟨d, hd⟩ : ∃ d, D[k]? = some d := ⟨D[k]'(by rw [HN.out]; exact hlt), List.getElem?_eq_getElem _⟩
            have hbelow : Below w3.heap.size w4 wr := below_grown_at (Nat.le_of_lt hg2.out) hgr
            obtain ⟨b1, off1, hA1, _, hcell1⟩ := (D4.out.below (hbelow.mono hBw3)) (by rw [HN.out]; exact h0)
            obtain ⟨rfl, rfl⟩ : b1 = b ∧ off1 = off := by
              injection hA1 with hA1
              injection hA1 with e1 e2
              exact ⟨e1.symm, e2.symm⟩
            obtain ⟨x1, hi⟩ := hcell1 k d hd
            have c5 := cell_kept_at (p := ⟨w.heap.size, 0, none⟩) C4.out hbelow hg0
            have y5 := Y4.out.below (hbelow.mono hBw3')
            obtain ⟨l1, l2⟩ := HEACH.out k d hd
            have HFAR : Hid (∀ W, Ints W B d.at_ d.xs → Ints W B' A' ys → Calls Try.prog 89 #[.slice d.at_ d.xs.length d.cap, .slice A' ys.length c'] W fun e w' => e = .returned (.int .i64 (distN d.xs ys)) ∧ W = w') := fun W hI hI' => colsDist_any d.at_ A' d.cap c' d.xs ys B B' W hI hI' (HL.out d (List.mem_of_getElem? hd)) l2 l1 HLEG.out
            have hst := HGET.out k d hd
            have hset := part_set ds k (by rw [HLL.out]; exact hlt)
            rw [hst] at hset
            have hpl := part_length ds k (by rw [HLL.out]; exact hk)
            have z1 := (hrow.alloc (.cells #[d.value] 26)).cell (i := k) (by rw [hpl, HLL.out]; exact hlt)
            have z2 := (hrow.alloc (.cells #[d.value] 26)).frozen k
            obtain ⟨u, hu⟩ : ∃ u, (part ds k)[k]?.getD 0 = u := ⟨_, rfl⟩
            rw [hu] at z1
            have c6 := cell_kept c5 (below_box wr (.cells #[d.value] 26))
            rw [HM.out] at HFAR
            obtain ⟨v, hv⟩ : ∃ v, distN d.xs ys = v := ⟨_, rfl⟩
            rw [hv] at HFAR hset
            unfold CardV.value at x1 z1 z2 c6
            have HI := Lib.hid hi
            have HY := Lib.hid y5
            have HG := Lib.hid hgr
            have HRW := Lib.hid hrow
            have HSET := Lib.hid hset
            have HPL := Lib.hid hpl
            have hsz : B ≤ wr.heap.size := Nat.le_trans hBw3 (by have := hrow.lt; omega)
            have hsz' : B' ≤ wr.heap.size := Nat.le_trans hBw3' (by have := hrow.lt; omega)
            have j0 : (0 : Int) ≤ (k : Int) := Int.natCast_nonneg _
            have j1 : (k : Int) < (n : Int) := by omega
            clear hgr hrow hd hcell1 hA1 c5 hu hv hst hset hpl hi y5 hbelow l1 l2 B4 B5
            go_wp2_with fail
            refine (HFAR.out _ (HI.out.alloc hsz _) (HY.out.alloc hsz' _)).mono ?_
            rintro e w6 ⟨rfl, rfl⟩
            go_wp2
            go_roundw
            case rel =>
              refine ⟨k + 1, by omega, by go_num, only_step HG.out (only_step (only_box _ _ _) (only_set _ _ _ _)), ?_⟩
              rw [← HSET.out]
              exact (HRW.out.alloc _).set (by rw [HPL.out, HLL.out]; exact hlt) _
            case measure => simp [intOf]; omega
          · obtain rfl : k = n := by omega
            have hrow2 : Row wr w3.heap.size ds [] := by
              have := hrow
              rw [← HLL.out, part_all] at this
              exact this
            have hbm := best_min ds (k - 1)
            have hbf := best_first ds (k - 1)
            have hble := best_le ds (k - 1)
            have m1 := slicesMin_any (some ⟨w3.heap.size, 0, none⟩) k ds (w3.heap.size + 1) wr hrow2.ints (by rw [HLL.out]; exact h0) (by rw [HLL.out]; exact hn)
            have m2 := slicesIndex_any (some ⟨w3.heap.size, 0, none⟩) k ds (w3.heap.size + 1) (bestTo ds (k - 1)) (minTo ds (k - 1)) wr hrow2.ints (by rw [HLL.out]; exact hn) (by rw [HLL.out]; omega) hbm (fun u hu => by have := hbf u hu; omega)
            rw [HLL.out] at m1 m2
            have M1 := Lib.hid m1
            have M2 := Lib.hid m2
            have j1 : ¬ (k : Int) < (k : Int) := by omega
            clear hgr hrow hrow2 hbm hbf m1 m2
            go_wp2_with fail
            refine M1.out.mono ?_
            rintro e w6 ⟨rfl, rfl⟩
            go_wp2_with fail
            refine M2.out.mono ?_
            rintro e w7 ⟨rfl, rfl⟩
            go_wp2
            refine bodyPost_ret (v := .tuple #[.int .i64 (bestTo ds (k - 1) : Nat), .int .i64 (minTo ds (k - 1)), .int .i64 0]) (by simp [results, Try.results41, go_sem]) rfl ⟨rfl, B5.out⟩
end Go.Proofs.Ytjfogadcedgndaa
