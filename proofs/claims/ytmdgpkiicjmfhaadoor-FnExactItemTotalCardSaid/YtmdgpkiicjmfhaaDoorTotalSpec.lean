/- spec.ItemTotal answers the sum of the numbers in an item of all cards, or the code: contract. -/
import Derived.Test.YtmdgpkiicjmfhaaDoorTotalS
namespace Go.Proofs.YtmdgpkiicjmfhaaDoor
open Go.ChangeShapes Go.WideShapes Go.ChangeAt Go.RowKit

theorem totC_dk (u : Int) (ds : List It) (s : ByteArray) (H : List (List Int)) (h : dkC u ds s H ≠ 0) : totC u ds s H = dkC u ds s H ∧ totV u ds s H = 0 := by
  unfold totC totV dkC at *
  by_cases e : chkC u ds H ≠ 0
  · rw [if_pos e] at h ⊢
    rw [if_pos e, if_pos e]
    exact ⟨rfl, rfl⟩
  · rw [if_neg e] at h ⊢
    rw [if_neg e, if_neg e]
    rcases itemOf_cases ds s with ⟨h1, _, h3⟩ | ⟨p, d, _, _, h1, _, h3⟩
    · rw [h1, h3]
      exact ⟨rfl, rfl⟩
    · rw [h3, if_pos rfl] at h
      exact absurd rfl h
/-- what is known where the checks pass -/
theorem dkC_zero {u : Int} {ds : List It} {s : ByteArray} {H : List (List Int)} (h : dkC u ds s H = 0) : ∃ (p : Nat) (d : It), ds[p]? = some d ∧ dkV u ds s H = p ∧ askC u ds s = 0 ∧ askV u ds s = p ∧ chkC u ds H = 0 ∧ layoutB u ds = true ∧ deckB H = true ∧ (H.length = 0 ∨ (firstZ H : Int) = u) ∧
    totC u ds s H = (if d.kind ≠ 2 then 6 else match sumTo H d.f0.toNat d.f1.toNat H.length with | none => 8 | some _ => 0) ∧ totV u ds s H = (if d.kind ≠ 2 then 0 else match sumTo H d.f0.toNat d.f1.toNat H.length with | none => 0 | some n => n) ∧ itemOf ds s = some d := by
  unfold dkC at h
  by_cases e : chkC u ds H ≠ 0
  · rw [if_pos e] at h
    exact absurd h e
  · rw [if_neg e] at h
    have e' : chkC u ds H = 0 := by simpa using e
    obtain ⟨_, hv, hv', h0⟩ : chkC u ds H = 0 ∧ layoutB u ds = true ∧ deckB H = true ∧ (H.length = 0 ∨ (firstZ H : Int) = u) := by
      rcases chkC_cases u ds H with h' | h' | h' | h' <;> first | exact h' | (rw [e'] at h'; exact absurd h'.1 (by decide))
    rcases itemOf_cases ds s with ⟨h1, _, h3⟩ | ⟨p, d, _, hd, h1, h2, h3⟩
    · rw [h3] at h
      exact absurd h (by decide)
    · refine ⟨p, d, hd, ?_, ?_, ?_, e', hv, hv', h0, ?_, ?_, h1⟩
      · rw [dkV, if_neg e, h3, if_pos rfl, h2]
      · rw [askC, if_pos hv, if_pos h3]
      · rw [askV, if_pos hv, if_pos h3, h2]
      · rw [totC, if_neg e, h1]
        rfl
      · rw [totV, if_neg e, h1]
        rfl
/-- the field of an item of numbers, on each card -/
theorem item_field {u : Int} {ds : List It} {p : Nat} {d : It} {H : List (List Int)} (hv : layoutB u ds = true) (hd : ds[p]? = some d) (hk : d.kind = 2) (hv' : deckB H = true) (h0 : H.length = 0 ∨ (firstZ H : Int) = u) :
    ∃ i j : Nat, d.f0 = i ∧ d.f1 = j ∧ i < j ∧ j - i ≤ 12 ∧ ∀ (k : Nat) (xs : List Int), H[k]? = some xs → okB xs = true ∧ j ≤ xs.length ∧ partCode xs i j = 0 := by
  obtain ⟨hf, hk'⟩ := itemB_field (layout_item hv hd)
  have h' : 0 ≤ d.f0 ∧ d.f0 < d.f1 ∧ d.f1 ≤ u := by simpa [fieldB] using hf
  have h12 : d.f1 - d.f0 ≤ 12 := by omega
  refine ⟨d.f0.toNat, d.f1.toNat, by omega, by omega, by omega, by omega, fun k xs hx => ?_⟩
  have hm := List.mem_of_getElem? hx
  have hgood : okB xs = true ∧ xs.length = firstZ H := by
    rw [deckB, Bool.and_eq_true] at hv'
    have := List.all_eq_true.1 hv'.1 xs hm
    rw [goodB, Bool.and_eq_true, decide_eq_true_eq] at this
    exact this
  have hpos : H.length ≠ 0 := by
    intro e
    rw [List.length_eq_zero_iff] at e
    rw [e] at hm
    cases hm
  have hz : (firstZ H : Int) = u := by omega
  refine ⟨hgood.1, by omega, ?_⟩
  rw [partCode, hgood.1, if_neg (by simp)]
  have hfb : fieldB (d.f0.toNat : Int) (d.f1.toNat : Int) xs.length = true := by
    simp only [fieldB, Bool.and_eq_true, decide_eq_true_eq]
    omega
  rw [hfb]
  rfl

set_option maxHeartbeats 2000000 in
theorem specTotal_any (s : ByteArray) (u : Int) (A : Option Addr) (c : Nat) (ds : List It) (A' : Option Addr) (c' : Nat) (D : List CardV) (B B' : Nat) (w : World) (h : Items w B A ds) (h' : Deck w B' A' D) (hB : B ≤ w.heap.size) (hB' : B' ≤ w.heap.size) (hn : ds.length ≤ 1048576) (hn' : D.length ≤ 1048576) (hl : ∀ d ∈ D, d.xs.length ≤ 1048576) (hcap : ∀ d ∈ D, d.xs.length ≤ d.cap ∧ d.cap ≤ 9223372036854775807) :
    Calls Tryd.prog 7 #[.agg #[.int .i64 u, .slice A ds.length c], .slice A' D.length c', .string s] w fun e w' => e = .returned (.tuple #[.int .i64 (totV u ds s (holes D)), .int .i64 (totC u ds s (holes D))]) ∧ Below w.heap.size w w' := by
  have b0 := below_box w (.cells #[.int .i64 u, .slice A ds.length c] 32)
  have p0 : (w.alloc (.cells #[.int .i64 u, .slice A ds.length c] 32)).cell? ⟨w.heap.size, 0, none⟩ = some (.int .i64 u) := by simp
  have p1 : (w.alloc (.cells #[.int .i64 u, .slice A ds.length c] 32)).cell? ⟨w.heap.size, 1, none⟩ = some (.slice A ds.length c) := by simp
  have hdk := l04Deck_any s u A c ds A' c' D B B' w.heap.size _ p0 p1 (h.below (b0.mono hB)) (h'.below (b0.mono hB')) (by simp; omega) (by simp; omega) hn hn' hl
  have B0 := Lib.hid b0
  by_cases e : dkC u ds s (holes D) = 0
  · obtain ⟨p, d, hd, hvp, _, _, _, hv, hv', h0, hC, hV, _⟩ := dkC_zero e
    rw [e, hvp] at hdk
    rw [hC, hV]
    have HD := Lib.hid hdk
    obtain ⟨hpl, _⟩ := List.getElem?_eq_some_iff.1 hd
    have hds := (layout_size hv).1
    obtain ⟨n, hN⟩ : ∃ n, D.length = n := ⟨_, rfl⟩
    have hHl : (holes D).length = n := by simp [holes, hN]
    have HN := Lib.hid hN
    have HH := Lib.hid h
    have HH' := Lib.hid h'
    have HL := Lib.hid hl
    have HCP := Lib.hid hcap
    have hpos : 0 < ds.length := by omega
    obtain ⟨m, hM⟩ : ∃ m, ds.length = m := ⟨_, rfl⟩
    rw [hM] at HD hpl p1 hpos hds B0
    simp only [hN] at HD
    rw [hHl, hN]
    rw [hM]
    have k0 : (0 : Int) ≤ (p : Int) := Int.natCast_nonneg _
    have k1 : (p : Int) < (m : Int) := by omega
    by_cases hk : d.kind = 2
    · obtain ⟨i, j, hi, hj, hij, h12, hcards⟩ := item_field hv hd hk hv' h0
      rw [if_neg (by simp [hk]), if_neg (by simp [hk]), hi, hj, Int.toNat_natCast, Int.toNat_natCast]
      have HCA := Lib.hid hcards
      obtain ⟨r, hr⟩ : ∃ r, sumTo (holes D) i j n = r := ⟨_, rfl⟩
      rw [hr]
      have HR := Lib.hid hr
      have hn40 : n ≤ 40 := by
        rw [deckB, Bool.and_eq_true, decide_eq_true_eq, hHl] at hv'
        exact hv'.2
      obtain ⟨bi, oi, rfl, hbi, hcell⟩ := h (by omega)
      obtain ⟨_, c1, c2, c3⟩ := hcell p d hd
      rw [hk] at c1
      rw [hi] at c2
      rw [hj] at c3
      have i0 : (0 : Int) ≤ (i : Int) := Int.natCast_nonneg _
      clear hdk hd hvp hv hv' h0 hC hV h h' hl hcap b0 hM hN hHl hcell hk hi hj hcards hr e hpos p0
      go_enter Tryd.func7, Tryd.ntmps7
      go_wp2_with fail
      refine HD.out.mono ?_
      rintro e w1 ⟨rfl, hb⟩
      have B1 := Lib.hid (below_step B0.out hb)
      have q1 := cell_kept p1 hb
      have d1 := cell_kept (cell_kept c1 B0.out) hb
      have d2 := cell_kept (cell_kept c2 B0.out) hb
      have d3 := cell_kept (cell_kept c3 B0.out) hb
      clear hb p1 c1 c2 c3 HD B0
      go_wp2_with fail
      go_loopw [10, 11] (fun t x wr => ∃ k : Nat, ∃ v : Int, k ≤ n ∧ x = .int .i64 k ∧ t = .int .i64 v ∧ Hid (sumTo (holes D) i j k = some v) ∧ Hid (Below w1.heap.size w1 wr)) (fun _ x _ => n - (intOf x).toNat)
      case atStart => exact ⟨0, 0, Nat.zero_le _, rfl, rfl, rfl, Below.refl _ _⟩
      case round =>
        obtain ⟨k, v, hk, rfl, rfl, HS, HB⟩ := hrel
        have q2 := cell_kept q1 HB.out
        have f1 := cell_kept d1 HB.out
        have f2 := cell_kept d2 HB.out
        have f3 := cell_kept d3 HB.out
        have HBW := Lib.hid (below_step B1.out HB.out)
        by_cases hlt : k < n
        · obtain ⟨dd, hdd⟩ : ∃ d, D[k]? = some d := ⟨D[k]'(by rw [HN.out]; exact hlt), List.getElem?_eq_getElem _⟩
          have hxs : (holes D)[k]? = some dd.xs := by simp [holes, hdd]
          obtain ⟨g1, g2, g3⟩ := HCA.out k dd.xs hxs
          obtain ⟨bq, oq, rfl, _, hcell⟩ := (HH'.out.below (HBW.out.mono hB')) (by rw [HN.out]; omega)
          obtain ⟨hc, hic⟩ := hcell k dd hdd
          have hm := List.mem_of_getElem? hdd
          obtain ⟨m1, m2⟩ := HCP.out dd hm
          have hx1 := HL.out dd hm
          obtain ⟨ad, zd, xd⟩ := dd
          simp only at hc hic m1 m2 hx1 g1 g2 g3 hxs
          unfold CardV.value at hc
          simp only at hc
          obtain ⟨b2, o2, rfl, _⟩ := hic (by omega)
          have hpl2 := partOf_length xd i j g2
          have hpart := fun W hc => l02Part_any b2 o2 zd xd bq (oq + k) i j W hc m1 ⟨hx1, m2⟩ hij g2
          have hnum := fun W hI => l03Number_any b2 (o2 + i) (zd - i) (partOf xd i j) B' W hI (by omega) (by omega) (legal_part (okB_parts g1).1 i j)
          simp only [hpl2] at hnum
          obtain ⟨o, ho⟩ : ∃ o, numOf (partOf xd i j) = o := ⟨_, rfl⟩
          simp only [ho] at hnum
          have Ho := Lib.hid ho
          have HXS := Lib.hid hxs
          have HPA := Lib.hid hpart
          have HNU := Lib.hid hnum
          have HPT := Lib.hid (hic.part i j hij g2)
          have kk0 : (0 : Int) ≤ (k : Int) := Int.natCast_nonneg _
          have kk1 : (k : Int) < (n : Int) := by omega
          clear hcell hdd hxs hic hpart hnum ho g1 g2 g3 m1 m2 hx1 hm hpl2
          go_wp2_with fail
          go_region_held3 (fun W => W.cell? ⟨w.heap.size, 1, none⟩ = some (.slice (some ⟨bi, oi, none⟩) m c) ∧ W.cell? ⟨bi, oi + p * 4 + 2, none⟩ = some (.int .i64 i) ∧ W.cell? ⟨bi, oi + p * 4 + 3, none⟩ = some (.int .i64 j))
            (first | exact ⟨q2, f2, f3⟩ | exact ⟨q3, h2, h3⟩)
            (first
              | (go_at_call 19
                 refine (HPA.out _ ?_).mono ?_
                 · exact hc
                 rintro e w5 ⟨rfl, hb⟩
                 have HB5 := Lib.hid (below_step HB.out.drew hb)
                 have q3 := cell_kept (w := wr.drew) q2 hb
                 have h2 := cell_kept (w := wr.drew) f2 hb
                 have h3 := cell_kept (w := wr.drew) f3 hb
                 have HI5 := Lib.hid (HPT.out.drew.below (w' := w5) (hb.mono (Nat.le_trans hB' HBW.out.size)))
                 clear hb)
              | (go_at_call 18
                 refine (HNU.out _ HI5.out).mono ?_
                 rintro e w6 ⟨rfl, rfl⟩))
          all_goals
            cases o with
            | none =>
              obtain rfl : r = none := by rw [← HR.out]; exact sumTo_stop HXS.out Ho.out hlt
              go_wp2
              go_ret2
              exact ⟨rfl, below_step B1.out HB5.out⟩
            | some z =>
              have HS1 := Lib.hid (show sumTo (holes D) i j (k + 1) = some (wrap64 (v + numV (some z))) from sumTo_more HS.out HXS.out Ho.out)
              go_wp2
              go_roundw
              case rel => exact ⟨k + 1, _, by omega, by go_num, rfl, HS1, HB5⟩
              case measure => simp [intOf]; omega
        · have hkn : k = n := by omega
          have kk1 : ¬ (k : Int) < (n : Int) := by omega
          obtain rfl : r = some v := by rw [← HR.out, ← hkn]; exact HS.out
          clear hkn
          go_wp2
          go_ret2
          exact ⟨rfl, HBW.out⟩
    · rw [if_pos hk, if_pos hk]
      obtain ⟨bi, oi, rfl, hbi, hcell⟩ := h (by omega)
      obtain ⟨_, c1, _, _⟩ := hcell p d hd
      have hk' : (d.kind != 2) = true := by simpa using hk
      obtain ⟨kd, hkd⟩ : ∃ kd, d.kind = kd := ⟨_, rfl⟩
      rw [hkd] at c1 hk'
      clear hdk hd hvp hv hv' h0 hC hV h h' hl hcap b0 hM hN hHl hcell hk e hpos p0 hkd
      go_enter Tryd.func7, Tryd.ntmps7
      go_wp2_with fail
      refine HD.out.mono ?_
      rintro e w1 ⟨rfl, hb⟩
      have B1 := Lib.hid (below_step B0.out hb)
      have q1 := cell_kept p1 hb
      have d1 := cell_kept (cell_kept c1 B0.out) hb
      clear hb p1 c1 HD B0
      go_wp2
      go_ret2
      exact ⟨rfl, B1.out⟩
  · obtain ⟨hC, hV⟩ := totC_dk u ds s (holes D) e
    rw [hC, hV]
    obtain ⟨q, hq⟩ : ∃ q, dkC u ds s (holes D) = q := ⟨_, rfl⟩
    rw [hq] at hdk e ⊢
    have e0 : (q == 0) = false := by simpa using e
    have e1 : (q != 0) = true := by simpa using e
    obtain ⟨n, hN⟩ : ∃ n, D.length = n := ⟨_, rfl⟩
    obtain ⟨m, hM⟩ : ∃ m, ds.length = m := ⟨_, rfl⟩
    rw [hN, hM] at hdk
    rw [hM] at B0
    rw [hN, hM]
    have HD := Lib.hid hdk
    clear hdk hC hV h h' hl hcap b0 hN hM hq e p0 p1
    go_enter Tryd.func7, Tryd.ntmps7
    go_wp2_with fail
    refine HD.out.mono ?_
    rintro e w1 ⟨rfl, hb⟩
    have B1 := Lib.hid (below_step B0.out hb)
    clear hb
    go_wp2
    go_ret2
    exact ⟨rfl, B1.out⟩
end Go.Proofs.YtmdgpkiicjmfhaaDoor
