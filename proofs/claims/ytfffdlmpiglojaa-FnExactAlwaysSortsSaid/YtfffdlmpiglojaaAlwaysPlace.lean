/- Where a sorter's pockets are gathered: spec.l07Order, l08Place and l08Pair answer the places of characters, and how passes order two of them: contracts. -/
import Derived.Test.YtfffdlmpiglojaaCodes
import Derived.Test.YtfffdlmpiglojaaOrder
import Derived.Test.YtfffdlmpiglojaaPasses
import Derived.Test.YtfffdlmpiglojaaAlwaysMath
namespace Go.Proofs.Ytfffdlmpiglojaa
open Go.ChangeShapes Go.WideShapes Go.ChangeAt Go.RowKit

/-- the pockets in the order in which they are gathered -/
def orderP (m : Int) : List Int := if m = 1 then [12, 0, 1, 2, 3, 4, 5, 6, 7, 8, 9] else [12, 11, 10, 0, 1]
theorem orderP_length (m : Int) : (orderP m).length ≤ 11 := by unfold orderP; split <;> decide
theorem l07Order_any (m : Int) (w : World) :
    Calls Try.prog 80 #[.int .i64 m] w fun e w' => ∃ g, e = .returned (.slice (some ⟨g, 0, none⟩) (orderP m).length (orderP m).length) ∧ w.heap.size ≤ g ∧ Below w.heap.size w w' ∧ Row w' g (orderP m) [] := by
  by_cases h : m = 1
  · subst h
    go_enter Try.func80, Try.ntmps80
    go_wp2
    go_ret
    exact ⟨w.heap.size, rfl, Nat.le_refl _, below_box w _, heap_alloc_new w _⟩
  · have e1 : (m == 1) = false := by simpa using h
    have e : orderP m = [12, 11, 10, 0, 1] := if_neg h
    rw [e]
    clear h e
    go_enter Try.func80, Try.ntmps80
    go_wp2
    go_ret
    exact ⟨w.heap.size, rfl, Nat.le_refl _, below_box w _, heap_alloc_new w _⟩

/-- the place of the pocket of the character of rank k -/
def placeN (k : Nat) (m : Int) : Nat := (orderP m).idxOf (pocketP [codeS (charR k)] 0 m)
def placeV (k : Nat) (m : Int) : Int := placeN k m
def placeOk (k : Nat) (m : Int) : Bool := decide (placeN k m < (orderP m).length) && decide ((orderP m)[placeN k m]? = some (pocketP [codeS (charR k)] 0 m)) && (List.range (placeN k m)).all (fun j => decide ((orderP m)[j]? ≠ some (pocketP [codeS (charR k)] 0 m))) && okB [codeS (charR k)]
theorem place_all1 : ∀ k : Fin 40, placeOk k.val 1 = true := by decide +kernel
theorem place_all2 : ∀ k : Fin 40, placeOk k.val 2 = true := by decide +kernel
theorem place_at {k : Nat} (hk : k < 40) {m : Int} (hm : m = 1 ∨ m = 2) : placeN k m < (orderP m).length ∧ (orderP m)[placeN k m]? = some (pocketP [codeS (charR k)] 0 m) ∧ (∀ j, j < placeN k m → (orderP m)[j]? ≠ some (pocketP [codeS (charR k)] 0 m)) ∧ okB [codeS (charR k)] = true := by
  have h : placeOk k m = true := by
    rcases hm with rfl | rfl
    · exact place_all1 ⟨k, hk⟩
    · exact place_all2 ⟨k, hk⟩
  simp only [placeOk, Bool.and_eq_true, decide_eq_true_eq, List.all_eq_true, List.mem_range] at h
  exact ⟨h.1.1.1, h.1.1.2, h.1.2, h.2⟩
theorem places_rise : ∀ i k : Fin 40, i.val < k.val → placeN i.val 2 < placeN k.val 2 ∨ (placeN i.val 2 = placeN k.val 2 ∧ placeN i.val 1 < placeN k.val 1) := by decide +kernel
theorem places_F1 (i k : Nat) (hi : i < k) (hk : k < 40) : placeV i 2 < placeV k 2 ∨ (placeV i 2 = placeV k 2 ∧ placeV i 1 < placeV k 1) := by
  have := places_rise ⟨i, by omega⟩ ⟨k, hk⟩ hi
  unfold placeV
  simp only at this
  omega
theorem places_F2 : placeV 2 2 = placeV 3 2 := by decide +kernel
theorem places_F3 : placeV 12 1 < placeV 3 1 := by decide +kernel

set_option maxHeartbeats 1000000 in
theorem l08Place_any (k : Nat) (m : Int) (hk : k < 40) (hm : m = 1 ∨ m = 2) (w : World) :
    Calls Try.prog 73 #[.int .u8 (charR k), .int .i64 m] w fun e w' => e = .returned (.int .i64 (placeV k m)) ∧ Below w.heap.size w w' := by
  obtain ⟨p1, p2, p3, p4⟩ := place_at hk hm
  obtain ⟨c0, c1⟩ := charR_le k
  have hc := fun W => l03Code_any (charR k) c0 c1 W
  have ho := fun W => l07Order_any m W
  have hq : ∀ (W : World) (g b : Nat), W.cell? ⟨b, 0, none⟩ = some (.slice (some ⟨g, 0, none⟩) 1 1) → Ints W (g + 1) (some ⟨g, 0, none⟩) [codeS (charR k)] → Calls Try.prog 51 #[.pointer (some ⟨b, 0, none⟩), .agg #[.int .i64 0, .int .i64 m]] W fun e w' => e = .returned (.int .i64 (pocketP [codeS (charR k)] 0 m)) ∧ Below W.heap.size W w' := fun W g b h1 h2 => l07Pocket_any (some ⟨g, 0, none⟩) 1 [codeS (charR k)] (g + 1) b 0 0 m W h1 h2 (by simp) p4
  have hln := orderP_length m
  unfold placeV
  obtain ⟨v, hv⟩ : ∃ v, placeN k m = v := ⟨_, rfl⟩
  obtain ⟨L, hL⟩ : ∃ L, orderP m = L := ⟨_, rfl⟩
  obtain ⟨x, hx⟩ : ∃ x, pocketP [codeS (charR k)] 0 m = x := ⟨_, rfl⟩
  obtain ⟨y, hy⟩ : ∃ y, codeS (charR k) = y := ⟨_, rfl⟩
  obtain ⟨u, hu⟩ : ∃ u, charR k = u := ⟨_, rfl⟩
  rw [hv, hL, hx] at p2 p3
  rw [hv, hL] at p1
  rw [hL] at hln
  rw [hv]
  simp only [hL] at ho
  simp only [hx] at hq
  simp only [hy] at hc hq
  simp only [hu] at hc ⊢
  obtain ⟨n, hN⟩ : ∃ n, L.length = n := ⟨_, rfl⟩
  rw [hN] at hln p1
  simp only [hN] at ho
  have HC := Lib.hid hc
  have HO := Lib.hid ho
  have HQ := Lib.hid hq
  have P2 := Lib.hid p2
  have P3 := Lib.hid p3
  have HN := Lib.hid hN
  clear hc ho hq p2 p3 hv hL hx hy hu p4 c0 c1 hk hm hN
  go_enter Try.func73, Try.ntmps73
  go_wp2_with (go_at_call 79; refine (HC.out _).mono ?_; rintro e w' ⟨rfl, rfl⟩)
  refine (HQ.out _ w.heap.size (w.heap.size + 1) ?_ ?_).mono ?_
  · simp [go_sem]
  · exact fun _ => ⟨w.heap.size, 0, rfl, Nat.lt_succ_self _, fun i hi => by
      match i, hi with
      | 0, _ => simp [go_sem]⟩
  rintro e w1 ⟨rfl, hb⟩
  have B1 := Lib.hid (below_step ((below_box w _).alloc (by simp) _) hb)
  clear hb
  go_wp2_with fail
  refine (HO.out _).mono ?_
  rintro e w2 ⟨g, rfl, hg, hb, hr⟩
  have B2 := Lib.hid (below_step B1.out hb)
  have HR := Lib.hid hr
  clear hb hg hr
  go_wp2_with fail
  go_loop [8] (fun i => ∃ t : Nat, t ≤ v ∧ i = .int .i64 t) (fun i => n - (intOf i).toNat)
  case atStart => exact ⟨0, Nat.zero_le _, rfl⟩
  case round =>
    obtain ⟨t, ht, rfl⟩ := hrel
    have hc := HR.out.cell (i := t) (by rw [HN.out]; omega)
    have k0 : (0 : Int) ≤ (t : Int) := Int.natCast_nonneg _
    have k1 : (t : Int) < (n : Int) := by omega
    by_cases htv : t = v
    · rw [htv, P2.out] at hc
      have hc' : w2.cell? ⟨g, v, none⟩ = some (.int .i64 x) := hc
      clear hc
      subst htv
      go_wp2
      go_ret
      exact ⟨rfl, B2.out⟩
    · obtain ⟨y, hy⟩ : ∃ y, L[t]? = some y := ⟨L[t]'(by rw [HN.out]; omega), List.getElem?_eq_getElem _⟩
      have hne := P3.out t (by omega)
      rw [hy] at hc hne
      have hc' : w2.cell? ⟨g, t, none⟩ = some (.int .i64 y) := hc
      have e1 : (y == x) = false := by
        simp only [beq_eq_false_iff_ne, ne_eq]
        intro e
        exact hne (by rw [e])
      clear hc hy hne
      go_wp2
      go_round
      case rel => exact ⟨t + 1, by omega, by go_num⟩
      case measure => simp [intOf]; omega

/-- how passes order the characters of ranks i and k in column c -/
def pairV (P : List (Int × Int)) (c : Int) (i k : Nat) : Bool := (scanP placeV c i k P).getD false
set_option maxHeartbeats 1000000 in
theorem l08Pair_any (A : Option Addr) (z : Nat) (P : List (Int × Int)) (c : Int) (i k : Nat) (B : Nat) (w : World) (h : Passes w B A P) (hB : B ≤ w.heap.size) (hn : P.length ≤ 40) (hm : ∀ p ∈ P, p.2 = 1 ∨ p.2 = 2) (hi : i < 40) (hk : k < 40) :
    Calls Try.prog 61 #[.slice A P.length z, .int .i64 c, .int .u8 (charR i), .int .u8 (charR k)] w fun e w' => e = .returned (.bool (pairV P c i k)) ∧ Below w.heap.size w w' := by
  have hp := fun j m (hj : j < 40) hm W => l08Place_any j m hj hm W
  obtain ⟨n, hN⟩ : ∃ n, P.length = n := ⟨_, rfl⟩
  obtain ⟨r, hr⟩ : ∃ r, pairV P c i k = r := ⟨_, rfl⟩
  rw [hN] at hn
  rw [hN, hr]
  have H := Lib.hid h
  have HN := Lib.hid hN
  have HR := Lib.hid hr
  have HM := Lib.hid hm
  have hpi := fun m hm W => hp i m hi hm W
  have hpk := fun m hm W => hp k m hk hm W
  obtain ⟨ci, hci⟩ : ∃ ci, charR i = ci := ⟨_, rfl⟩
  obtain ⟨ck, hck⟩ : ∃ ck, charR k = ck := ⟨_, rfl⟩
  simp only [hci] at hpi
  simp only [hck] at hpk
  rw [hci, hck]
  have HPI := Lib.hid hpi
  have HPK := Lib.hid hpk
  clear h hN hr hm hp hpi hpk hci hck
  go_enter Try.func61, Try.ntmps61
  go_wp2
  go_loopw [9] (fun v wr => ∃ t : Nat, ∃ y : Int, t ≤ n ∧ v = .int .i64 y ∧ y = (t : Int) - 1 ∧ Hid (scanP placeV c i k (P.drop t) = none) ∧ Hid (Below w.heap.size w wr)) (fun v _ => (intOf v + 1).toNat)
  case atStart => exact ⟨n, (n : Int) - 1, Nat.le_refl _, rfl, rfl, by show _ = _; rw [List.drop_of_length_le (by rw [HN.out]; exact Nat.le_refl _)]; rfl, Below.refl _ _⟩
  case round =>
    obtain ⟨t, y, ht, rfl, hy, HK, HB⟩ := hrel
    by_cases h0 : 1 ≤ t
    · obtain ⟨s, rfl⟩ : ∃ s, t = s + 1 := ⟨t - 1, by omega⟩
      obtain rfl : y = (s : Int) := by omega
      obtain ⟨q, hq⟩ : ∃ q, P[s]? = some q := ⟨P[s]'(by rw [HN.out]; omega), List.getElem?_eq_getElem _⟩
      obtain ⟨b, off, rfl, hb, hcell⟩ := (H.out.below (HB.out.mono hB)) (by rw [HN.out]; omega)
      obtain ⟨c1, c2⟩ := hcell s q hq
      have hmq := HM.out q (List.mem_of_getElem? hq)
      have hdr : P.drop s = q :: P.drop (s + 1) := by
        obtain ⟨hs, e⟩ := List.getElem?_eq_some_iff.1 hq
        rw [List.drop_eq_getElem_cons hs, e]
      have hsc : scanP placeV c i k (P.drop s) = saysP placeV c i k q := by rw [hdr, scanP, HK.out]
      have hpre : ∀ u, saysP placeV c i k q = some u → r = u := fun u hu => by
        have e : P = P.take s ++ P.drop s := (List.take_append_drop s P).symm
        rw [← HR.out, pairV, e, scan_append, hsc, hu]
        rfl
      obtain ⟨q1, q2⟩ := q
      simp only at c1 c2 hmq
      have HSC := Lib.hid hsc
      have HPRE := Lib.hid hpre
      have k0 : (0 : Int) ≤ (s : Int) := Int.natCast_nonneg _
      have k1 : (s : Int) < (n : Int) := by omega
      have k2 : (s : Int) ≥ 0 := k0
      have bx := below_box wr (.cells #[.int .i64 q1, .int .i64 q2] 40)
      have x1 : (wr.alloc (.cells #[.int .i64 q1, .int .i64 q2] 40)).cell? ⟨wr.heap.size, 1, none⟩ = some (.int .i64 q2) := by simp
      have B1 := Lib.hid (below_step HB.out bx)
      clear hcell hq hdr hsc hpre hy hb bx
      by_cases hlt : q1 < c
      · have HK1 : Hid (scanP placeV c i k (P.drop s) = none) := by show _ = _; rw [HSC.out]; exact says_lt _ hlt
        go_wp2
        go_roundw
        case rel => exact ⟨s, (s : Int) - 1, by omega, by go_num, rfl, HK1, B1⟩
        case measure => simp [intOf]
      · by_cases hgt : c < q1
        · obtain rfl : r = false := HPRE.out false (says_gt _ hgt)
          have hgt' : q1 > c := hgt
          go_wp2
          go_ret
          exact ⟨rfl, B1.out⟩
        · obtain rfl : q1 = c := by omega
          have HI2 := Lib.hid (fun W => HPI.out q2 hmq W)
          have HK2 := Lib.hid (fun W => HPK.out q2 hmq W)
          obtain ⟨u1, hu1⟩ : ∃ u, placeV i q2 = u := ⟨_, rfl⟩
          obtain ⟨u2, hu2⟩ : ∃ u, placeV k q2 = u := ⟨_, rfl⟩
          simp only [hu1] at HI2
          simp only [hu2] at HK2
          have hgt' : ¬ q1 > q1 := hgt
          by_cases he : u1 = u2
          · have HK1 : Hid (scanP placeV q1 i k (P.drop s) = none) := by
              show _ = _
              rw [HSC.out]
              exact says_eq _ rfl (by simp only; rw [hu1, hu2]; exact he)
            clear hu1 hu2
            subst he
            go_wp2_with fail
            refine (HI2.out _).mono ?_
            rintro e w2 ⟨rfl, hb⟩
            have x2 := cell_kept x1 hb
            have B2 := Lib.hid (below_step B1.out hb)
            clear hb
            go_wp2_with fail
            refine (HK2.out _).mono ?_
            rintro e w3 ⟨rfl, hb⟩
            have B3 := Lib.hid (below_step B2.out hb)
            clear hb
            go_wp2
            go_roundw
            case rel => exact ⟨s, (s : Int) - 1, by omega, by go_num, rfl, HK1, B3⟩
            case measure => simp [intOf]
          · obtain rfl : r = decide (u1 < u2) := HPRE.out _ (by rw [says_ne placeV (p := (q1, q2)) rfl (by simp only; rw [hu1, hu2]; exact he)]; simp only [hu1, hu2])
            have e1 : (u1 != u2) = true := by simpa using he
            clear hu1 hu2
            go_wp2_with fail
            refine (HI2.out _).mono ?_
            rintro e w2 ⟨rfl, hb⟩
            have x2 := cell_kept x1 hb
            have B2 := Lib.hid (below_step B1.out hb)
            clear hb
            go_wp2_with fail
            refine (HK2.out _).mono ?_
            rintro e w3 ⟨rfl, hb⟩
            have B3 := Lib.hid (below_step B2.out hb)
            clear hb
            go_wp2
            go_ret
            exact ⟨rfl, B3.out⟩
    · obtain rfl : t = 0 := by omega
      obtain rfl : y = -1 := by omega
      obtain rfl : r = false := by
        have := HK.out
        rw [List.drop_zero] at this
        rw [← HR.out, pairV, this]
        rfl
      clear hy
      go_wp2
      go_ret
      exact ⟨rfl, HB.out⟩
end Go.Proofs.Ytfffdlmpiglojaa
