/- slices.symMergeCmpFunc at int64 merges two sorted stretches, whose numbers in the second are all greater: a contract. -/
import Derived.Test.YtmmppflaacabbaaDoorSymOne
import Derived.Deep.DeepCutAuto
namespace Go.Proofs.YtmmppflaacabbaaDoor
open Go.ChangeShapes Go.WideShapes Go.ChangeAt Go.RowKit

/-- what a merge is asked -/
structure MergeIn (cf : Int → Int → Int) (ok : Int → Prop) (g n a m b : Nat) (kp : Value) (X U V Z : List Int) (ex : List Value) (w : World) : Prop where
  row : Row w g (X ++ (U ++ (V ++ Z))) ex
  cmp : Cmps cf ok g kp w
  su : Srt cf U
  sv : Srt cf V
  lt : ∀ x ∈ U, ∀ y ∈ V, x < y
  oku : ∀ x ∈ U, ok x
  okv : ∀ x ∈ V, ok x
  ha : X.length = a
  hm : a + U.length = m
  hb : m + V.length = b
  hn : b + Z.length = n
  n2 : n ≤ 1048576
  pu : 0 < U.length
  pv : 0 < V.length
/-- what it leaves -/
def MergeOut (cf : Int → Int → Int) (g : Nat) (X U V Z : List Int) (ex : List Value) (w : World) (e : Ending) (w' : World) : Prop :=
  e = .returned (.tuple #[]) ∧ ∃ M, M.Perm (U ++ V) ∧ Srt cf M ∧ w.grownBy w' (some g) ∧ Row w' g (X ++ (M ++ Z)) ex

/-- the search's bounds -/
structure Bnd (a m b mid N s0 r0 : Nat) : Prop where
  nm : N = mid + m
  as0 : a ≤ s0
  sr : s0 ≤ r0
  rm : r0 ≤ m
  lo : ∀ c, s0 ≤ c → c < r0 → m + c + 1 ≤ N ∧ N ≤ b + c
  s0m : N ≤ b + s0
  r0m : m + r0 ≤ N
  am : a < mid
  mb : mid < b
  ends : (s0 = a ∨ N = b + s0) ∧ (r0 = m ∨ r0 = mid)
theorem bnd_of {a m b mid : Nat} (h : (a + b) / 2 = mid) (h1 : a + 2 ≤ m) (h2 : m + 2 ≤ b) :
    (mid < m ∧ Bnd a m b mid (mid + m) (mid + m - b) mid) ∨ (m ≤ mid ∧ Bnd a m b mid (mid + m) a m) := by
  rcases Nat.lt_or_ge mid m with hlt | hge
  · left
    exact ⟨hlt, { nm := rfl, as0 := by omega, sr := by omega, rm := by omega, lo := fun c h1 h2 => ⟨by omega, by omega⟩, s0m := by omega, r0m := by omega, am := by omega, mb := by omega, ends := ⟨Or.inr (by omega), Or.inr rfl⟩ }⟩
  · right
    exact ⟨hge, { nm := rfl, as0 := by omega, sr := by omega, rm := by omega, lo := fun c h1 h2 => ⟨by omega, by omega⟩, s0m := by omega, r0m := by omega, am := by omega, mb := by omega, ends := ⟨Or.inl rfl, Or.inl rfl⟩ }⟩
theorem take_last {L : List Int} {k : Nat} {u : Int} (h : (L.take k).getLast? = some u) (hk : k ≤ L.length) : 0 < k ∧ L[k - 1]? = some u := by
  rcases Nat.eq_zero_or_pos k with rfl | h0
  · simp at h
  · refine ⟨h0, ?_⟩
    rw [List.getLast?_eq_getElem?, List.length_take, Nat.min_eq_left hk, List.getElem?_take_of_lt (by omega)] at h
    exact h
theorem drop_head {L : List Int} {k : Nat} {u : Int} (h : (L.drop k).head? = some u) : L[k]? = some u := by
  rw [List.head?_drop] at h
  exact h

section
variable {cf : Int → Int → Int} {ok : Int → Prop}
set_option maxRecDepth 100000 in
set_option maxHeartbeats 8000000 in
theorem symStep_any (hO : Ord cf ok) (g n c a m b : Nat) (kp : Value) (X U V Z : List Int) (ex : List Value) (w : World) (h : MergeIn cf ok g n a m b kp X U V Z ex w) (hu2 : 2 ≤ U.length) (hv2 : 2 ≤ V.length)
    (ih : ∀ (a' m' b' : Nat) (X' U' V' Z' : List Int) (W : World), b' - a' < b - a → MergeIn cf ok g n a' m' b' kp X' U' V' Z' ex W →
      Calls Tryd.prog 113 #[.slice (some ⟨g, 0, none⟩) n c, .int .i64 a', .int .i64 m', .int .i64 b', .func (.func 40) #[] #[kp]] W (MergeOut cf g X' U' V' Z' ex W)) :
    Calls Tryd.prog 113 #[.slice (some ⟨g, 0, none⟩) n c, .int .i64 a, .int .i64 m, .int .i64 b, .func (.func 40) #[] #[kp]] w (MergeOut cf g X U V Z ex w) := by
  have H := Lib.hid h
  have HO := Lib.hid hO
  have IH := Lib.hid ih
  have am : a + 2 ≤ m := by have := h.hm; omega
  have mb : m + 2 ≤ b := by have := h.hb; omega
  have bn : b ≤ n := by have := h.hn; omega
  have n2 := h.n2
  have t1 : ((m : Int) - (a : Int) == 1) = false := by simp only [beq_eq_false_iff_ne, ne_eq]; omega
  have t2 : ((b : Int) - (m : Int) == 1) = false := by simp only [beq_eq_false_iff_ne, ne_eq]; omega
  obtain ⟨mid, hmid⟩ : ∃ mid, (a + b) / 2 = mid := ⟨_, rfl⟩
  have q1 : ((a : Int) + (b : Int)) / 2 = (mid : Int) := by omega
  obtain ⟨N, hN⟩ : ∃ N, mid + m = N := ⟨_, rfl⟩
  have q2 : (mid : Int) + (m : Int) = (N : Int) := by omega
  have N2 : N ≤ 2097152 := by omega
  obtain ⟨s0, r0, hB, hway⟩ : ∃ s0 r0, Bnd a m b mid N s0 r0 ∧ ((mid < m ∧ s0 + b = N ∧ r0 = mid) ∨ (m ≤ mid ∧ s0 = a ∧ r0 = m)) := by
    rcases bnd_of hmid am mb with ⟨h1, h2⟩ | ⟨h1, h2⟩
    · rw [hN] at h2
      exact ⟨N - b, mid, h2, Or.inl ⟨h1, by have := h2.s0m; omega, rfl⟩⟩
    · rw [hN] at h2
      exact ⟨a, m, h2, Or.inr ⟨h1, rfl, rfl⟩⟩
  have HB := Lib.hid hB
  have HWAY := Lib.hid hway
  have N1 : 1 ≤ N := by omega
  obtain ⟨P, hP⟩ : ∃ P, N - 1 = P := ⟨_, rfl⟩
  have q3 : (N : Int) - 1 = (P : Int) := by omega
  have HPN := Lib.hid hP
  have HMD := Lib.hid hmid
  have HNN := Lib.hid hN
  clear h hO ih hu2 hv2 hmid hN hB hway hP
  go_enter Tryd.func113, Tryd.ntmps113
  go_upto_if 140 with fail
  go_cut [20, 21] (fun v20 v21 wx => v20 = .int .i64 s0 ∧ v21 = .int .i64 r0 ∧ w = wx)
  case first => as_aux_lemma =>
    rcases HWAY.out with ⟨h1, h2, h3⟩ | ⟨h1, h2, h3⟩
    · have d1 : (mid : Int) < (m : Int) := by omega
      have d2 : (N : Int) - (b : Int) = (s0 : Int) := by omega
      have d3 : (r0 : Int) = (mid : Int) := by omega
      clear h1 h2 h3
      go_wp2_with fail
      go_meet
      exact ⟨rfl, by rw [d3], rfl⟩
    · have d1 : ¬ (mid : Int) < (m : Int) := by omega
      have d2 : (s0 : Int) = (a : Int) := by omega
      have d3 : (r0 : Int) = (m : Int) := by omega
      clear h1 h2 h3
      go_wp2_with fail
      go_meet
      exact ⟨by rw [d2], by rw [d3], rfl⟩
  case rest => as_aux_lemma =>
    obtain ⟨rfl, rfl, rfl⟩ := hcut
    have n0 : a < m := by omega
    go_wp2_with fail
    go_loopw [20, 21] (fun vs vr wr => ∃ s r : Nat, vs = .int .i64 s ∧ vr = .int .i64 r ∧ s0 ≤ s ∧ s ≤ r ∧ r ≤ r0 ∧ Hid (s0 < s → ∀ u v, U[s - 1 - a]? = some u → V[N - s - m]? = some v → Bef cf u v) ∧ Hid (r < r0 → ∀ v u, V[N - 1 - r - m]? = some v → U[r - a]? = some u → Bef cf v u) ∧ Hid (w.grownBy wr (some g)) ∧ Hid (Row wr g (X ++ (U ++ (V ++ Z))) ex)) (fun vs vr _ => (intOf vr - intOf vs).toNat)
    case atStart => exact ⟨s0, r0, rfl, rfl, Nat.le_refl _, HB.out.sr, Nat.le_refl _, (fun h => absurd h (by omega)), (fun h => absurd h (by omega)), World.grownBy.refl _ _, H.out.row⟩
    case round =>
      obtain ⟨s, r, rfl, rfl, hs0, hsr, hr0, HP1, HP2, HG, HR⟩ := hrel
      by_cases hlt : s < r
      · as_aux_lemma =>
        have l1 : (s : Int) < (r : Int) := by omega
        obtain ⟨k, hk⟩ : ∃ k, (s + r) / 2 = k := ⟨_, rfl⟩
        have hkm : ((s : Int) + (r : Int)) / 2 = (k : Int) := by omega
        have k1 : s ≤ k := by omega
        have k2 : k < r := by omega
        obtain ⟨b1, b2⟩ := HB.out.lo k (by omega) (by omega)
        have b3 := HB.out.as0
        have b4 := HB.out.rm
        have hPN := HPN.out
        obtain ⟨d, hd⟩ : ∃ d, P - k = d := ⟨_, rfl⟩
        have hkd : (P : Int) - (k : Int) = (d : Int) := by omega
        have d1 : m ≤ d := by omega
        have d2 : d < b := by omega
        obtain ⟨x, hx⟩ := get_lt (L := U) (k := k - a) (by have := H.out.hm; omega)
        obtain ⟨y, hy⟩ := get_lt (L := V) (k := d - m) (by have := H.out.hb; omega)
        have hcx := row_in HR.out hx
        have hlx : X.length + (k - a) = k := by rw [H.out.ha]; omega
        rw [hlx] at hcx
        have hr2 : Row wr g ((X ++ U) ++ (V ++ Z)) ex := by simpa [List.append_assoc] using HR.out
        have hcy := row_in hr2 hy
        have hly : (X ++ U).length + (d - m) = d := by rw [List.length_append, H.out.ha, H.out.hm]; omega
        rw [hly] at hcy
        have hmx := List.mem_of_getElem? hx
        have hmy := List.mem_of_getElem? hy
        have hxy := H.out.lt x hmx y hmy
        have HQ := Lib.hid (fun q => H.out.cmp.at_ HG.out (H.out.okv y hmy) (H.out.oku x hmx) q)
        obtain ⟨z, hz⟩ : ∃ z, cf y x = z := ⟨_, rfl⟩
        simp only [hz] at HQ
        have hyx := bef_iff (cf := cf) hxy
        have hyx' := bef_iff' HO.out (H.out.okv y hmy) (H.out.oku x hmx) hxy
        rw [hz] at hyx hyx'
        have e1 : N - 1 - k = d := by omega
        have e2 : N - (k + 1) = d := by omega
        have HX := Lib.hid hx
        have HY := Lib.hid hy
        have E1 := Lib.hid e1
        have E2 := Lib.hid e2
        have c0 : (0 : Int) ≤ (k : Int) := Int.natCast_nonneg _
        have c1 : (k : Int) < (n : Int) := by omega
        have c2 : (0 : Int) ≤ (d : Int) := Int.natCast_nonneg _
        have c3 : (d : Int) < (n : Int) := by omega
        by_cases hz0 : z < 0
        · have hb1 := hyx.1 hz0
          have hd1 : decide (z < 0) = true := decide_eq_true hz0
          have hd2 : (!decide (z < 0)) = false := by rw [hd1]; rfl
          have HP3 : Hid (k < r0 → ∀ v u, V[N - 1 - k - m]? = some v → U[k - a]? = some u → Bef cf v u) := fun _ v u hv hu => by
            rw [E1.out, HY.out] at hv
            rw [HX.out] at hu
            injection hv with hv
            injection hu with hu
            rw [← hv, ← hu]
            exact hb1
          clear hk hd hx hy hlx hly hr2 hmx hmy hxy hz hyx hyx' e1 e2 hb1 b1 b2 b3 b4 hPN
          go_wp2_with fail
          go_quiet ((go_at_call 40; exact (HQ.out _)))
          go_wp2
          go_roundw
          case rel => exact ⟨s, k, rfl, rfl, hs0, by omega, by omega, HP1, HP3, only_drewN HG.out _, HR.out.drewN _⟩
          case measure => simp [intOf]; omega
        · have hb1 := hyx'.1 hz0
          have hd1 : decide (z < 0) = false := decide_eq_false hz0
          have hd2 : (!decide (z < 0)) = true := by rw [hd1]; rfl
          have HP3 : Hid (s0 < k + 1 → ∀ u v, U[k + 1 - 1 - a]? = some u → V[N - (k + 1) - m]? = some v → Bef cf u v) := fun _ u v hu hv => by
            rw [E2.out, HY.out] at hv
            rw [Nat.add_sub_cancel, HX.out] at hu
            injection hv with hv
            injection hu with hu
            rw [← hv, ← hu]
            exact hb1
          clear hk hd hx hy hlx hly hr2 hmx hmy hxy hz hyx hyx' e1 e2 hb1 b1 b2 b3 b4 hPN
          go_wp2_with fail
          go_quiet ((go_at_call 40; exact (HQ.out _)))
          go_wp2
          go_roundw
          case rel => exact ⟨k + 1, r, by go_num, rfl, by omega, by omega, by omega, HP3, HP2, only_drewN HG.out _, HR.out.drewN _⟩
          case measure => simp [intOf]; omega
      · as_aux_lemma =>
        obtain rfl : s = r := by omega
        have l1 : ¬ (s : Int) < (s : Int) := by omega
        have b3 := HB.out.as0
        have b4 := HB.out.rm
        have b5 := HB.out.s0m
        have b6 := HB.out.r0m
        obtain ⟨E, hE⟩ : ∃ E, N - s = E := ⟨_, rfl⟩
        have hEi : (N : Int) - (s : Int) = (E : Int) := by omega
        have e0 : m ≤ E := by omega
        have e1 : E ≤ b := by omega
        have e2 : a ≤ s := by omega
        have e3 : s ≤ m := by omega
        obtain ⟨U1, U2, hU, u1, u2⟩ := split_len (L := U) (s - a) (by have := H.out.hm; omega)
        obtain ⟨V1, V2, hV, v1, v2⟩ := split_len (L := V) (E - m) (by have := H.out.hb; omega)
        have f1 : U.take (s - a) = U1 := by rw [hU, ← u1]; simp
        have f2 : U.drop (s - a) = U2 := by rw [hU, ← u1]; simp
        have f3 : V.take (E - m) = V1 := by rw [hV, ← v1]; simp
        have f4 : V.drop (E - m) = V2 := by rw [hV, ← v1]; simp
        have HUV : Hid (∀ u v, U1.getLast? = some u → V2.head? = some v → Bef cf u v) := fun u v hu hv => by
          rw [← f1] at hu
          rw [← f4] at hv
          obtain ⟨g1, g2⟩ := take_last hu (by have := H.out.hm; omega)
          have g3 := drop_head hv
          have hlt2 : E - m < V.length := (List.getElem?_eq_some_iff.1 g3).1
          refine HP1.out ?_ u v ?_ ?_
          · rcases HB.out.ends.1 with h | h
            · omega
            · have := H.out.hb
              omega
          · rw [show s - 1 - a = s - a - 1 by omega]; exact g2
          · rw [hE]; exact g3
        have HVU : Hid (∀ v u, V1.getLast? = some v → U2.head? = some u → Bef cf v u) := fun v u hv hu => by
          rw [← f3] at hv
          rw [← f2] at hu
          obtain ⟨g1, g2⟩ := take_last hv (by have := H.out.hb; omega)
          have g3 := drop_head hu
          have hlt2 : s - a < U.length := (List.getElem?_eq_some_iff.1 g3).1
          refine HP2.out ?_ v u ?_ ?_
          · rcases HB.out.ends.2 with h | h
            · have := H.out.hm
              omega
            · have := HB.out.nm
              omega
          · rw [show N - 1 - s - m = E - m - 1 by omega]; exact g2
          · exact g3
        have srtU : Srt cf U1 ∧ Srt cf U2 := by
          have := H.out.su
          rw [hU, Srt, List.pairwise_append] at this
          exact ⟨this.1, this.2.1⟩
        have srtV : Srt cf V1 ∧ Srt cf V2 := by
          have := H.out.sv
          rw [hV, Srt, List.pairwise_append] at this
          exact ⟨this.1, this.2.1⟩
        have HSU := Lib.hid srtU
        have HSV := Lib.hid srtV
        have HU := Lib.hid hU
        have HV := Lib.hid hV
        have HU1 := Lib.hid u1
        have HV1 := Lib.hid v1
        have HU2 : Hid (U2.length = m - s) := by show _ = _; rw [u2]; have := H.out.hm; omega
        have HV2 : Hid (V2.length = b - E) := by show _ = _; rw [v2]; have := H.out.hb; omega
        have HEQ := Lib.hid hE
        have hmidN := HNN.out
        have hms : s - a + (E - m) = mid - a := by omega
        have HMS := Lib.hid hms
        have hmE : mid + (m - s) = E := by omega
        have HME := Lib.hid hmE
        have ml := HB.out.am
        have mr := HB.out.mb
        have HR0 : Hid (Row wr g ((X ++ U1) ++ (U2 ++ (V1 ++ (V2 ++ Z)))) ex) := by
          show Row _ _ _ _
          have := HR.out
          rw [hU, hV] at this
          simpa [List.append_assoc] using this
        have s1 : (s : Int) ≤ (n : Int) := by omega
        clear hU hV u1 u2 v1 v2 f1 f2 f3 f4 srtU srtV HR HP1 HP2 hE hms hmE b3 b4 b5 b6 l1 hlt hsr
        rename World => wa
        -- the rotation
        obtain ⟨d, hd⟩ : ∃ d, (decide (s < m) && decide (m < E)) = d := ⟨_, rfl⟩
        go_upto_region 39 with fail
        go_cut [185] (fun v wx => v = .bool d ∧ wa = wx)
        case first => as_aux_lemma =>
          by_cases x1 : s < m
          · have y1 : (s : Int) < (m : Int) := by omega
            by_cases x2 : m < E
            · have y2 : (m : Int) < (E : Int) := by omega
              obtain rfl : d = true := by rw [← hd, decide_eq_true x1, decide_eq_true x2]; rfl
              go_wp2_with fail
              go_meet
              exact ⟨rfl, rfl⟩
            · have y2 : ¬ (m : Int) < (E : Int) := by omega
              obtain rfl : d = false := by rw [← hd, decide_eq_false x2, Bool.and_false]
              go_wp2_with fail
              go_meet
              exact ⟨rfl, rfl⟩
          · have y1 : ¬ (s : Int) < (m : Int) := by omega
            obtain rfl : d = false := by rw [← hd, decide_eq_false x1, Bool.false_and]
            go_wp2_with fail
            go_meet
            exact ⟨rfl, rfl⟩
        case rest => as_aux_lemma =>
          obtain ⟨rfl, rfl⟩ := hcut
          have HD := Lib.hid hd
          clear hd
          go_upto_if 185 with fail
          go_cut [] (fun wx => Hid (w.grownBy wx (some g)) ∧ Hid (Row wx g (X ++ ((U1 ++ V1) ++ ((U2 ++ V2) ++ Z))) ex))
          case first => as_aux_lemma =>
            cases d
            · have HF : Hid (Row wa g (X ++ ((U1 ++ V1) ++ ((U2 ++ V2) ++ Z))) ex) := by
                show Row _ _ _ _
                have hz : U2 = [] ∨ V1 = [] := by
                  have h := HD.out
                  simp only [Bool.and_eq_false_iff, decide_eq_false_iff_not] at h
                  rcases h with h | h
                  · left
                    exact List.eq_nil_of_length_eq_zero (by rw [HU2.out]; omega)
                  · right
                    exact List.eq_nil_of_length_eq_zero (by rw [HV1.out]; omega)
                have := HR0.out
                rcases hz with hz | hz
                · rw [hz] at this ⊢
                  simpa [List.append_assoc] using this
                · rw [hz] at this ⊢
                  simpa [List.append_assoc] using this
              go_wp2_with fail
              go_meet
              exact ⟨HG, HF⟩
            · have hcond : s < m ∧ m < E := by
                have h := HD.out
                simpa using h
              have HRT := Lib.hid (rotate_any g n c s m E (.func (.func 40) #[] #[kp]) (X ++ U1) U2 V1 (V2 ++ Z) ex wa HR0.out (by rw [List.length_append, H.out.ha, HU1.out]; omega) (by rw [HU2.out]; omega) (by rw [HV1.out]; omega) (by rw [HU2.out]; omega) (by rw [HV1.out]; omega) (by rw [List.length_append, HV2.out]; have := H.out.hn; omega) n2)
              go_wp2_with fail
              refine HRT.out.mono ?_
              rintro e wb ⟨rfl, hg, hr⟩
              have HG1 := Lib.hid (only_step HG.out hg)
              have HF : Hid (Row wb g (X ++ ((U1 ++ V1) ++ ((U2 ++ V2) ++ Z))) ex) := by
                show Row _ _ _ _
                simpa [List.append_assoc] using hr
              clear hg hr
              go_wp2_with fail
              go_meet
              exact ⟨HG1, HF⟩
          case rest => as_aux_lemma =>
            obtain ⟨HG1, HR1⟩ := hcut
            rename World => wb
            clear HD HR0 HG
            -- the left half
            obtain ⟨d2, hd2⟩ : ∃ d, (decide (a < s) && decide (s < mid)) = d := ⟨_, rfl⟩
            go_upto_region 41 with fail
            go_cut [199] (fun v wx => v = .bool d2 ∧ wb = wx)
            case first => as_aux_lemma =>
              by_cases x1 : a < s
              · have y1 : (a : Int) < (s : Int) := by omega
                by_cases x2 : s < mid
                · have y2 : (s : Int) < (mid : Int) := by omega
                  obtain rfl : d2 = true := by rw [← hd2, decide_eq_true x1, decide_eq_true x2]; rfl
                  go_wp2_with fail
                  go_meet
                  exact ⟨rfl, rfl⟩
                · have y2 : ¬ (s : Int) < (mid : Int) := by omega
                  obtain rfl : d2 = false := by rw [← hd2, decide_eq_false x2, Bool.and_false]
                  go_wp2_with fail
                  go_meet
                  exact ⟨rfl, rfl⟩
              · have y1 : ¬ (a : Int) < (s : Int) := by omega
                obtain rfl : d2 = false := by rw [← hd2, decide_eq_false x1, Bool.false_and]
                go_wp2_with fail
                go_meet
                exact ⟨rfl, rfl⟩
            case rest => as_aux_lemma =>
              obtain ⟨rfl, rfl⟩ := hcut
              have HD := Lib.hid hd2
              clear hd2
              go_upto_if 199 with fail
              go_cut [] (fun wx => Hid (∃ M1, M1.Perm (U1 ++ V1) ∧ Srt cf M1 ∧ w.grownBy wx (some g) ∧ Row wx g (X ++ (M1 ++ ((U2 ++ V2) ++ Z))) ex))
              case first => as_aux_lemma =>
                cases d2
                · have HF : Hid (∃ M1, M1.Perm (U1 ++ V1) ∧ Srt cf M1 ∧ w.grownBy wb (some g) ∧ Row wb g (X ++ (M1 ++ ((U2 ++ V2) ++ Z))) ex) := by
                    refine ⟨U1 ++ V1, List.Perm.refl _, ?_, HG1.out, HR1.out⟩
                    have h := HD.out
                    simp only [Bool.and_eq_false_iff, decide_eq_false_iff_not] at h
                    rcases h with h | h
                    · have : U1 = [] := List.eq_nil_of_length_eq_zero (by rw [HU1.out]; omega)
                      rw [this]
                      exact HSV.out.1
                    · have : V1 = [] := List.eq_nil_of_length_eq_zero (by rw [HV1.out]; have := HMS.out; omega)
                      rw [this, List.append_nil]
                      exact HSU.out.1
                  go_wp2_with fail
                  go_meet
                  exact HF
                · have hcond : a < s ∧ s < mid := by
                    have h := HD.out
                    simpa using h
                  have HMI := Lib.hid (IH.out a s mid X U1 V1 ((U2 ++ V2) ++ Z) wb (by omega)
                    { row := by have := HR1.out; simpa [List.append_assoc] using this
                      cmp := H.out.cmp.later HG1.out
                      su := HSU.out.1
                      sv := HSV.out.1
                      lt := fun x hx y hy => H.out.lt x (by rw [HU.out]; simp [hx]) y (by rw [HV.out]; simp [hy])
                      oku := fun x hx => H.out.oku x (by rw [HU.out]; simp [hx])
                      okv := fun x hx => H.out.okv x (by rw [HV.out]; simp [hx])
                      ha := H.out.ha
                      hm := by rw [HU1.out]; omega
                      hb := by rw [HV1.out]; have := HMS.out; omega
                      hn := by rw [List.length_append, List.length_append, HU2.out, HV2.out]; have h1 := H.out.hn; have h2 := HME.out; omega
                      n2 := n2
                      pu := by rw [HU1.out]; omega
                      pv := by rw [HV1.out]; have := HMS.out; omega })
                  go_wp2_with fail
                  refine HMI.out.mono ?_
                  rintro e wc ⟨rfl, M1, p1, p2, hg, hr⟩
                  have HF : Hid (∃ M1, M1.Perm (U1 ++ V1) ∧ Srt cf M1 ∧ w.grownBy wc (some g) ∧ Row wc g (X ++ (M1 ++ ((U2 ++ V2) ++ Z))) ex) := ⟨M1, p1, p2, only_step HG1.out hg, hr⟩
                  clear p1 p2 hg hr
                  go_wp2_with fail
                  go_meet
                  exact HF
              case rest => as_aux_lemma =>
                obtain ⟨M1, m1, m2, hg, hr⟩ := hcut.out
                rename World => wc
                have HM1 := Lib.hid m1
                have HM2 := Lib.hid m2
                have HG2 := Lib.hid hg
                have HR2 := Lib.hid hr
                have HML : Hid (M1.length = mid - a) := by
                  show _ = _
                  rw [m1.length_eq, List.length_append, HU1.out, HV1.out]
                  exact HMS.out
                clear m1 m2 hg hr hcut HD HG1 HR1
                -- the right half
                obtain ⟨d3, hd3⟩ : ∃ d, (decide (mid < E) && decide (E < b)) = d := ⟨_, rfl⟩
                go_upto_region 43 with fail
                go_cut [213] (fun v wx => v = .bool d3 ∧ wc = wx)
                case first => as_aux_lemma =>
                  by_cases x1 : mid < E
                  · have y1 : (mid : Int) < (E : Int) := by omega
                    by_cases x2 : E < b
                    · have y2 : (E : Int) < (b : Int) := by omega
                      obtain rfl : d3 = true := by rw [← hd3, decide_eq_true x1, decide_eq_true x2]; rfl
                      go_wp2_with fail
                      go_meet
                      exact ⟨rfl, rfl⟩
                    · have y2 : ¬ (E : Int) < (b : Int) := by omega
                      obtain rfl : d3 = false := by rw [← hd3, decide_eq_false x2, Bool.and_false]
                      go_wp2_with fail
                      go_meet
                      exact ⟨rfl, rfl⟩
                  · have y1 : ¬ (mid : Int) < (E : Int) := by omega
                    obtain rfl : d3 = false := by rw [← hd3, decide_eq_false x1, Bool.false_and]
                    go_wp2_with fail
                    go_meet
                    exact ⟨rfl, rfl⟩
                case rest => as_aux_lemma =>
                  obtain ⟨rfl, rfl⟩ := hcut
                  have HD := Lib.hid hd3
                  clear hd3
                  have fin : ∀ (M2 : List Int) (W : World), M2.Perm (U2 ++ V2) → Srt cf M2 → w.grownBy W (some g) → Row W g (X ++ (M1 ++ (M2 ++ Z))) ex → ∃ M, M.Perm (U ++ V) ∧ Srt cf M ∧ w.grownBy W (some g) ∧ Row W g (X ++ (M ++ Z)) ex := fun M2 W p s hg hr => by
                    have hd := merge_done HO.out (U1 := U1) (U2 := U2) (V1 := V1) (V2 := V2) (by rw [← HU.out]; exact H.out.su) (by rw [← HV.out]; exact H.out.sv) (fun x hx => by
                      rw [← HU.out, ← HV.out] at hx
                      rcases List.mem_append.1 hx with hx | hx
                      · exact H.out.oku x hx
                      · exact H.out.okv x hx) HUV.out HVU.out HM2.out s HM1.out p
                    rw [← HU.out, ← HV.out] at hd
                    exact ⟨M1 ++ M2, hd.2, hd.1, hg, by simpa [List.append_assoc] using hr⟩
                  have FIN := Lib.hid fin
                  clear fin
                  cases d3
                  · have hs2 : Srt cf (U2 ++ V2) := by
                      have h := HD.out
                      simp only [Bool.and_eq_false_iff, decide_eq_false_iff_not] at h
                      rcases h with h | h
                      · have : U2 = [] := List.eq_nil_of_length_eq_zero (by rw [HU2.out]; have := HME.out; omega)
                        rw [this]
                        exact HSV.out.2
                      · have : V2 = [] := List.eq_nil_of_length_eq_zero (by rw [HV2.out]; omega)
                        rw [this, List.append_nil]
                        exact HSU.out.2
                    have HF := Lib.hid (FIN.out (U2 ++ V2) wc (List.Perm.refl _) hs2 HG2.out HR2.out)
                    clear hs2
                    go_wp2
                    go_end0
                    exact ⟨rfl, HF.out⟩
                  · have hcond : mid < E ∧ E < b := by
                      have h := HD.out
                      simpa using h
                    have HMI := Lib.hid (IH.out mid E b (X ++ M1) U2 V2 Z wc (by omega)
                      { row := by have := HR2.out; simpa [List.append_assoc] using this
                        cmp := H.out.cmp.later HG2.out
                        su := HSU.out.2
                        sv := HSV.out.2
                        lt := fun x hx y hy => H.out.lt x (by rw [HU.out]; simp [hx]) y (by rw [HV.out]; simp [hy])
                        oku := fun x hx => H.out.oku x (by rw [HU.out]; simp [hx])
                        okv := fun x hx => H.out.okv x (by rw [HV.out]; simp [hx])
                        ha := by rw [List.length_append, H.out.ha, HML.out]; omega
                        hm := by rw [HU2.out]; exact HME.out
                        hb := by rw [HV2.out]; omega
                        hn := H.out.hn
                        n2 := n2
                        pu := by rw [HU2.out]; have := HME.out; omega
                        pv := by rw [HV2.out]; omega })
                    go_wp2_with fail
                    refine HMI.out.mono ?_
                    rintro e wd ⟨rfl, M2, p1, p2, hg, hr⟩
                    have HF := Lib.hid (FIN.out M2 wd p1 p2 (only_step HG2.out hg) (by simpa [List.append_assoc] using hr))
                    clear p1 p2 hg hr
                    go_wp2
                    go_end0
                    exact ⟨rfl, HF.out⟩

theorem symMerge_any (hO : Ord cf ok) (g n c : Nat) (kp : Value) (ex : List Value) : ∀ (k a m b : Nat) (X U V Z : List Int) (w : World), b - a ≤ k → MergeIn cf ok g n a m b kp X U V Z ex w →
    Calls Tryd.prog 113 #[.slice (some ⟨g, 0, none⟩) n c, .int .i64 a, .int .i64 m, .int .i64 b, .func (.func 40) #[] #[kp]] w (MergeOut cf g X U V Z ex w)
  | 0, a, m, b, X, U, V, Z, w, hk, h => by
    have h1 := h.hm
    have h2 := h.hb
    have h3 := h.pu
    have h4 := h.pv
    omega
  | k + 1, a, m, b, X, U, V, Z, w, hk, h => by
    have h1 := h.hm
    have h2 := h.hb
    have h3 := h.pu
    have h4 := h.pv
    by_cases hu : U.length = 1
    · obtain ⟨u, rfl⟩ : ∃ u, U = [u] := by
        match U, hu with
        | [u], _ => exact ⟨u, rfl⟩
      exact symFirst_any hO g n c a m b kp X V Z u ex w h.row h.cmp h.sv (fun y hy => h.lt u (by simp) y hy) (h.oku u (by simp)) h.okv h.ha h1 h2 h.hn h.n2
    · by_cases hv : V.length = 1
      · obtain ⟨v, rfl⟩ : ∃ v, V = [v] := by
          match V, hv with
          | [v], _ => exact ⟨v, rfl⟩
        exact symLast_any hO g n c a m b kp X U Z v ex w h.row h.cmp h.su (fun y hy => h.lt y hy v (by simp)) (h.okv v (by simp)) h.oku h.ha h1 h2 h.hn h.n2 (by omega)
      · exact symStep_any hO g n c a m b kp X U V Z ex w h (by omega) (by omega) fun a' m' b' X' U' V' Z' W hlt hi => symMerge_any hO g n c kp ex k a' m' b' X' U' V' Z' W (by omega) hi
end
end Go.Proofs.YtmmppflaacabbaaDoor
