/- slices.symMergeCmpFunc at int64 where one of the two stretches is a single number: contracts. -/
import Derived.Test.YtmmppflaacabbaaDoorInsert
namespace Go.Proofs.YtmmppflaacabbaaDoor
open Go.ChangeShapes Go.WideShapes Go.ChangeAt Go.RowKit

/-- a place in the second part of a row -/
theorem row_in {w : World} {g : Nat} {A V C : List Int} {k : Nat} {y : Int} {ex : List Value} (h : Row w g (A ++ (V ++ C)) ex) (hy : V[k]? = some y) : w.cell? ⟨g, A.length + k, none⟩ = some (.int .i64 y) := by
  obtain ⟨hk, _⟩ := List.getElem?_eq_some_iff.1 hy
  have := h.cell (i := A.length + k) (by simp; omega)
  rw [List.getElem?_append_right (by omega), show A.length + k - A.length = k by omega, List.getElem?_append_left hk, hy] at this
  exact this
theorem get_lt {L : List Int} {k : Nat} (h : k < L.length) : ∃ y, L[k]? = some y := ⟨L[k], List.getElem?_eq_getElem h⟩
section
variable {cf : Int → Int → Int} {ok : Int → Prop}
/-- what lies before a place stands before it -/
theorem srt_before {L : List Int} {k : Nat} {y z : Int} (h : Srt cf L) (hy : L[k]? = some y) (hz : z ∈ L.take k) : Bef cf z y := by
  rw [Srt, ← List.take_append_drop k L, List.pairwise_append] at h
  refine h.2.2 z hz y ?_
  obtain ⟨hk, e⟩ := List.getElem?_eq_some_iff.1 hy
  rw [List.drop_eq_getElem_cons hk, e]
  simp
theorem srt_behind {L : List Int} {k : Nat} {y z : Int} (h : Srt cf L) (hy : L[k]? = some y) (hz : z ∈ L.drop (k + 1)) : Bef cf y z := by
  obtain ⟨hk, e⟩ := List.getElem?_eq_some_iff.1 hy
  rw [Srt, ← List.take_append_drop k L, List.pairwise_append, List.drop_eq_getElem_cons hk, e, List.pairwise_cons] at h
  exact h.2.1.1 z hz
theorem mem_drop_succ {L : List Int} {k : Nat} {y z : Int} (hy : L[k]? = some y) (hz : z ∈ L.drop k) : z = y ∨ z ∈ L.drop (k + 1) := by
  obtain ⟨hk, e⟩ := List.getElem?_eq_some_iff.1 hy
  rw [List.drop_eq_getElem_cons hk, e] at hz
  exact List.mem_cons.1 hz
theorem mem_take_succ {L : List Int} {k : Nat} {y z : Int} (hy : L[k]? = some y) (hz : z ∈ L.take (k + 1)) : z = y ∨ z ∈ L.take k := by
  rw [List.take_add_one, hy] at hz
  rcases List.mem_append.1 hz with hz | hz
  · exact Or.inr hz
  · exact Or.inl (by simpa using hz)

set_option maxRecDepth 100000 in
set_option maxHeartbeats 4000000 in
theorem symFirst_any (hO : Ord cf ok) (g n c a m b : Nat) (kp : Value) (X V Z : List Int) (u : Int) (ex : List Value) (w : World) (h : Row w g (X ++ (u :: (V ++ Z))) ex) (hc : Cmps cf ok g kp w) (hs : Srt cf V) (hlt : ∀ y ∈ V, u < y) (hu : ok u) (hok : ∀ x ∈ V, ok x)
    (ha : X.length = a) (hm : a + 1 = m) (hb : m + V.length = b) (hn : b + Z.length = n) (hn2 : n ≤ 1048576) :
    Calls Tryd.prog 113 #[.slice (some ⟨g, 0, none⟩) n c, .int .i64 a, .int .i64 m, .int .i64 b, .func (.func 40) #[] #[kp]] w fun e w' => e = .returned (.tuple #[]) ∧ ∃ M, M.Perm (u :: V) ∧ Srt cf M ∧ w.grownBy w' (some g) ∧ Row w' g (X ++ (M ++ Z)) ex := by
  have H := Lib.hid h
  have HO := Lib.hid hO
  have HC := Lib.hid hc
  have HS := Lib.hid hs
  have HLT := Lib.hid hlt
  have HU := Lib.hid hu
  have HOK := Lib.hid hok
  have HA := Lib.hid ha
  have HM := Lib.hid hm
  have HB := Lib.hid hb
  have HN := Lib.hid hn
  have am : a < m := by omega
  have ab : m ≤ b := by omega
  have bn : b ≤ n := by omega
  have HCA := Lib.hid (row_at h)
  have t1 : ((m : Int) - (a : Int) == 1) = true := by simp only [beq_iff_eq]; omega
  have a0 : (0 : Int) ≤ (a : Int) := Int.natCast_nonneg _
  have a1 : (a : Int) < (n : Int) := by omega
  clear h hO hc hs hlt hu hok ha hb hn hm
  go_enter Tryd.func113, Tryd.ntmps113
  go_wp2_with fail
  go_loopw [10, 11] (fun vi vj wr => ∃ i j : Nat, vi = .int .i64 i ∧ vj = .int .i64 j ∧ m ≤ i ∧ i ≤ j ∧ j ≤ b ∧ Hid (∀ y ∈ V.take (i - m), Bef cf y u) ∧ Hid (∀ y ∈ V.drop (j - m), Bef cf u y) ∧ Hid (w.grownBy wr (some g)) ∧ Hid (Row wr g (X ++ (u :: (V ++ Z))) ex)) (fun vi vj _ => (intOf vj - intOf vi).toNat)
  case atStart => exact ⟨m, b, rfl, rfl, Nat.le_refl _, ab, Nat.le_refl _, (fun y hy => by simp at hy), (fun y hy => by rw [List.drop_of_length_le (by have := HB.out; omega)] at hy; cases hy), World.grownBy.refl _ _, H⟩
  case round =>
    obtain ⟨i, j, rfl, rfl, hmi, hij, hjb, HI, HJ, HG, HR⟩ := hrel
    by_cases hlt : i < j
    · have l1 : (i : Int) < (j : Int) := by omega
      obtain ⟨p, hp⟩ : ∃ p, (i + j) / 2 = p := ⟨_, rfl⟩
      have hmid : ((i : Int) + (j : Int)) / 2 = (p : Int) := by omega
      have p1 : i ≤ p := by omega
      have p2 : p < j := by omega
      obtain ⟨y, hy⟩ := get_lt (L := V) (k := p - m) (by have := HB.out; omega)
      have hr : Row wr g ((X ++ [u]) ++ (V ++ Z)) ex := by simpa [List.append_assoc] using HR.out
      have hcy := row_in hr hy
      have hlx : (X ++ [u]).length + (p - m) = p := by
        rw [List.length_append, List.length_singleton, HA.out]
        have := HM.out
        omega
      rw [hlx] at hcy
      have hcu := row_at HR.out
      rw [HA.out] at hcu
      have hmy := List.mem_of_getElem? hy
      have HQ := Lib.hid (fun q => HC.out.at_ HG.out (HOK.out y hmy) HU.out q)
      obtain ⟨v, hv⟩ : ∃ v, cf y u = v := ⟨_, rfl⟩
      simp only [hv] at HQ
      have hyu := bef_iff (cf := cf) (HLT.out y hmy)
      have hyu' := bef_iff' HO.out (HOK.out y hmy) HU.out (HLT.out y hmy)
      rw [hv] at hyu hyu'
      have HY := Lib.hid hy
      have p3 : (0 : Int) ≤ (p : Int) := Int.natCast_nonneg _
      have p4 : (p : Int) < (n : Int) := by omega
      by_cases hv0 : v < 0
      · have hb1 := hyu.1 hv0
        have HI1 : Hid (∀ z ∈ V.take (p + 1 - m), Bef cf z u) := fun z hz => by
          rw [show p + 1 - m = (p - m) + 1 by omega] at hz
          rcases mem_take_succ HY.out hz with rfl | hz
          · exact hb1
          · exact Bef.trans HO.out (HOK.out z (List.mem_of_mem_take hz)) (HOK.out y (List.mem_of_getElem? HY.out)) HU.out (srt_before HS.out HY.out hz) hb1
        clear hp hy hr hlx hmy hv hyu hyu' hb1
        go_wp2_with fail
        go_quiet ((go_at_call 40; exact (HQ.out _)))
        go_wp2
        go_roundw
        case rel => exact ⟨p + 1, j, by go_num, rfl, by omega, by omega, hjb, HI1, HJ, only_drewN HG.out _, HR.out.drewN _⟩
        case measure => simp [intOf]; omega
      · have hb1 := hyu'.1 hv0
        have HJ1 : Hid (∀ z ∈ V.drop (p - m), Bef cf u z) := fun z hz => by
          rcases mem_drop_succ HY.out hz with rfl | hz
          · exact hb1
          · exact Bef.trans HO.out HU.out (HOK.out y (List.mem_of_getElem? HY.out)) (HOK.out z (List.mem_of_mem_drop hz)) hb1 (srt_behind HS.out HY.out hz)
        clear hp hy hr hlx hmy hv hyu hyu' hb1
        go_wp2_with fail
        go_quiet ((go_at_call 40; exact (HQ.out _)))
        go_wp2
        go_roundw
        case rel => exact ⟨i, p, rfl, rfl, hmi, by omega, by omega, HI, HJ1, only_drewN HG.out _, HR.out.drewN _⟩
        case measure => simp [intOf]; omega
    · obtain rfl : i = j := by omega
      have l1 : ¬ (i : Int) < (i : Int) := by omega
      obtain ⟨V1, V2, hVV, k1, k2⟩ := split_len (L := V) (i - m) (by have := HB.out; omega)
      have e1 : V.take (i - m) = V1 := by rw [hVV, ← k1]; simp
      have e2 : V.drop (i - m) = V2 := by rw [hVV, ← k1]; simp
      rw [e1] at HI
      rw [e2] at HJ
      have HF : Hid (Srt cf (V1 ++ u :: V2)) := ins_done HO.out (fun x hx => HOK.out x (by rw [hVV]; simp [hx])) HU.out (by rw [← hVV]; exact HS.out) (fun s hs => HI.out s (List.mem_of_getLast? hs)) HJ.out
      have HP : Hid ((V1 ++ u :: V2).Perm (u :: V)) := by
        show List.Perm _ _
        rw [hVV]
        exact List.perm_middle
      have HR0 : Hid (Row wr g (X ++ (([] ++ u :: V1) ++ (V2 ++ Z))) ex) := by
        show Row _ _ _ _
        have := HR.out
        rw [hVV] at this
        simpa [List.append_assoc] using this
      have HK1 := Lib.hid k1
      clear hVV k1 k2 e1 e2 HI HJ HR
      rename World => wo
      go_wp2_with fail
      go_loopw [13] (fun vk wr => ∃ t : Nat, ∃ k : Nat, vk = .int .i64 k ∧ Hid (k = a + t) ∧ k + 1 ≤ i ∧ Hid (w.grownBy wr (some g)) ∧ Hid (Row wr g (X ++ ((V1.take t ++ u :: V1.drop t) ++ (V2 ++ Z))) ex)) (fun vk _ => (i : Int).toNat - (intOf vk).toNat)
      case atStart => exact ⟨0, a, rfl, rfl, by omega, HG, by show Row _ _ _ _; simpa using HR0.out⟩
      case round =>
        obtain ⟨t, k, rfl, HKT, hti, HG2, HR2⟩ := hrel
        have hk := HKT.out
        by_cases hkt : k + 1 < i
        · have l2 : (k : Int) < (i : Int) - 1 := by omega
          obtain ⟨y, hy⟩ := get_lt (L := V1) (k := t) (by rw [HK1.out]; have := HM.out; omega)
          have hdr : V1.drop t = y :: V1.drop (t + 1) := by
            obtain ⟨h1, e⟩ := List.getElem?_eq_some_iff.1 hy
            rw [List.drop_eq_getElem_cons h1, e]
          have hr : Row wr g ((X ++ V1.take t) ++ u :: ([] ++ y :: (V1.drop (t + 1) ++ (V2 ++ Z)))) ex := by
            have := HR2.out
            rw [hdr] at this
            simpa [List.append_assoc] using this
          have hl1 : (X ++ V1.take t).length = k := by
            have h1 := (List.getElem?_eq_some_iff.1 hy).1
            rw [List.length_append, List.length_take, HA.out]
            omega
          have c1 := row_at hr
          have hr' : Row wr g (((X ++ V1.take t) ++ [u]) ++ y :: (V1.drop (t + 1) ++ (V2 ++ Z))) ex := by simpa [List.append_assoc] using hr
          have c2 := row_at hr'
          have hl2 : ((X ++ V1.take t) ++ [u]).length = k + 1 := by rw [List.length_append, hl1]; rfl
          rw [hl2] at c2
          have hsw := hr.swap
          rw [hl1] at c1 hsw
          simp only [List.length_nil, Nat.add_zero] at hsw
          have f1 := hr.frozen k
          have f2 := hr.frozen (k + 1)
          have j0 : (0 : Int) ≤ (k : Int) := Int.natCast_nonneg _
          have j1 : (k : Int) < (n : Int) := by omega
          have j2 : (k : Int) + 1 < (n : Int) := by omega
          have j3 : (0 : Int) ≤ (k : Int) + 1 := by omega
          have j4 : ((k : Int) + 1).toNat = k + 1 := by omega
          have jw : IntKind.i64.wrap ((k : Int) + 1) = (k : Int) + 1 := IntWalk.i64_in _ (by omega)
          obtain ⟨q, hq⟩ : ∃ q, k + 1 = q := ⟨_, rfl⟩
          rw [hq] at c2 f2 hsw j4
          have n1 : ¬ k = q := by omega
          have n2 : ¬ q = k := by omega
          have HSW : Hid (Row ((wr.setCell ⟨g, k, none⟩ (.int .i64 y)).setCell ⟨g, q, none⟩ (.int .i64 u)) g (X ++ ((V1.take (t + 1) ++ u :: V1.drop (t + 1)) ++ (V2 ++ Z))) ex) := by
            show Row _ _ _ _
            have e : V1.take (t + 1) = V1.take t ++ [y] := by rw [List.take_add_one, hy]; rfl
            rw [e]
            simpa [List.append_assoc] using hsw
          have hkt2 : Hid (k + 1 = a + (t + 1)) := by show _ = _; omega
          clear hy hdr hr hr' hl1 hl2 hsw hq hk
          go_wp2_with fail
          go_big_region
          all_goals
            go_wp2
            go_roundw
            case rel => exact ⟨t + 1, k + 1, by go_num, hkt2, by omega, only_drew (only_swap HG2.out k q _ _), HSW.out.drew⟩
            case measure => simp [intOf]; omega
        · have l2 : ¬ (k : Int) < (i : Int) - 1 := by omega
          have hF : Row wr g (X ++ ((V1 ++ u :: V2) ++ Z)) ex := by
            have := HR2.out
            rw [List.take_of_length_le (by rw [HK1.out]; have := HM.out; omega), List.drop_of_length_le (by rw [HK1.out]; have := HM.out; omega)] at this
            simpa [List.append_assoc] using this
          have HFF := Lib.hid hF
          clear hF hk
          go_wp2
          refine bodyPost_ret (results_none rfl _ _ _) rfl ?_
          exact ⟨rfl, V1 ++ u :: V2, HP.out, HF.out, HG2.out, HFF.out⟩

set_option maxRecDepth 100000 in
set_option maxHeartbeats 4000000 in
theorem symLast_any (hO : Ord cf ok) (g n c a m b : Nat) (kp : Value) (X U Z : List Int) (v : Int) (ex : List Value) (w : World) (h : Row w g (X ++ (U ++ (v :: Z))) ex) (hc : Cmps cf ok g kp w) (hs : Srt cf U) (hlt : ∀ y ∈ U, y < v) (hu : ok v) (hok : ∀ x ∈ U, ok x)
    (ha : X.length = a) (hm : a + U.length = m) (hb : m + 1 = b) (hn : b + Z.length = n) (hn2 : n ≤ 1048576) (h2 : 2 ≤ U.length) :
    Calls Tryd.prog 113 #[.slice (some ⟨g, 0, none⟩) n c, .int .i64 a, .int .i64 m, .int .i64 b, .func (.func 40) #[] #[kp]] w fun e w' => e = .returned (.tuple #[]) ∧ ∃ M, M.Perm (U ++ [v]) ∧ Srt cf M ∧ w.grownBy w' (some g) ∧ Row w' g (X ++ (M ++ Z)) ex := by
  have H := Lib.hid h
  have HO := Lib.hid hO
  have HC := Lib.hid hc
  have HS := Lib.hid hs
  have HLT := Lib.hid hlt
  have HU := Lib.hid hu
  have HOK := Lib.hid hok
  have HA := Lib.hid ha
  have HM := Lib.hid hm
  have HB := Lib.hid hb
  have HN := Lib.hid hn
  have am : a + 2 ≤ m := by omega
  have ab : m ≤ b := by omega
  have bn : b ≤ n := by omega
  have mn : m < n := by omega
  have t1 : ((m : Int) - (a : Int) == 1) = false := by simp only [beq_eq_false_iff_ne, ne_eq]; omega
  have t2 : ((b : Int) - (m : Int) == 1) = true := by simp only [beq_iff_eq]; omega
  have m0 : (0 : Int) ≤ (m : Int) := Int.natCast_nonneg _
  have m1 : (m : Int) < (n : Int) := by omega
  clear h hO hc hs hlt hu hok ha hb hn hm h2
  go_enter Tryd.func113, Tryd.ntmps113
  go_wp2_with fail
  go_loopw [14, 15] (fun vi vj wr => ∃ i j : Nat, vi = .int .i64 i ∧ vj = .int .i64 j ∧ a ≤ i ∧ i ≤ j ∧ j ≤ m ∧ Hid (∀ y ∈ U.take (i - a), Bef cf y v) ∧ Hid (∀ y ∈ U.drop (j - a), Bef cf v y) ∧ Hid (w.grownBy wr (some g)) ∧ Hid (Row wr g (X ++ (U ++ (v :: Z))) ex)) (fun vi vj _ => (intOf vj - intOf vi).toNat)
  case atStart => exact ⟨a, m, rfl, rfl, Nat.le_refl _, by omega, Nat.le_refl _, (fun y hy => by simp at hy), (fun y hy => by rw [List.drop_of_length_le (by have := HM.out; omega)] at hy; cases hy), World.grownBy.refl _ _, H⟩
  case round =>
    obtain ⟨i, j, rfl, rfl, hmi, hij, hjb, HI, HJ, HG, HR⟩ := hrel
    by_cases hlt : i < j
    · have l1 : (i : Int) < (j : Int) := by omega
      obtain ⟨p, hp⟩ : ∃ p, (i + j) / 2 = p := ⟨_, rfl⟩
      have hmid : ((i : Int) + (j : Int)) / 2 = (p : Int) := by omega
      have p1 : i ≤ p := by omega
      have p2 : p < j := by omega
      obtain ⟨y, hy⟩ := get_lt (L := U) (k := p - a) (by have := HM.out; omega)
      have hcy := row_in HR.out hy
      have hlx : X.length + (p - a) = p := by rw [HA.out]; omega
      rw [hlx] at hcy
      have hr : Row wr g ((X ++ U) ++ v :: Z) ex := by simpa [List.append_assoc] using HR.out
      have hcu := row_at hr
      have hlu : (X ++ U).length = m := by rw [List.length_append, HA.out]; exact HM.out
      rw [hlu] at hcu
      have hmy := List.mem_of_getElem? hy
      have HQ := Lib.hid (fun q => HC.out.at_ HG.out HU.out (HOK.out y hmy) q)
      obtain ⟨z, hz⟩ : ∃ z, cf v y = z := ⟨_, rfl⟩
      simp only [hz] at HQ
      have hyu := bef_iff (cf := cf) (HLT.out y hmy)
      have hyu' := bef_iff' HO.out HU.out (HOK.out y hmy) (HLT.out y hmy)
      rw [hz] at hyu hyu'
      have HY := Lib.hid hy
      have p3 : (0 : Int) ≤ (p : Int) := Int.natCast_nonneg _
      have p4 : (p : Int) < (n : Int) := by omega
      by_cases hv0 : z < 0
      · have hb1 := hyu.1 hv0
        have hd1 : decide (z < 0) = true := decide_eq_true hv0
        have hd2 : (!decide (z < 0)) = false := by rw [hd1]; rfl
        have HJ1 : Hid (∀ z ∈ U.drop (p - a), Bef cf v z) := fun z hz => by
          rcases mem_drop_succ HY.out hz with rfl | hz
          · exact hb1
          · exact Bef.trans HO.out HU.out (HOK.out y (List.mem_of_getElem? HY.out)) (HOK.out z (List.mem_of_mem_drop hz)) hb1 (srt_behind HS.out HY.out hz)
        clear hp hy hr hlx hlu hmy hz hyu hyu' hb1
        go_wp2_with fail
        go_quiet ((go_at_call 40; exact (HQ.out _)))
        go_wp2
        go_roundw
        case rel => exact ⟨i, p, rfl, rfl, hmi, by omega, by omega, HI, HJ1, only_drewN HG.out _, HR.out.drewN _⟩
        case measure => simp [intOf]; omega
      · have hb1 := hyu'.1 hv0
        have hd1 : decide (z < 0) = false := decide_eq_false hv0
        have hd2 : (!decide (z < 0)) = true := by rw [hd1]; rfl
        have HI1 : Hid (∀ z ∈ U.take (p + 1 - a), Bef cf z v) := fun z hz => by
          rw [show p + 1 - a = (p - a) + 1 by omega] at hz
          rcases mem_take_succ HY.out hz with rfl | hz
          · exact hb1
          · exact Bef.trans HO.out (HOK.out z (List.mem_of_mem_take hz)) (HOK.out y (List.mem_of_getElem? HY.out)) HU.out (srt_before HS.out HY.out hz) hb1
        clear hp hy hr hlx hlu hmy hz hyu hyu' hb1
        go_wp2_with fail
        go_quiet ((go_at_call 40; exact (HQ.out _)))
        go_wp2
        go_roundw
        case rel => exact ⟨p + 1, j, by go_num, rfl, by omega, by omega, hjb, HI1, HJ, only_drewN HG.out _, HR.out.drewN _⟩
        case measure => simp [intOf]; omega
    · obtain rfl : i = j := by omega
      have l1 : ¬ (i : Int) < (i : Int) := by omega
      obtain ⟨U1, U2, hUU, k1, k2⟩ := split_len (L := U) (i - a) (by have := HM.out; omega)
      have e1 : U.take (i - a) = U1 := by rw [hUU, ← k1]; simp
      have e2 : U.drop (i - a) = U2 := by rw [hUU, ← k1]; simp
      rw [e1] at HI
      rw [e2] at HJ
      have HF : Hid (Srt cf (U1 ++ v :: U2)) := ins_done HO.out (fun x hx => HOK.out x (by rw [hUU]; simp [hx])) HU.out (by rw [← hUU]; exact HS.out) (fun s hs => HI.out s (List.mem_of_getLast? hs)) HJ.out
      have HP : Hid ((U1 ++ v :: U2).Perm (U ++ [v])) := by
        show List.Perm _ _
        rw [hUU]
        exact List.perm_middle.trans (List.perm_append_comm (l₁ := [v]) (l₂ := U1 ++ U2))
      have HR0 : Hid (Row wr g (X ++ ((U1 ++ (U2 ++ v :: [])) ++ Z)) ex) := by
        show Row _ _ _ _
        have := HR.out
        rw [hUU] at this
        simpa [List.append_assoc] using this
      have k3 : U2.length = m - i := by rw [k2]; have := HM.out; omega
      have HK1 := Lib.hid k1
      have HK2 := Lib.hid k3
      clear hUU k1 k2 k3 e1 e2 HI HJ HR
      rename World => wo
      go_wp2_with fail
      go_loopw [17] (fun vk wr => ∃ t : Nat, ∃ k : Nat, vk = .int .i64 k ∧ Hid (k = i + t) ∧ i ≤ k ∧ k ≤ m ∧ Hid (w.grownBy wr (some g)) ∧ Hid (Row wr g (X ++ ((U1 ++ (U2.take t ++ v :: U2.drop t)) ++ Z)) ex)) (fun vk _ => (intOf vk).toNat)
      case atStart => exact ⟨m - i, m, rfl, by show _ = _; omega, by omega, Nat.le_refl _, HG, by show Row _ _ _ _; rw [List.take_of_length_le (by rw [HK2.out]; omega), List.drop_of_length_le (by rw [HK2.out]; omega)]; exact HR0.out⟩
      case round =>
        obtain ⟨t, k, rfl, HKT, hik, hkm, HG2, HR2⟩ := hrel
        have hk := HKT.out
        by_cases hki : i < k
        · have l2 : (k : Int) > (i : Int) := by omega
          obtain ⟨t', rfl⟩ : ∃ t', t = t' + 1 := ⟨t - 1, by omega⟩
          obtain ⟨kp', rfl⟩ : ∃ kp', k = kp' + 1 := ⟨k - 1, by omega⟩
          obtain ⟨y, hy⟩ := get_lt (L := U2) (k := t') (by rw [HK2.out]; omega)
          have htk : U2.take (t' + 1) = U2.take t' ++ [y] := by rw [List.take_add_one, hy]; rfl
          have hdr : U2.drop t' = y :: U2.drop (t' + 1) := by
            obtain ⟨h1, e⟩ := List.getElem?_eq_some_iff.1 hy
            rw [List.drop_eq_getElem_cons h1, e]
          have hr : Row wr g ((X ++ U1 ++ U2.take t') ++ y :: ([] ++ v :: (U2.drop (t' + 1) ++ Z))) ex := by
            have := HR2.out
            rw [htk] at this
            simpa [List.append_assoc] using this
          have hl1 : (X ++ U1 ++ U2.take t').length = kp' := by
            have h1 := (List.getElem?_eq_some_iff.1 hy).1
            rw [List.length_append, List.length_append, List.length_take, HA.out, HK1.out]
            omega
          have c1 := row_at hr
          have hr' : Row wr g (((X ++ U1 ++ U2.take t') ++ [y]) ++ v :: (U2.drop (t' + 1) ++ Z)) ex := by simpa [List.append_assoc] using hr
          have c2 := row_at hr'
          have hl2 : ((X ++ U1 ++ U2.take t') ++ [y]).length = kp' + 1 := by rw [List.length_append, hl1]; rfl
          rw [hl2] at c2
          have hsw := hr.swap'
          rw [hl1] at c1 hsw
          simp only [List.length_nil, Nat.add_zero] at hsw
          have f1 := hr.frozen kp'
          have f2 := hr.frozen (kp' + 1)
          have j0 : ((kp' + 1 : Nat) : Int) = (kp' : Int) + 1 := by omega
          have j1 : (kp' : Int) < (n : Int) := by omega
          have j2 : (kp' : Int) + 1 < (n : Int) := by omega
          have j3 : (0 : Int) ≤ (kp' : Int) + 1 := by omega
          have j5 : (0 : Int) ≤ (kp' : Int) := Int.natCast_nonneg _
          have j4 : ((kp' : Int) + 1).toNat = kp' + 1 := by omega
          have jw : IntKind.i64.wrap (kp' : Int) = (kp' : Int) := IntWalk.i64_in _ (by omega)
          have l3 : (kp' : Int) + 1 > (i : Int) := by omega
          obtain ⟨q, hq⟩ : ∃ q, kp' + 1 = q := ⟨_, rfl⟩
          rw [hq] at c2 f2 hsw j4
          have n1 : ¬ kp' = q := by omega
          have n2 : ¬ q = kp' := by omega
          have HSW : Hid (Row ((wr.setCell ⟨g, q, none⟩ (.int .i64 y)).setCell ⟨g, kp', none⟩ (.int .i64 v)) g (X ++ ((U1 ++ (U2.take t' ++ v :: U2.drop t')) ++ Z)) ex) := by
            show Row _ _ _ _
            rw [hdr]
            simpa [List.append_assoc] using hsw
          have hkt2 : Hid (kp' = i + t') := by show _ = _; omega
          clear hy htk hdr hr hr' hl1 hl2 hsw hq hk l2
          rw [j0]
          go_wp2_with fail
          go_big_region
          all_goals
            go_wp2
            go_roundw
            case rel => exact ⟨t', kp', rfl, hkt2, by omega, by omega, only_drew (only_swap HG2.out q kp' _ _), HSW.out.drew⟩
            case measure => simp [intOf]
        · have l2 : ¬ (k : Int) > (i : Int) := by omega
          have ht0 : t = 0 := by omega
          have hF : Row wr g (X ++ ((U1 ++ v :: U2) ++ Z)) ex := by
            have := HR2.out
            rw [ht0] at this
            simpa [List.append_assoc] using this
          have HFF := Lib.hid hF
          clear hF hk ht0
          go_wp2
          refine bodyPost_ret (results_none rfl _ _ _) rfl ?_
          exact ⟨rfl, U1 ++ v :: U2, HP.out, HF.out, HG2.out, HFF.out⟩
end
end Go.Proofs.YtmmppflaacabbaaDoor
