/- spec.l07Places sorts the places of the cards by their texts, and spec.OrderBy answers them: contracts. -/
import Derived.Test.YtmmppflaacabbaaDoorOrderS
import Derived.Test.YtmmppflaacabbaaDoorIntsAt
import Derived.Deep.QuietTactic
import Derived.BigQuiet
namespace Go.Proofs.YtmmppflaacabbaaDoor
open Go.ChangeShapes Go.WideShapes Go.ChangeAt Go.RowKit

/-- A slice of numbers of new memory. -/
def GivesI (L : List Int) (w : World) (e : Ending) (w' : World) : Prop :=
  ∃ A cap, e = .returned (.slice A L.length cap) ∧ Below w.heap.size w w' ∧ IAt w' w.heap.size w'.heap.size A L
/-- what is left when the place is found -/
theorem place_found {cf : Int → Int → Int} {n t k : Nat} {M : List Int} (hO : Ord cf (okK n)) (ht : t < n) (hp : M.Perm (identL t)) (hs : Srt cf M) (_ : k ≤ t) (hr : ∀ s ∈ M.drop k, Bef cf t s) (hl : ∀ s, (M.take k).getLast? = some s → ¬ cf t s < 0) :
    (M.take k ++ (t : Int) :: M.drop k).Perm (identL (t + 1)) ∧ Srt cf (M.take k ++ (t : Int) :: M.drop k) := by
  have ho : ∀ x ∈ M, okK n x := fun x hx => by
    have := identL_mem.1 (hp.subset hx)
    exact ⟨this.1, by have := this.2; omega⟩
  refine ⟨?_, ins_done hO (fun x hx => ho x (List.mem_of_mem_take hx)) ⟨Int.natCast_nonneg _, by omega⟩ (by rw [List.take_append_drop]; exact hs) (fun s h => ?_) hr⟩
  · rw [identL_succ]
    refine List.perm_middle.trans ?_
    rw [List.take_append_drop]
    exact (List.Perm.cons _ hp).trans (List.perm_append_comm (l₁ := [(t : Int)]) (l₂ := identL t))
  · have hm : s ∈ M := List.mem_of_mem_take (List.mem_of_getLast? h)
    have := identL_mem.1 (hp.subset hm)
    exact (bef_iff' hO ⟨Int.natCast_nonneg _, by omega⟩ (ho s hm) this.2).1 (hl s h)

set_option maxRecDepth 100000 in
set_option maxHeartbeats 4000000 in
theorem l07Places_any (A : Option Addr) (c : Nat) (D : List CardV) (i j : Nat) (w : World) (hr : 0 < D.length → ∃ g, A = some ⟨g, 0, none⟩ ∧ g < w.heap.size ∧ KeyRow w g D i j) (hv : deckB (holes D) = true) (hkb : keysB (holes D) i j = true) (hj : j ≤ widthH (holes D)) :
    Calls Tryd.prog 71 #[.slice A D.length c] w (GivesI (orderV (holes D) i j) w) := by
  obtain ⟨i0, hi0, hz0, hz1, hz2⟩ := info_parts info_int64
  have hn40 : D.length ≤ 40 := by
    have := deck_len hv
    simpa [holes] using this
  obtain ⟨n, hN⟩ : ∃ n, D.length = n := ⟨_, rfl⟩
  have hcmp := fun kg W (hrow : KeyRow W kg D i j) p q hp hq => keyCmp_any (n := n) hrow hv hkb hj hN (p := p) (q := q) hp hq
  have hHn : (holes D).length = n := by simp [holes, hN]
  have hov : ∀ M : List Int, M.Perm (identL n) → Srt (cfK (holes D) i j) M → orderV (holes D) i j = M := fun M p s => orderV_eq (by rw [hHn]; exact p) s
  have hord := ord_K (holes D) i j n
  obtain ⟨V, hV⟩ : ∃ V, orderV (holes D) i j = V := ⟨_, rfl⟩
  obtain ⟨cf, hcf⟩ : ∃ cf, cfK (holes D) i j = cf := ⟨_, rfl⟩
  simp only [hV, hcf] at hov hord hcmp
  rw [hV]
  rw [hN] at hn40 hr ⊢
  have HR := Lib.hid hr
  have HC := Lib.hid hcmp
  have HOV := Lib.hid hov
  have HORD := Lib.hid hord
  have HE := Lib.hid (empty_owned w)
  clear hr hN hv hkb hj hcmp hHn hov hord hV hcf
  go_enter Tryd.func71, Tryd.ntmps71
  go_wp2
  go_loopw [3, 4] (fun vo vi wr => ∃ t g cap : Nat, ∃ M : List Int, vi = .int .i64 t ∧ vo = .slice (some ⟨g, 0, none⟩) t cap ∧ t ≤ n ∧ Hid (M.length = t) ∧ Hid (M.Perm (identL t)) ∧ Hid (Srt cf M) ∧ Hid (wr.ownsRow w.heap.size 2 1 (.slice (some ⟨g, 0, none⟩) t cap) t (M.map (Value.int .i64))) ∧ Hid (Below w.heap.size w wr)) (fun _ vi _ => n - (intOf vi).toNat)
  case atStart => exact ⟨0, w.heap.size, 0, [], rfl, rfl, Nat.zero_le _, rfl, List.Perm.refl _, List.Pairwise.nil, HE, below_box w _⟩
  case round =>
    obtain ⟨t, g, cap, M, rfl, rfl, htn, HL, HP, HS, HO, HB⟩ := hrel
    by_cases hlt : t < n
    · obtain ⟨kg, rfl, hkg, hrow⟩ := HR.out (by omega)
      have HROW := Lib.hid hrow
      have t0 : (0 : Int) ≤ (t : Int) := Int.natCast_nonneg _
      have t1 : (t : Int) < (n : Int) := by omega
      clear hrow
      rename World => wo
      go_wp2_with fail
      go_loopw [5] (fun vk wr => ∃ k : Nat, vk = .int .i64 k ∧ k ≤ t ∧ Hid (∀ s ∈ M.drop k, Bef cf t s) ∧ Hid (wr.ownsRow w.heap.size 2 1 (.slice (some ⟨g, 0, none⟩) t cap) t (M.map (Value.int .i64))) ∧ Hid (Below w.heap.size w wr)) (fun vk _ => (intOf vk).toNat)
      case atStart => exact ⟨t, rfl, Nat.le_refl _, (fun s hs => by rw [List.drop_of_length_le (by rw [HL.out]; exact Nat.le_refl _)] at hs; cases hs), HO, HB⟩
      case round =>
        obtain ⟨k, rfl, hkt, HBE, HO2, HB2⟩ := hrel
        obtain ⟨og, oc, om, ex, hrr⟩ := own_rowS HO2.out
        have FND := Lib.hid (fun hl => place_found HORD.out hlt HP.out HS.out hkt HBE.out hl)
        by_cases hk0 : 0 < k
        · obtain ⟨k', rfl⟩ : ∃ k', k = k' + 1 := ⟨k - 1, by omega⟩
          obtain ⟨s, hs⟩ : ∃ s, M[k']? = some s := ⟨M[k']'(by rw [HL.out]; omega), List.getElem?_eq_getElem _⟩
          have hsm := identL_mem.1 (HP.out.subset (List.mem_of_getElem? hs))
          obtain ⟨q, rfl⟩ : ∃ q : Nat, s = q := ⟨s.toNat, by have := hsm.1; omega⟩
          have hq : q < t := by have := hsm.2; omega
          obtain ⟨S1, S2, e1, e2, hcc⟩ := HC.out kg w HROW.out t q hlt (by omega)
          have c0 : wr.cell? ⟨g, k', none⟩ = some (.int .i64 (q : Int)) := by
            have := hrr.cell (i := k') (by rw [HL.out]; omega)
            rw [hs] at this
            exact this
          have c1 := cell_kept e1 HB2.out
          have c2 := cell_kept e2 HB2.out
          obtain ⟨v, hvv⟩ : ∃ v, cf (t : Int) (q : Int) = v := ⟨_, rfl⟩
          simp only [hvv] at hcc
          have HCC : Hid (∀ m, Calls Tryd.prog 47 #[.string S1, .string S2] (wr.drewN m) fun e w' => e = .returned (.int .i64 v) ∧ w' = wr.drewN m) := fun m => hcc _
          have HVV := Lib.hid hvv
          have HSM := Lib.hid hs
          have j1 : (k' : Int) + 1 > 0 := by omega
          have j2 : ((k' + 1 : Nat) : Int) = (k' : Int) + 1 := by omega
          have j3 : (0 : Int) ≤ (k' : Int) := Int.natCast_nonneg _
          have j4 : (k' : Int) < (t : Int) := by omega
          have j5 : (0 : Int) ≤ (q : Int) := Int.natCast_nonneg _
          have j6 : (q : Int) < (n : Int) := by omega
          have jd : decide ((k' : Int) + 1 > 0) = true := decide_eq_true j1
          have jw : IntKind.i64.wrap (k' : Int) = (k' : Int) := IntWalk.i64_in _ (by omega)
          clear hcc hvv hs hsm e1 e2
          by_cases hv0 : v < 0
          · rw [j2]
            clear hrr om oc FND
            go_wp2_with fail
            go_quiet ((go_at_call 47; exact Calls.quiet_of_same (HCC.out _)))
            go_wp2
            go_roundw
            case rel =>
              refine ⟨k', by go_num, by omega, fun s' hs' => ?_, HO2.out, below_drewN HB2.out _⟩
              obtain ⟨hk1, he1⟩ := List.getElem?_eq_some_iff.1 HSM.out
              rw [List.drop_eq_getElem_cons hk1, he1] at hs'
              rcases List.mem_cons.1 hs' with rfl | hs'
              · exact (bef_iff (by omega)).1 (by rw [HVV.out]; exact hv0)
              · exact HBE.out s' hs'
            case measure => simp [intOf]
          · have hvn : ¬ v < 0 := hv0
            clear hv0
            rw [j2]
            have hl0 : ∀ s, (M.take (k' + 1)).getLast? = some s → ¬ cf t s < 0 := fun s' hs' => by
              have e' : M.take (k' + 1) = M.take k' ++ [(q : Int)] := by rw [List.take_add_one, HSM.out]; rfl
              rw [e'] at hs'
              have e2 : (q : Int) = s' := by simpa using hs'
              rw [← e2, HVV.out]
              exact hvn
            obtain ⟨fp, fs⟩ := FND.out hl0
            obtain ⟨M2, hM2⟩ : ∃ M2, M.take (k' + 1) ++ (t : Int) :: M.drop (k' + 1) = M2 := ⟨_, rfl⟩
            rw [hM2] at fp fs
            have FP := Lib.hid fp
            have FS := Lib.hid fs
            have hml : M2.length = t + 1 := by rw [fp.length_eq, identL_length]
            have HML := Lib.hid hml
            have HM2 : Hid (((M.take (k' + 1)).map (Value.int .i64) ++ [Value.int .i64 (t : Int)]) ++ (M.drop (k' + 1)).map (Value.int .i64) = M2.map (Value.int .i64)) := by show _ = _; rw [← hM2]; simp
            have ltk : (M.take (k' + 1)).length = (k' + 1) := by rw [List.length_take, HL.out]; omega
            have ldk : (M.drop (k' + 1)).length = t - (k' + 1) := by rw [List.length_drop, HL.out]
            obtain ⟨Q1, hQ1⟩ : ∃ Q1, M.take (k' + 1) = Q1 := ⟨_, rfl⟩
            obtain ⟨Q2, hQ2⟩ : ∃ Q2, M.drop (k' + 1) = Q2 := ⟨_, rfl⟩
            have hq1 : ∀ i : Nat, i < (k' + 1) → Q1[i]?.getD 0 = M[i]?.getD 0 := fun i hi => by rw [← hQ1, List.getElem?_take_of_lt hi]
            have hq2 : ∀ i : Nat, Q2[i]?.getD 0 = M[(k' + 1) + i]?.getD 0 := fun i => by rw [← hQ2, List.getElem?_drop]
            rw [hQ1] at ltk
            rw [hQ2] at ldk
            rw [hQ1, hQ2] at HM2
            have HQ1 := Lib.hid hq1
            have HQ2 := Lib.hid hq2
            have LTK := Lib.hid ltk
            have LDK := Lib.hid ldk
            have HOWN : Hid (∀ W, Row W g M ex → Calls Tryd.prog 104 #[.slice (some ⟨g, 0, none⟩) (k' + 1) cap] W fun e w' => ∃ v, e = .returned v ∧ v ≠ .slice none 0 0 ∧ w'.ownsRow W.heap.size 2 1 v (k' + 1) (Q1.map (Value.int .i64)) ∧ Below W.heap.size W w') := fun W hW => by
              have := ownInts_any g 0 cap Q1 W hW.lt (fun i hi => by rw [Nat.zero_add, HQ1.out i (by rw [← LTK.out]; exact hi)]; exact hW.cell (by rw [HL.out]; rw [LTK.out] at hi; omega)) (by rw [LTK.out]; omega)
              rw [LTK.out] at this
              exact this
            have f0 : (0 : Int) ≤ (k' : Int) + 1 := by omega
            have f1 : (k' : Int) + 1 ≤ (cap : Int) := by omega
            have f2 : (k' : Int) + 1 ≤ (t : Int) := by omega
            have f4 : ((k' : Int) + 1).toNat = k' + 1 := by omega
            have f3 : (t : Int) ≤ (cap : Int) := by omega
            have hs0 : ∀ W : World, (Instr.slice 29 (.slice (some ⟨g, 0, none⟩) t cap) none (some (.int .i64 ((k' : Int) + 1))) none).run Tryd.prog W = .ok (.slice (some ⟨g, 0, none⟩) (k' + 1) cap) W := fun W => by go_simp
            obtain ⟨m7, hm7⟩ : ∃ m7, t - (k' + 1) = m7 := ⟨_, rfl⟩
            obtain ⟨c7, hc7⟩ : ∃ c7, cap - (k' + 1) = c7 := ⟨_, rfl⟩
            have HM7 := Lib.hid hm7
            obtain ⟨ad, had⟩ : ∃ ad : Addr, (if cap = (k' + 1) then ⟨g, 0, none⟩ else ⟨g, (k' + 1), none⟩) = ad := ⟨_, rfl⟩
            have hs1 : ∀ W : World, (Instr.slice 29 (.slice (some ⟨g, 0, none⟩) t cap) (some (.int .i64 ((k' : Int) + 1))) none none).run Tryd.prog W = .ok (.slice (some ad) m7 c7) W := fun W => by
              rw [← had, ← hm7, ← hc7]
              by_cases hcap : cap = (k' + 1)
              · rw [if_pos hcap]
                go_simp
              · rw [if_neg hcap]
                go_simp
            have HNW : Hid (∀ W, Row W g M ex → ∀ j u, (Q2.map (Value.int .i64))[j]? = some u → W.cell? (ad.add j) = some u) := fun W hW => by
              rw [← had]
              by_cases hcap : cap = (k' + 1)
              · have : Q2 = [] := List.eq_nil_of_length_eq_zero (by rw [LDK.out]; omega)
                rw [this]
                intro j u hu
                simp at hu
              · rw [if_neg hcap]
                refine news_of fun i hi => ?_
                rw [HQ2.out i]
                exact hW.cell (by rw [HL.out]; rw [LDK.out] at hi; omega)
            have HRR := Lib.hid hrr
            have hgs : g < wr.heap.size := hrr.lt
            clear fp fs hM2 hml hQ1 hQ2 hq1 hq2 ltk ldk had hm7 hc7 hl0 hrr om oc
            go_wp2_with fail
            go_quiet ((go_at_call 47; exact Calls.quiet_of_same (HCC.out _)))
            have HB3 := Lib.hid (show Below w.heap.size w (wr.drewN nq) from below_drewN HB2.out _)
            have hr3 : Row (wr.drewN nq) g M ex := HRR.out
            have hg3 : g < (wr.drewN nq).heap.size := hgs
            generalize wr.drewN nq = w3 at HB3 hr3 hg3 ⊢
            have HR3 := Lib.hid hr3
            have HOC := Lib.hid (HOWN.out w3 hr3)
            clear hr3
            go_wp2_with fail
            refine HOC.out.mono ?_
            rintro e w4 ⟨v4, rfl, hv4, ho4, hb4⟩
            obtain ⟨g4, cap4, rfl⟩ := own_shape ho4 hv4
            have HO4 := Lib.hid ho4
            have HB4 := Lib.hid (below_step HB3.out hb4)
            have HR4 := Lib.hid (HR3.out.later hb4)
            have h34 : w3.heap.size ≤ w4.heap.size := hb4.size
            have hw4 : w.heap.size ≤ w4.heap.size := HB4.out.size
            have hw3 : w.heap.size ≤ w3.heap.size := HB3.out.size
            clear ho4 hb4 hv4
            go_wp2_with (at_builtin; first | (refine wpList_append_own _ rfl _ _ 29 rfl w3.heap.size 2 i0 (.int .i64 0) 1 8 Tryd.underlying29 hi0 hz0 hz1 hz2 rfl (by decide) _ (k' + 1) (Q1.map (Value.int .i64)) rfl (HO4.out.alloc _) ⟨w4.heap.size, 0, none⟩ 1 1 [.int .i64 (t : Int)] rfl rfl (one_news w4 _) (one_cell _) ?c3 ?c4 ?c5 ?_; rotate_left 3; intro v5 w5 hown hgrow hiff; obtain ⟨m5, hm5⟩ : ∃ m5, (k' + 1) + 1 = m5 := ⟨_, rfl⟩; rw [hm5] at hown; have HM5 := Lib.hid hm5; clear hm5; have HO5 := Lib.hid hown; have HB5 := Lib.hid (below_append HB4.out hgrow HO4.out hw4 hw3); have HR5 : Hid (Row w5 g M ex) := (append_block hgrow HO4.out (by omega) hg3).trans HR4.out; have hv5 : v5 ≠ .slice none 0 0 := (fun e => by have := (hiff.1 e).1; cases this); obtain ⟨g5, cap5, rfl⟩ := own_shape hown hv5; have hw5 : w.heap.size ≤ w5.heap.size := HB5.out.size; have h45 : w4.heap.size ≤ w5.heap.size := append_size hgrow; clear hown hgrow hiff hv5) | (refine wpList_append_own _ rfl _ _ 29 rfl w3.heap.size 2 i0 (.int .i64 0) 1 8 Tryd.underlying29 hi0 hz0 hz1 hz2 rfl (by decide) _ m5 (Q1.map (Value.int .i64) ++ [Value.int .i64 (t : Int)]) rfl HO5.out ad m7 c7 (Q2.map (Value.int .i64)) rfl (by rw [List.length_map, LDK.out, HM7.out, Nat.mul_one]) (HNW.out w5 HR5.out) (maps_one Q2) ?d3 ?d4 ?d5 ?_; rotate_left 3; intro v6 w6 hown hgrow hiff; have hv6 : v6 ≠ .slice none 0 0 := (fun e => by have := (hiff.1 e).1; cases this); rw [HM2.out, show m5 + m7 = t + 1 by have h1 := HM5.out; have h2 := HM7.out; omega] at hown; obtain ⟨g6, cap6, rfl⟩ := own_shape hown hv6; have HO6 := Lib.hid (own_lower hown hw3); have HB6 : Hid (Below w.heap.size w w6) := HB5.out.grown hgrow hw5 (fun x hx => Nat.le_trans hw3 (HO5.out.lt x hx).1); clear hown hgrow hiff hv6))
            case c3 => unfold maxLen; omega
            case c4 => omega
            case c5 => simp; omega
            case d3 => have h1 := HM5.out; have h2 := HM7.out; unfold maxLen; omega
            case d4 => have h1 := HM5.out; have h2 := HM7.out; omega
            case d5 => omega
            go_roundw
            case rel => exact ⟨t + 1, g6, cap6, M2, by go_num, rfl, by omega, HML, FP, FS, HO6, HB6⟩
            case measure => simp [intOf]; omega
        · obtain rfl : k = 0 := by omega
          clear hk0
          have jz : ((0 : Nat) : Int) = 0 := rfl
          have jd : decide ((0 : Int) > 0) = false := by decide
          rw [jz]
          have hl0 : ∀ s, (M.take 0).getLast? = some s → ¬ cf t s < 0 := fun s' hs' => by simp at hs'
          obtain ⟨fp, fs⟩ := FND.out hl0
          obtain ⟨M2, hM2⟩ : ∃ M2, M.take 0 ++ (t : Int) :: M.drop 0 = M2 := ⟨_, rfl⟩
          rw [hM2] at fp fs
          have FP := Lib.hid fp
          have FS := Lib.hid fs
          have hml : M2.length = t + 1 := by rw [fp.length_eq, identL_length]
          have HML := Lib.hid hml
          have HM2 : Hid (((M.take 0).map (Value.int .i64) ++ [Value.int .i64 (t : Int)]) ++ (M.drop 0).map (Value.int .i64) = M2.map (Value.int .i64)) := by show _ = _; rw [← hM2]; simp
          have ltk : (M.take 0).length = 0 := by rw [List.length_take, HL.out]; omega
          have ldk : (M.drop 0).length = t - 0 := by rw [List.length_drop, HL.out]
          obtain ⟨Q1, hQ1⟩ : ∃ Q1, M.take 0 = Q1 := ⟨_, rfl⟩
          obtain ⟨Q2, hQ2⟩ : ∃ Q2, M.drop 0 = Q2 := ⟨_, rfl⟩
          have hq1 : ∀ i : Nat, i < 0 → Q1[i]?.getD 0 = M[i]?.getD 0 := fun i hi => by rw [← hQ1, List.getElem?_take_of_lt hi]
          have hq2 : ∀ i : Nat, Q2[i]?.getD 0 = M[0 + i]?.getD 0 := fun i => by rw [← hQ2, List.getElem?_drop]
          rw [hQ1] at ltk
          rw [hQ2] at ldk
          rw [hQ1, hQ2] at HM2
          have HQ1 := Lib.hid hq1
          have HQ2 := Lib.hid hq2
          have LTK := Lib.hid ltk
          have LDK := Lib.hid ldk
          have HOWN : Hid (∀ W, Row W g M ex → Calls Tryd.prog 104 #[.slice (some ⟨g, 0, none⟩) 0 cap] W fun e w' => ∃ v, e = .returned v ∧ v ≠ .slice none 0 0 ∧ w'.ownsRow W.heap.size 2 1 v 0 (Q1.map (Value.int .i64)) ∧ Below W.heap.size W w') := fun W hW => by
            have := ownInts_any g 0 cap Q1 W hW.lt (fun i hi => by rw [Nat.zero_add, HQ1.out i (by rw [← LTK.out]; exact hi)]; exact hW.cell (by rw [HL.out]; rw [LTK.out] at hi; omega)) (by rw [LTK.out]; omega)
            rw [LTK.out] at this
            exact this
          have f1 : (0 : Int) ≤ (cap : Int) := by omega
          have f3 : (t : Int) ≤ (cap : Int) := by omega
          have hs0 : ∀ W : World, (Instr.slice 29 (.slice (some ⟨g, 0, none⟩) t cap) none (some (.int .i64 (0 : Int))) none).run Tryd.prog W = .ok (.slice (some ⟨g, 0, none⟩) 0 cap) W := fun W => by go_simp
          obtain ⟨m7, hm7⟩ : ∃ m7, t - 0 = m7 := ⟨_, rfl⟩
          obtain ⟨c7, hc7⟩ : ∃ c7, cap - 0 = c7 := ⟨_, rfl⟩
          have HM7 := Lib.hid hm7
          obtain ⟨ad, had⟩ : ∃ ad : Addr, (if cap = 0 then ⟨g, 0, none⟩ else ⟨g, 0, none⟩) = ad := ⟨_, rfl⟩
          have hs1 : ∀ W : World, (Instr.slice 29 (.slice (some ⟨g, 0, none⟩) t cap) (some (.int .i64 (0 : Int))) none none).run Tryd.prog W = .ok (.slice (some ad) m7 c7) W := fun W => by
            rw [← had, ← hm7, ← hc7]
            by_cases hcap : cap = 0
            · rw [if_pos hcap]
              go_simp
            · rw [if_neg hcap]
              go_simp
          have HNW : Hid (∀ W, Row W g M ex → ∀ j u, (Q2.map (Value.int .i64))[j]? = some u → W.cell? (ad.add j) = some u) := fun W hW => by
            rw [← had]
            by_cases hcap : cap = 0
            · have : Q2 = [] := List.eq_nil_of_length_eq_zero (by rw [LDK.out]; omega)
              rw [this]
              intro j u hu
              simp at hu
            · rw [if_neg hcap]
              refine news_of fun i hi => ?_
              rw [HQ2.out i]
              exact hW.cell (by rw [HL.out]; rw [LDK.out] at hi; omega)
          have HRR := Lib.hid hrr
          have hgs : g < wr.heap.size := hrr.lt
          clear fp fs hM2 hml hQ1 hQ2 hq1 hq2 ltk ldk had hm7 hc7 hl0 hrr om oc
          go_wp2_with fail
          go_quiet (fail)
          have HB3 := Lib.hid (show Below w.heap.size w (wr.drewN nq) from below_drewN HB2.out _)
          have hr3 : Row (wr.drewN nq) g M ex := HRR.out
          have hg3 : g < (wr.drewN nq).heap.size := hgs
          generalize wr.drewN nq = w3 at HB3 hr3 hg3 ⊢
          have HR3 := Lib.hid hr3
          have HOC := Lib.hid (HOWN.out w3 hr3)
          clear hr3
          go_wp2_with fail
          refine HOC.out.mono ?_
          rintro e w4 ⟨v4, rfl, hv4, ho4, hb4⟩
          obtain ⟨g4, cap4, rfl⟩ := own_shape ho4 hv4
          have HO4 := Lib.hid ho4
          have HB4 := Lib.hid (below_step HB3.out hb4)
          have HR4 := Lib.hid (HR3.out.later hb4)
          have h34 : w3.heap.size ≤ w4.heap.size := hb4.size
          have hw4 : w.heap.size ≤ w4.heap.size := HB4.out.size
          have hw3 : w.heap.size ≤ w3.heap.size := HB3.out.size
          clear ho4 hb4 hv4
          go_wp2_with (at_builtin; first | (refine wpList_append_own _ rfl _ _ 29 rfl w3.heap.size 2 i0 (.int .i64 0) 1 8 Tryd.underlying29 hi0 hz0 hz1 hz2 rfl (by decide) _ 0 (Q1.map (Value.int .i64)) rfl (HO4.out.alloc _) ⟨w4.heap.size, 0, none⟩ 1 1 [.int .i64 (t : Int)] rfl rfl (one_news w4 _) (one_cell _) ?c3 ?c4 ?c5 ?_; rotate_left 3; intro v5 w5 hown hgrow hiff; obtain ⟨m5, hm5⟩ : ∃ m5, 0 + 1 = m5 := ⟨_, rfl⟩; rw [hm5] at hown; have HM5 := Lib.hid hm5; clear hm5; have HO5 := Lib.hid hown; have HB5 := Lib.hid (below_append HB4.out hgrow HO4.out hw4 hw3); have HR5 : Hid (Row w5 g M ex) := (append_block hgrow HO4.out (by omega) hg3).trans HR4.out; have hv5 : v5 ≠ .slice none 0 0 := (fun e => by have := (hiff.1 e).1; cases this); obtain ⟨g5, cap5, rfl⟩ := own_shape hown hv5; have hw5 : w.heap.size ≤ w5.heap.size := HB5.out.size; have h45 : w4.heap.size ≤ w5.heap.size := append_size hgrow; clear hown hgrow hiff hv5) | (refine wpList_append_own _ rfl _ _ 29 rfl w3.heap.size 2 i0 (.int .i64 0) 1 8 Tryd.underlying29 hi0 hz0 hz1 hz2 rfl (by decide) _ m5 (Q1.map (Value.int .i64) ++ [Value.int .i64 (t : Int)]) rfl HO5.out ad m7 c7 (Q2.map (Value.int .i64)) rfl (by rw [List.length_map, LDK.out, HM7.out, Nat.mul_one]) (HNW.out w5 HR5.out) (maps_one Q2) ?d3 ?d4 ?d5 ?_; rotate_left 3; intro v6 w6 hown hgrow hiff; have hv6 : v6 ≠ .slice none 0 0 := (fun e => by have := (hiff.1 e).1; cases this); rw [HM2.out, show m5 + m7 = t + 1 by have h1 := HM5.out; have h2 := HM7.out; omega] at hown; obtain ⟨g6, cap6, rfl⟩ := own_shape hown hv6; have HO6 := Lib.hid (own_lower hown hw3); have HB6 : Hid (Below w.heap.size w w6) := HB5.out.grown hgrow hw5 (fun x hx => Nat.le_trans hw3 (HO5.out.lt x hx).1); clear hown hgrow hiff hv6))
          case c3 => unfold maxLen; omega
          case c4 => omega
          case c5 => simp; omega
          case d3 => have h1 := HM5.out; have h2 := HM7.out; unfold maxLen; omega
          case d4 => have h1 := HM5.out; have h2 := HM7.out; omega
          case d5 => omega
          go_roundw
          case rel => exact ⟨t + 1, g6, cap6, M2, by go_num, rfl, by omega, HML, FP, FS, HO6, HB6⟩
          case measure => simp [intOf]; omega
    · obtain rfl : t = n := by omega
      have t1 : ¬ (t : Int) < (t : Int) := by omega
      obtain ⟨og, oc, om, ex, hrr⟩ := own_rowS HO.out
      obtain rfl : V = M := HOV.out M HP.out HS.out
      have HRR := Lib.hid hrr
      clear hrr
      go_wp2
      go_ret
      exact ⟨some ⟨g, 0, none⟩, cap, by rw [HL.out]; rfl, HB.out, fun _ => ⟨g, ex, rfl, og, HRR.out.lt, HRR.out⟩, Nat.le_refl _⟩

section
variable (A : Option Addr) (c : Nat) (D : List CardV) (B : Nat) (a b : Int) (w : World) (h : Deck w B A D) (hB : B ≤ w.heap.size) (hn : D.length ≤ 1048576) (hl : ∀ d ∈ D, d.xs.length ≤ 1048576)
end
end Go.Proofs.YtmmppflaacabbaaDoor