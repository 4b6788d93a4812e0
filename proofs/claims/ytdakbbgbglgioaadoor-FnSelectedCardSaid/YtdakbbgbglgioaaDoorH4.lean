/- spec.l07Places sorts the places of the cards by their texts: what its comparison and its copies answer: contracts. -/
import Derived.Test.YtdakbbgbglgioaaDoorH2
import Derived.Test.YtdakbbgbglgioaaDoorH1
import Derived.Test.YtdakbbgbglgioaaDoorOwn
import Derived.Test.YtdakbbgbglgioaaDoorMarks
import Derived.Test.YtdakbbgbglgioaaDoorWithin
import Derived.Deep.QuietTactic
import Derived.BigQuiet
import Derived.Test.YtdakbbgbglgioaaDoorDrawDeck
namespace Go.Proofs.YtdakbbgbglgioaaDoor
open Go.ChangeShapes Go.WideShapes Go.ChangeAt Go.RowKit

theorem keyCmp_any {D : List CardV} {i j n kg : Nat} {w : World} (hrow : KeyRow w kg D i j) (hv : deckB (holes D) = true) (hkb : keysB (holes D) i j = true) (hj : j ≤ widthH (holes D)) (hN : D.length = n) {p q : Nat} (hp : p < n) (hq : q < n) :
    ∃ S1 S2, w.cell? ⟨kg, p, none⟩ = some (.string S1) ∧ w.cell? ⟨kg, q, none⟩ = some (.string S2) ∧ ∀ W, Calls Tryd.prog 49 #[.string S1, .string S2] W fun e w' => e = .returned (.int .i64 (cfK (holes D) i j p q)) ∧ w' = W := by
  obtain ⟨d, hd⟩ : ∃ d, D[p]? = some d := ⟨D[p]'(by omega), List.getElem?_eq_getElem _⟩
  obtain ⟨e, he⟩ : ∃ e, D[q]? = some e := ⟨D[q]'(by omega), List.getElem?_eq_getElem _⟩
  obtain ⟨g1, g2⟩ := deck_width hv (holes_at hd)
  obtain ⟨g3, g4⟩ := deck_width hv (holes_at he)
  have o1 := keysB_at (holes_at hd) hkb
  have o2 := keysB_at (holes_at he) hkb
  have l1 := partOf_length d.xs i j (by rw [g2]; exact hj)
  have l2 := partOf_length e.xs i j (by rw [g4]; exact hj)
  have z1 : (textS (partOf d.xs i j)).size = j - i := by rw [← l1]; exact textL_length _
  have z2 : (textS (partOf e.xs i j)).size = j - i := by rw [← l2]; exact textL_length _
  have h20 := (okB_parts g1).2
  have hck : cfK (holes D) i j p q = cmpTo (partOf d.xs i j) (partOf e.xs i j) (j - i) := by
    unfold cfK
    rw [Int.toNat_natCast, Int.toNat_natCast]
    exact cmpK_at hd he
  refine ⟨_, _, hrow p d hd, hrow q e he, fun W => ?_⟩
  rw [hck]
  exact (l03Compare_any (textS (partOf d.xs i j)) (textS (partOf e.xs i j)) (partOf d.xs i j) (partOf e.xs i j) (j - i) z1 z2 l1 l2 (fun k h => textS_get _ k h) (fun k h => textS_get _ k h) o1 o2 (by omega) W).mono fun _ _ hh => ⟨hh.1, hh.2.symm⟩

theorem own_rowS {w : World} {base n g cap : Nat} {xs : List Int} (h : w.ownsRow base 2 1 (.slice (some ⟨g, 0, none⟩) n cap) n (xs.map (Value.int .i64))) : base ≤ g ∧ n ≤ cap ∧ cap ≤ maxLen ∧ ∃ ex, Row w g xs ex := by
  rcases h.2 with ⟨h0, _⟩ | ⟨g', cap', cur, hv, hb, hh, hc, hm, _, ht⟩
  · cases h0
  · injection hv with e1 e2 e3
    injection e1 with e1
    injection e1 with e1
    subst e1
    subst e3
    refine ⟨hb, hc, hm, cur.toList.drop n, ?_⟩
    unfold Row
    rw [hh]
    congr 2
    apply Array.ext'
    rw [← List.take_append_drop n cur.toList, ← ht, Nat.mul_one]
    simp
theorem own_shape {w : World} {base n size : Nat} {et : TypeId} {v : Value} {xs : List Value} (h : w.ownsRow base et size v n xs) (hne : v ≠ .slice none 0 0) : ∃ g cap, v = .slice (some ⟨g, 0, none⟩) n cap := by
  rcases h.2 with ⟨hz, _⟩ | ⟨g, cap, cur, rfl, _⟩
  · exact absurd hz hne
  · exact ⟨g, cap, rfl⟩
theorem own_lower {w : World} {base base' n size : Nat} {et : TypeId} {v : Value} {xs : List Value} (h : w.ownsRow base et size v n xs) (hb : base' ≤ base) : w.ownsRow base' et size v n xs := by
  refine ⟨h.1, ?_⟩
  rcases h.2 with h0 | ⟨g, cap, cur, h1, h2, h3⟩
  · exact Or.inl h0
  · exact Or.inr ⟨g, cap, cur, h1, Nat.le_trans hb h2, h3⟩

/-- the copy of any part of a list, an empty one too -/
theorem ownInts_any (b off c : Nat) (xs : List Int) (w : World) (hb : b < w.heap.size) (hcell : ∀ i, i < xs.length → w.cell? ⟨b, off + i, none⟩ = some (.int .i64 (xs[i]?.getD 0))) (hn : xs.length ≤ 1048576) :
    Calls Tryd.prog 51 #[.slice (some ⟨b, off, none⟩) xs.length c] w fun e w' => ∃ v, e = .returned v ∧ v ≠ .slice none 0 0 ∧ w'.ownsRow w.heap.size 2 1 v xs.length (xs.map (Value.int .i64)) ∧ Below w.heap.size w w' := by
  obtain ⟨i0, hi0, hz0, hz1, hz2⟩ := info_parts info_int64
  have HN := Lib.hid (news_of (fun i hi => (World.cell?_alloc_lt w (.cells #[] 2) ⟨b, off + i, none⟩ hb).trans (hcell i hi)))
  have HM := Lib.hid (maps_length xs)
  have H1 := Lib.hid (maps_one xs)
  have HO := Lib.hid (empty_owned w)
  clear hcell
  go_enter Tryd.func51, Tryd.ntmps51
  go_wp2_with (at_builtin; refine wpList_append_own _ rfl (.tmp 3) (.tmp 4) 34 rfl w.heap.size 2 i0 (.int .i64 0) 1 8 Tryd.underlying34 hi0 hz0 hz1 hz2 rfl (by decide) (.slice (some ⟨w.heap.size, 0, none⟩) 0 0) 0 [] rfl HO.out ⟨b, off, none⟩ xs.length c (xs.map (Value.int .i64)) rfl HM.out HN.out H1.out ?c3 ?c4 ?c5 ?_; rotate_left 3; intro v1 w1 hown hgrow hiff; simp only [Nat.zero_add, List.nil_append] at hown; have B1 := Lib.hid (Below.grown (below_box w _) hgrow (by simp) (fun k hk => by simp [Value.ownBlock] at hk; omega)); have HW := Lib.hid hown; have HI : Hid (v1 ≠ .slice none 0 0) := (fun e => by have := (hiff.1 e).1; cases this); clear hown hgrow hiff)
  case c3 => unfold maxLen; omega
  case c4 => omega
  case c5 => simp
  go_ret
  exact ⟨v1, rfl, HI.out, HW.out, B1.out⟩
end Go.Proofs.YtdakbbgbglgioaaDoor

/- Lists of numbers in memory of their own, as the laws about answered numbers want them. -/
namespace Go.Proofs.YtdakbbgbglgioaaDoor
open Go.ChangeShapes Go.WideShapes Go.ChangeAt Go.RowKit

/-- A list of numbers whose memory is a block from lo up to hi. -/
structure IAt (w : World) (lo hi : Nat) (A : Option Addr) (L : List Int) : Prop where
  top : 0 < L.length → ∃ g ex, A = some ⟨g, 0, none⟩ ∧ lo ≤ g ∧ g < hi ∧ Row w g L ex
  room : hi ≤ w.heap.size
section
variable {w w' : World} {lo hi lo' hi' : Nat} {A : Option Addr} {L : List Int}
theorem IAt.nil (h : hi ≤ w.heap.size) : IAt w lo hi A [] := ⟨fun h => absurd h (by simp), h⟩
theorem IAt.later (h : IAt w lo hi A L) (hb : Below w.heap.size w w') : IAt w' lo hi A L :=
  ⟨fun h0 => by obtain ⟨g, ex, e, h1, h2, h3⟩ := h.top h0; exact ⟨g, ex, e, h1, h2, h3.later hb⟩, Nat.le_trans h.room hb.size⟩
theorem IAt.within (h : IAt w lo hi A L) (k : Within lo' hi' w w') (hd : hi ≤ lo' ∨ hi' ≤ lo) : IAt w' lo hi A L :=
  ⟨fun h0 => by obtain ⟨g, ex, e, h1, h2, h3⟩ := h.top h0; exact ⟨g, ex, e, h1, h2, k.row h3 (by omega)⟩, Nat.le_trans h.room k.size⟩
theorem IAt.wide (h : IAt w lo hi A L) (h1 : lo' ≤ lo) (h2 : hi ≤ hi') (h3 : hi' ≤ w.heap.size) : IAt w lo' hi' A L :=
  ⟨fun h0 => by obtain ⟨g, ex, e, g1, g2, g3⟩ := h.top h0; exact ⟨g, ex, e, by omega, by omega, g3⟩, h3⟩
theorem IAt.ints (h : IAt w lo hi A L) : Ints w w.heap.size A L := fun h0 => by
  obtain ⟨g, ex, rfl, h1, h2, h3⟩ := h.top h0
  exact (h3.ints.more h3.lt) h0
/-- A slice of numbers of new memory, and a code. -/
def GivesIC (L : List Int) (code : Int) (w : World) (e : Ending) (w' : World) : Prop :=
  ∃ A cap, e = .returned (.tuple #[.slice A L.length cap, .int .i64 code]) ∧ Below w.heap.size w w' ∧ IAt w' w.heap.size w'.heap.size A L
end

end Go.Proofs.YtdakbbgbglgioaaDoor
/- spec.l07Places sorts the places of the cards by their texts, and spec.OrderBy answers them: contracts. -/
namespace Go.Proofs.YtdakbbgbglgioaaDoor
open Go.ChangeShapes Go.WideShapes Go.ChangeAt Go.RowKit

/-- A slice of numbers of new memory. -/
def GivesI (L : List Int) (w : World) (e : Ending) (w' : World) : Prop :=
  ∃ A cap, e = .returned (.slice A L.length cap) ∧ Below w.heap.size w w' ∧ IAt w' w.heap.size w'.heap.size A L
/-- what is left when the place is found -/
theorem place_found {cf : Int → Int → Int} {n t k : Nat} {M : List Int} (hO : Ord cf (okK n)) (ht : t < n) (hp : M.Perm (identL t)) (hs : Srt cf M) (_ : k ≤ t) (hr : ∀ s ∈ M.drop k, Bef cf t s) (hl : ∀ s, (M.take k).getLast? = some s → ¬ cf t s < 0) :
    (M.take k ++ (t : Int) :: M.drop k).Perm (identL (t + 1)) ∧ Srt cf (M.take k ++ (t : Int) :: M.drop k) := by
  have ho : ∀ x ∈ M, okK n x := fun x hx => by
    have := identL_mem.1 (hp.subset hx)
    exact ⟨this.1, by have := this.2; omega⟩
  refine ⟨?_, ins_done hO (fun x hx => ho x (List.mem_of_mem_take hx)) ⟨Int.natCast_nonneg _, by omega⟩ (by rw [List.take_append_drop]; exact hs) (fun s h => ?_) hr⟩
  · rw [identL_succ]
    refine List.perm_middle.trans ?_
    rw [List.take_append_drop]
    exact (List.Perm.cons _ hp).trans (List.perm_append_comm (l₁ := [(t : Int)]) (l₂ := identL t))
  · have hm : s ∈ M := List.mem_of_mem_take (List.mem_of_getLast? h)
    have := identL_mem.1 (hp.subset hm)
    exact (bef_iff' hO ⟨Int.natCast_nonneg _, by omega⟩ (ho s hm) this.2).1 (hl s h)

set_option maxRecDepth 100000 in
set_option maxHeartbeats 4000000 in
theorem l07Places_any (A : Option Addr) (c : Nat) (D : List CardV) (i j : Nat) (w : World) (hr : 0 < D.length → ∃ g, A = some ⟨g, 0, none⟩ ∧ g < w.heap.size ∧ KeyRow w g D i j) (hv : deckB (holes D) = true) (hkb : keysB (holes D) i j = true) (hj : j ≤ widthH (holes D)) :
    Calls Tryd.prog 33 #[.slice A D.length c] w (GivesI (orderV (holes D) i j) w) := by
  obtain ⟨i0, hi0, hz0, hz1, hz2⟩ := info_parts info_int64
  have hn40 : D.length ≤ 40 := by
    have := deck_len hv
    simpa [holes] using this
  obtain ⟨n, hN⟩ : ∃ n, D.length = n := ⟨_, rfl⟩
  have hcmp := fun kg W (hrow : KeyRow W kg D i j) p q hp hq => keyCmp_any (n := n) hrow hv hkb hj hN (p := p) (q := q) hp hq
  have hHn : (holes D).length = n := by simp [holes, hN]
  have hov : ∀ M : List Int, M.Perm (identL n) → Srt (cfK (holes D) i j) M → orderV (holes D) i j = M := fun M p s => orderV_eq (by rw [hHn]; exact p) s
  have hord := ord_K (holes D) i j n
  obtain ⟨V, hV⟩ : ∃ V, orderV (holes D) i j = V := ⟨_, rfl⟩
  obtain ⟨cf, hcf⟩ : ∃ cf, cfK (holes D) i j = cf := ⟨_, rfl⟩
  simp only [hV, hcf] at hov hord hcmp
  rw [hV]
  rw [hN] at hn40 hr ⊢
  have HR := Lib.hid hr
  have HC := Lib.hid hcmp
  have HOV := Lib.hid hov
  have HORD := Lib.hid hord
  have HE := Lib.hid (empty_owned w)
  clear hr hN hv hkb hj hcmp hHn hov hord hV hcf
  go_enter Tryd.func33, Tryd.ntmps33
  go_wp2
  go_loopw [3, 4] (fun vo vi wr => ∃ t g cap : Nat, ∃ M : List Int, vi = .int .i64 t ∧ vo = .slice (some ⟨g, 0, none⟩) t cap ∧ t ≤ n ∧ Hid (M.length = t) ∧ Hid (M.Perm (identL t)) ∧ Hid (Srt cf M) ∧ Hid (wr.ownsRow w.heap.size 2 1 (.slice (some ⟨g, 0, none⟩) t cap) t (M.map (Value.int .i64))) ∧ Hid (Below w.heap.size w wr)) (fun _ vi _ => n - (intOf vi).toNat)
  case atStart => exact ⟨0, w.heap.size, 0, [], rfl, rfl, Nat.zero_le _, rfl, List.Perm.refl _, List.Pairwise.nil, HE, below_box w _⟩
  case round =>
    obtain ⟨t, g, cap, M, rfl, rfl, htn, HL, HP, HS, HO, HB⟩ := hrel
    by_cases hlt : t < n
    · obtain ⟨kg, rfl, hkg, hrow⟩ := HR.out (by omega)
      have HROW := Lib.hid hrow
      have t0 : (0 : Int) ≤ (t : Int) := Int.natCast_nonneg _
      have t1 : (t : Int) < (n : Int) := by omega
      clear hrow
      rename World => wo
      go_wp2_with fail
      go_loopw [5] (fun vk wr => ∃ k : Nat, vk = .int .i64 k ∧ k ≤ t ∧ Hid (∀ s ∈ M.drop k, Bef cf t s) ∧ Hid (wr.ownsRow w.heap.size 2 1 (.slice (some ⟨g, 0, none⟩) t cap) t (M.map (Value.int .i64))) ∧ Hid (Below w.heap.size w wr)) (fun vk _ => (intOf vk).toNat)
      case atStart => exact ⟨t, rfl, Nat.le_refl _, (fun s hs => by rw [List.drop_of_length_le (by rw [HL.out]; exact Nat.le_refl _)] at hs; cases hs), HO, HB⟩
      case round =>
        obtain ⟨k, rfl, hkt, HBE, HO2, HB2⟩ := hrel
        obtain ⟨og, oc, om, ex, hrr⟩ := own_rowS HO2.out
        have FND := Lib.hid (fun hl => place_found HORD.out hlt HP.out HS.out hkt HBE.out hl)
        by_cases hk0 : 0 < k
        · obtain ⟨k', rfl⟩ : ∃ k', k = k' + 1 := ⟨k - 1, by omega⟩
          obtain ⟨s, hs⟩ : ∃ s, M[k']? = some s := ⟨M[k']'(by rw [HL.out]; omega), List.getElem?_eq_getElem _⟩
          have hsm := identL_mem.1 (HP.out.subset (List.mem_of_getElem? hs))
          obtain ⟨q, rfl⟩ : ∃ q : Nat, s = q := ⟨s.toNat, by have := hsm.1; omega⟩
          have hq : q < t := by have := hsm.2; omega
          obtain ⟨S1, S2, e1, e2, hcc⟩ := HC.out kg w HROW.out t q hlt (by omega)
          have c0 : wr.cell? ⟨g, k', none⟩ = some (.int .i64 (q : Int)) := by
            have := hrr.cell (i := k') (by rw [HL.out]; omega)
            rw [hs] at this
            exact this
          have c1 := cell_kept e1 HB2.out
          have c2 := cell_kept e2 HB2.out
          obtain ⟨v, hvv⟩ : ∃ v, cf (t : Int) (q : Int) = v := ⟨_, rfl⟩
          simp only [hvv] at hcc
          have HCC : Hid (∀ m, Calls Tryd.prog 49 #[.string S1, .string S2] (wr.drewN m) fun e w' => e = .returned (.int .i64 v) ∧ w' = wr.drewN m) := fun m => hcc _
          have HVV := Lib.hid hvv
          have HSM := Lib.hid hs
          have j1 : (k' : Int) + 1 > 0 := by omega
          have j2 : ((k' + 1 : Nat) : Int) = (k' : Int) + 1 := by omega
          have j3 : (0 : Int) ≤ (k' : Int) := Int.natCast_nonneg _
          have j4 : (k' : Int) < (t : Int) := by omega
          have j5 : (0 : Int) ≤ (q : Int) := Int.natCast_nonneg _
          have j6 : (q : Int) < (n : Int) := by omega
          have jd : decide ((k' : Int) + 1 > 0) = true := decide_eq_true j1
          have jw : IntKind.i64.wrap (k' : Int) = (k' : Int) := IntWalk.i64_in _ (by omega)
          clear hcc hvv hs hsm e1 e2
          by_cases hv0 : v < 0
          · rw [j2]
            clear hrr om oc FND
            go_wp2_with fail
            go_quiet ((go_at_call 49; exact Calls.quiet_of_same (HCC.out _)))
            go_wp2
            go_roundw
            case rel =>
              refine ⟨k', by go_num, by omega, fun s' hs' => ?_, HO2.out, below_drewN HB2.out _⟩
              obtain ⟨hk1, he1⟩ := List.getElem?_eq_some_iff.1 HSM.out
              rw [List.drop_eq_getElem_cons hk1, he1] at hs'
              rcases List.mem_cons.1 hs' with rfl | hs'
              · exact (bef_iff (by omega)).1 (by rw [HVV.out]; exact hv0)
              · exact HBE.out s' hs'
            case measure => simp [intOf]
          · have hvn : ¬ v < 0 := hv0
            clear hv0
            rw [j2]
            have hl0 : ∀ s, (M.take (k' + 1)).getLast? = some s → ¬ cf t s < 0 := fun s' hs' => by
              have e' : M.take (k' + 1) = M.take k' ++ [(q : Int)] := by rw [List.take_add_one, HSM.out]; rfl
              rw [e'] at hs'
              have e2 : (q : Int) = s' := by simpa using hs'
              rw [← e2, HVV.out]
              exact hvn
            obtain ⟨fp, fs⟩ := FND.out hl0
            obtain ⟨M2, hM2⟩ : ∃ M2, M.take (k' + 1) ++ (t : Int) :: M.drop (k' + 1) = M2 := ⟨_, rfl⟩
            rw [hM2] at fp fs
            have FP := Lib.hid fp
            have FS := Lib.hid fs
            have hml : M2.length = t + 1 := by rw [fp.length_eq, identL_length]
            have HML := Lib.hid hml
            have HM2 : Hid (((M.take (k' + 1)).map (Value.int .i64) ++ [Value.int .i64 (t : Int)]) ++ (M.drop (k' + 1)).map (Value.int .i64) = M2.map (Value.int .i64)) := by show _ = _; rw [← hM2]; simp
            have ltk : (M.take (k' + 1)).length = (k' + 1) := by rw [List.length_take, HL.out]; omega
            have ldk : (M.drop (k' + 1)).length = t - (k' + 1) := by rw [List.length_drop, HL.out]
            obtain ⟨Q1, hQ1⟩ : ∃ Q1, M.take (k' + 1) = Q1 := ⟨_, rfl⟩
            obtain ⟨Q2, hQ2⟩ : ∃ Q2, M.drop (k' + 1) = Q2 := ⟨_, rfl⟩
            have hq1 : ∀ i : Nat, i < (k' + 1) → Q1[i]?.getD 0 = M[i]?.getD 0 := fun i hi => by rw [← hQ1, List.getElem?_take_of_lt hi]
            have hq2 : ∀ i : Nat, Q2[i]?.getD 0 = M[(k' + 1) + i]?.getD 0 := fun i => by rw [← hQ2, List.getElem?_drop]
            rw [hQ1] at ltk
            rw [hQ2] at ldk
            rw [hQ1, hQ2] at HM2
            have HQ1 := Lib.hid hq1
            have HQ2 := Lib.hid hq2
            have LTK := Lib.hid ltk
            have LDK := Lib.hid ldk
            have HOWN : Hid (∀ W, Row W g M ex → Calls Tryd.prog 51 #[.slice (some ⟨g, 0, none⟩) (k' + 1) cap] W fun e w' => ∃ v, e = .returned v ∧ v ≠ .slice none 0 0 ∧ w'.ownsRow W.heap.size 2 1 v (k' + 1) (Q1.map (Value.int .i64)) ∧ Below W.heap.size W w') := fun W hW => by
              have := ownInts_any g 0 cap Q1 W hW.lt (fun i hi => by rw [Nat.zero_add, HQ1.out i (by rw [← LTK.out]; exact hi)]; exact hW.cell (by rw [HL.out]; rw [LTK.out] at hi; omega)) (by rw [LTK.out]; omega)
              rw [LTK.out] at this
              exact this
            have f0 : (0 : Int) ≤ (k' : Int) + 1 := by omega
            have f1 : (k' : Int) + 1 ≤ (cap : Int) := by omega
            have f2 : (k' : Int) + 1 ≤ (t : Int) := by omega
            have f4 : ((k' : Int) + 1).toNat = k' + 1 := by omega
            have f3 : (t : Int) ≤ (cap : Int) := by omega
            have hs0 : ∀ W : World, (Instr.slice 34 (.slice (some ⟨g, 0, none⟩) t cap) none (some (.int .i64 ((k' : Int) + 1))) none).run Tryd.prog W = .ok (.slice (some ⟨g, 0, none⟩) (k' + 1) cap) W := fun W => by go_simp
            obtain ⟨m7, hm7⟩ : ∃ m7, t - (k' + 1) = m7 := ⟨_, rfl⟩
            obtain ⟨c7, hc7⟩ : ∃ c7, cap - (k' + 1) = c7 := ⟨_, rfl⟩
            have HM7 := Lib.hid hm7
            obtain ⟨ad, had⟩ : ∃ ad : Addr, (if cap = (k' + 1) then ⟨g, 0, none⟩ else ⟨g, (k' + 1), none⟩) = ad := ⟨_, rfl⟩
            have hs1 : ∀ W : World, (Instr.slice 34 (.slice (some ⟨g, 0, none⟩) t cap) (some (.int .i64 ((k' : Int) + 1))) none none).run Tryd.prog W = .ok (.slice (some ad) m7 c7) W := fun W => by
              rw [← had, ← hm7, ← hc7]
              by_cases hcap : cap = (k' + 1)
              · rw [if_pos hcap]
                go_simp
              · rw [if_neg hcap]
                go_simp
            have HNW : Hid (∀ W, Row W g M ex → ∀ j u, (Q2.map (Value.int .i64))[j]? = some u → W.cell? (ad.add j) = some u) := fun W hW => by
              rw [← had]
              by_cases hcap : cap = (k' + 1)
              · have : Q2 = [] := List.eq_nil_of_length_eq_zero (by rw [LDK.out]; omega)
                rw [this]
                intro j u hu
                simp at hu
              · rw [if_neg hcap]
                refine news_of fun i hi => ?_
                rw [HQ2.out i]
                exact hW.cell (by rw [HL.out]; rw [LDK.out] at hi; omega)
            have HRR := Lib.hid hrr
            have hgs : g < wr.heap.size := hrr.lt
            clear fp fs hM2 hml hQ1 hQ2 hq1 hq2 ltk ldk had hm7 hc7 hl0 hrr om oc
            go_wp2_with fail
            go_quiet ((go_at_call 49; exact Calls.quiet_of_same (HCC.out _)))
            have HB3 := Lib.hid (show Below w.heap.size w (wr.drewN nq) from below_drewN HB2.out _)
            have hr3 : Row (wr.drewN nq) g M ex := HRR.out
            have hg3 : g < (wr.drewN nq).heap.size := hgs
            generalize wr.drewN nq = w3 at HB3 hr3 hg3 ⊢
            have HR3 := Lib.hid hr3
            have HOC := Lib.hid (HOWN.out w3 hr3)
            clear hr3
            go_wp2_with fail
            refine HOC.out.mono ?_
            rintro e w4 ⟨v4, rfl, hv4, ho4, hb4⟩
            obtain ⟨g4, cap4, rfl⟩ := own_shape ho4 hv4
            have HO4 := Lib.hid ho4
            have HB4 := Lib.hid (below_step HB3.out hb4)
            have HR4 := Lib.hid (HR3.out.later hb4)
            have h34 : w3.heap.size ≤ w4.heap.size := hb4.size
            have hw4 : w.heap.size ≤ w4.heap.size := HB4.out.size
            have hw3 : w.heap.size ≤ w3.heap.size := HB3.out.size
            clear ho4 hb4 hv4
            go_wp2_with (at_builtin; first | (refine wpList_append_own _ rfl _ _ 34 rfl w3.heap.size 2 i0 (.int .i64 0) 1 8 Tryd.underlying34 hi0 hz0 hz1 hz2 rfl (by decide) _ (k' + 1) (Q1.map (Value.int .i64)) rfl (HO4.out.alloc _) ⟨w4.heap.size, 0, none⟩ 1 1 [.int .i64 (t : Int)] rfl rfl (one_news w4 _) (one_cell _) ?c3 ?c4 ?c5 ?_; rotate_left 3; intro v5 w5 hown hgrow hiff; obtain ⟨m5, hm5⟩ : ∃ m5, (k' + 1) + 1 = m5 := ⟨_, rfl⟩; rw [hm5] at hown; have HM5 := Lib.hid hm5; clear hm5; have HO5 := Lib.hid hown; have HB5 := Lib.hid (below_append HB4.out hgrow HO4.out hw4 hw3); have HR5 : Hid (Row w5 g M ex) := (append_block hgrow HO4.out (by omega) hg3).trans HR4.out; have hv5 : v5 ≠ .slice none 0 0 := (fun e => by have := (hiff.1 e).1; cases this); obtain ⟨g5, cap5, rfl⟩ := own_shape hown hv5; have hw5 : w.heap.size ≤ w5.heap.size := HB5.out.size; have h45 : w4.heap.size ≤ w5.heap.size := append_size hgrow; clear hown hgrow hiff hv5) | (refine wpList_append_own _ rfl _ _ 34 rfl w3.heap.size 2 i0 (.int .i64 0) 1 8 Tryd.underlying34 hi0 hz0 hz1 hz2 rfl (by decide) _ m5 (Q1.map (Value.int .i64) ++ [Value.int .i64 (t : Int)]) rfl HO5.out ad m7 c7 (Q2.map (Value.int .i64)) rfl (by rw [List.length_map, LDK.out, HM7.out, Nat.mul_one]) (HNW.out w5 HR5.out) (maps_one Q2) ?d3 ?d4 ?d5 ?_; rotate_left 3; intro v6 w6 hown hgrow hiff; have hv6 : v6 ≠ .slice none 0 0 := (fun e => by have := (hiff.1 e).1; cases this); rw [HM2.out, show m5 + m7 = t + 1 by have h1 := HM5.out; have h2 := HM7.out; omega] at hown; obtain ⟨g6, cap6, rfl⟩ := own_shape hown hv6; have HO6 := Lib.hid (own_lower hown hw3); have HB6 : Hid (Below w.heap.size w w6) := HB5.out.grown hgrow hw5 (fun x hx => Nat.le_trans hw3 (HO5.out.lt x hx).1); clear hown hgrow hiff hv6))
            case c3 => unfold maxLen; omega
            case c4 => omega
            case c5 => simp; omega
            case d3 => have h1 := HM5.out; have h2 := HM7.out; unfold maxLen; omega
            case d4 => have h1 := HM5.out; have h2 := HM7.out; omega
            case d5 => omega
            go_roundw
            case rel => exact ⟨t + 1, g6, cap6, M2, by go_num, rfl, by omega, HML, FP, FS, HO6, HB6⟩
            case measure => simp [intOf]; omega
        · obtain rfl : k = 0 := by omega
          clear hk0
          have jz : ((0 : Nat) : Int) = 0 := rfl
          have jd : decide ((0 : Int) > 0) = false := by decide
          rw [jz]
          have hl0 : ∀ s, (M.take 0).getLast? = some s → ¬ cf t s < 0 := fun s' hs' => by simp at hs'
          obtain ⟨fp, fs⟩ := FND.out hl0
          obtain ⟨M2, hM2⟩ : ∃ M2, M.take 0 ++ (t : Int) :: M.drop 0 = M2 := ⟨_, rfl⟩
          rw [hM2] at fp fs
          have FP := Lib.hid fp
          have FS := Lib.hid fs
          have hml : M2.length = t + 1 := by rw [fp.length_eq, identL_length]
          have HML := Lib.hid hml
          have HM2 : Hid (((M.take 0).map (Value.int .i64) ++ [Value.int .i64 (t : Int)]) ++ (M.drop 0).map (Value.int .i64) = M2.map (Value.int .i64)) := by show _ = _; rw [← hM2]; simp
          have ltk : (M.take 0).length = 0 := by rw [List.length_take, HL.out]; omega
          have ldk : (M.drop 0).length = t - 0 := by rw [List.length_drop, HL.out]
          obtain ⟨Q1, hQ1⟩ : ∃ Q1, M.take 0 = Q1 := ⟨_, rfl⟩
          obtain ⟨Q2, hQ2⟩ : ∃ Q2, M.drop 0 = Q2 := ⟨_, rfl⟩
          have hq1 : ∀ i : Nat, i < 0 → Q1[i]?.getD 0 = M[i]?.getD 0 := fun i hi => by rw [← hQ1, List.getElem?_take_of_lt hi]
          have hq2 : ∀ i : Nat, Q2[i]?.getD 0 = M[0 + i]?.getD 0 := fun i => by rw [← hQ2, List.getElem?_drop]
          rw [hQ1] at ltk
          rw [hQ2] at ldk
          rw [hQ1, hQ2] at HM2
          have HQ1 := Lib.hid hq1
          have HQ2 := Lib.hid hq2
          have LTK := Lib.hid ltk
          have LDK := Lib.hid ldk
          have HOWN : Hid (∀ W, Row W g M ex → Calls Tryd.prog 51 #[.slice (some ⟨g, 0, none⟩) 0 cap] W fun e w' => ∃ v, e = .returned v ∧ v ≠ .slice none 0 0 ∧ w'.ownsRow W.heap.size 2 1 v 0 (Q1.map (Value.int .i64)) ∧ Below W.heap.size W w') := fun W hW => by
            have := ownInts_any g 0 cap Q1 W hW.lt (fun i hi => by rw [Nat.zero_add, HQ1.out i (by rw [← LTK.out]; exact hi)]; exact hW.cell (by rw [HL.out]; rw [LTK.out] at hi; omega)) (by rw [LTK.out]; omega)
            rw [LTK.out] at this
            exact this
          have f1 : (0 : Int) ≤ (cap : Int) := by omega
          have f3 : (t : Int) ≤ (cap : Int) := by omega
          have hs0 : ∀ W : World, (Instr.slice 34 (.slice (some ⟨g, 0, none⟩) t cap) none (some (.int .i64 (0 : Int))) none).run Tryd.prog W = .ok (.slice (some ⟨g, 0, none⟩) 0 cap) W := fun W => by go_simp
          obtain ⟨m7, hm7⟩ : ∃ m7, t - 0 = m7 := ⟨_, rfl⟩
          obtain ⟨c7, hc7⟩ : ∃ c7, cap - 0 = c7 := ⟨_, rfl⟩
          have HM7 := Lib.hid hm7
          obtain ⟨ad, had⟩ : ∃ ad : Addr, (if cap = 0 then ⟨g, 0, none⟩ else ⟨g, 0, none⟩) = ad := ⟨_, rfl⟩
          have hs1 : ∀ W : World, (Instr.slice 34 (.slice (some ⟨g, 0, none⟩) t cap) (some (.int .i64 (0 : Int))) none none).run Tryd.prog W = .ok (.slice (some ad) m7 c7) W := fun W => by
            rw [← had, ← hm7, ← hc7]
            by_cases hcap : cap = 0
            · rw [if_pos hcap]
              go_simp
            · rw [if_neg hcap]
              go_simp
          have HNW : Hid (∀ W, Row W g M ex → ∀ j u, (Q2.map (Value.int .i64))[j]? = some u → W.cell? (ad.add j) = some u) := fun W hW => by
            rw [← had]
            by_cases hcap : cap = 0
            · have : Q2 = [] := List.eq_nil_of_length_eq_zero (by rw [LDK.out]; omega)
              rw [this]
              intro j u hu
              simp at hu
            · rw [if_neg hcap]
              refine news_of fun i hi => ?_
              rw [HQ2.out i]
              exact hW.cell (by rw [HL.out]; rw [LDK.out] at hi; omega)
          have HRR := Lib.hid hrr
          have hgs : g < wr.heap.size := hrr.lt
          clear fp fs hM2 hml hQ1 hQ2 hq1 hq2 ltk ldk had hm7 hc7 hl0 hrr om oc
          go_wp2_with fail
          go_quiet (fail)
          have HB3 := Lib.hid (show Below w.heap.size w (wr.drewN nq) from below_drewN HB2.out _)
          have hr3 : Row (wr.drewN nq) g M ex := HRR.out
          have hg3 : g < (wr.drewN nq).heap.size := hgs
          generalize wr.drewN nq = w3 at HB3 hr3 hg3 ⊢
          have HR3 := Lib.hid hr3
          have HOC := Lib.hid (HOWN.out w3 hr3)
          clear hr3
          go_wp2_with fail
          refine HOC.out.mono ?_
          rintro e w4 ⟨v4, rfl, hv4, ho4, hb4⟩
          obtain ⟨g4, cap4, rfl⟩ := own_shape ho4 hv4
          have HO4 := Lib.hid ho4
          have HB4 := Lib.hid (below_step HB3.out hb4)
          have HR4 := Lib.hid (HR3.out.later hb4)
          have h34 : w3.heap.size ≤ w4.heap.size := hb4.size
          have hw4 : w.heap.size ≤ w4.heap.size := HB4.out.size
          have hw3 : w.heap.size ≤ w3.heap.size := HB3.out.size
          clear ho4 hb4 hv4
          go_wp2_with (at_builtin; first | (refine wpList_append_own _ rfl _ _ 34 rfl w3.heap.size 2 i0 (.int .i64 0) 1 8 Tryd.underlying34 hi0 hz0 hz1 hz2 rfl (by decide) _ 0 (Q1.map (Value.int .i64)) rfl (HO4.out.alloc _) ⟨w4.heap.size, 0, none⟩ 1 1 [.int .i64 (t : Int)] rfl rfl (one_news w4 _) (one_cell _) ?c3 ?c4 ?c5 ?_; rotate_left 3; intro v5 w5 hown hgrow hiff; obtain ⟨m5, hm5⟩ : ∃ m5, 0 + 1 = m5 := ⟨_, rfl⟩; rw [hm5] at hown; have HM5 := Lib.hid hm5; clear hm5; have HO5 := Lib.hid hown; have HB5 := Lib.hid (below_append HB4.out hgrow HO4.out hw4 hw3); have HR5 : Hid (Row w5 g M ex) := (append_block hgrow HO4.out (by omega) hg3).trans HR4.out; have hv5 : v5 ≠ .slice none 0 0 := (fun e => by have := (hiff.1 e).1; cases this); obtain ⟨g5, cap5, rfl⟩ := own_shape hown hv5; have hw5 : w.heap.size ≤ w5.heap.size := HB5.out.size; have h45 : w4.heap.size ≤ w5.heap.size := append_size hgrow; clear hown hgrow hiff hv5) | (refine wpList_append_own _ rfl _ _ 34 rfl w3.heap.size 2 i0 (.int .i64 0) 1 8 Tryd.underlying34 hi0 hz0 hz1 hz2 rfl (by decide) _ m5 (Q1.map (Value.int .i64) ++ [Value.int .i64 (t : Int)]) rfl HO5.out ad m7 c7 (Q2.map (Value.int .i64)) rfl (by rw [List.length_map, LDK.out, HM7.out, Nat.mul_one]) (HNW.out w5 HR5.out) (maps_one Q2) ?d3 ?d4 ?d5 ?_; rotate_left 3; intro v6 w6 hown hgrow hiff; have hv6 : v6 ≠ .slice none 0 0 := (fun e => by have := (hiff.1 e).1; cases this); rw [HM2.out, show m5 + m7 = t + 1 by have h1 := HM5.out; have h2 := HM7.out; omega] at hown; obtain ⟨g6, cap6, rfl⟩ := own_shape hown hv6; have HO6 := Lib.hid (own_lower hown hw3); have HB6 : Hid (Below w.heap.size w w6) := HB5.out.grown hgrow hw5 (fun x hx => Nat.le_trans hw3 (HO5.out.lt x hx).1); clear hown hgrow hiff hv6))
          case c3 => unfold maxLen; omega
          case c4 => omega
          case c5 => simp; omega
          case d3 => have h1 := HM5.out; have h2 := HM7.out; unfold maxLen; omega
          case d4 => have h1 := HM5.out; have h2 := HM7.out; omega
          case d5 => omega
          go_roundw
          case rel => exact ⟨t + 1, g6, cap6, M2, by go_num, rfl, by omega, HML, FP, FS, HO6, HB6⟩
          case measure => simp [intOf]; omega
    · obtain rfl : t = n := by omega
      have t1 : ¬ (t : Int) < (t : Int) := by omega
      obtain ⟨og, oc, om, ex, hrr⟩ := own_rowS HO.out
      obtain rfl : V = M := HOV.out M HP.out HS.out
      have HRR := Lib.hid hrr
      clear hrr
      go_wp2
      go_ret
      exact ⟨some ⟨g, 0, none⟩, cap, by rw [HL.out]; rfl, HB.out, fun _ => ⟨g, ex, rfl, og, HRR.out.lt, HRR.out⟩, Nat.le_refl _⟩

section
variable (A : Option Addr) (c : Nat) (D : List CardV) (B : Nat) (a b : Int) (w : World) (h : Deck w B A D) (hB : B ≤ w.heap.size) (hn : D.length ≤ 1048576) (hl : ∀ d ∈ D, d.xs.length ≤ 1048576)
end
end Go.Proofs.YtdakbbgbglgioaaDoor
/- spec.SortedBy: the cards have no less room than columns: a contract. -/
namespace Go.Proofs.YtdakbbgbglgioaaDoor
open Go.ChangeShapes Go.WideShapes Go.ChangeAt Go.RowKit

theorem order_atC {D : List CardV} {i j k n : Nat} (hN : D.length = n) (hv : deckB (holes D) = true) (hj : j ≤ widthH (holes D)) (hij : i < j) (hk : k < n) : ∃ (q : Nat) (d : CardV), (orderV (holes D) i j)[k]?.getD 0 = (q : Int) ∧ q < n ∧ D[q]? = some d ∧ (sortV (holes D) i j)[k]? = some d.xs ∧ 0 < d.xs.length ∧ d.xs.length ≤ 20 := by
  have hHn : (holes D).length = n := by simp [holes, hN]
  have hl := orderV_length (holes D) i j
  rw [hHn] at hl
  have hx : (orderV (holes D) i j)[k]? = some ((orderV (holes D) i j)[k]'(by omega)) := List.getElem?_eq_getElem _
  have hm := identL_mem.1 ((orderV_is (holes D) i j).1.subset (List.mem_of_getElem? hx))
  rw [hHn] at hm
  obtain ⟨x, ex⟩ : ∃ x, (orderV (holes D) i j)[k]'(by omega) = x := ⟨_, rfl⟩
  rw [ex] at hx hm
  obtain ⟨q, rfl⟩ : ∃ q : Nat, x = q := ⟨x.toNat, by have := hm.1; omega⟩
  have hq : q < n := by have := hm.2; omega
  have hd : D[q]? = some (D[q]'(by omega)) := List.getElem?_eq_getElem _
  have hh := holes_at hd
  obtain ⟨y1, y2⟩ := deck_width hv hh
  refine ⟨q, _, by rw [hx]; rfl, hq, hd, ?_, by rw [y2]; omega, (okB_parts y1).2⟩
  rw [sortV, List.getElem?_map, hx, Option.map_some, Int.toNat_natCast, hh]
  rfl

/-- A list of cards of new memory, with no less room than columns, and a code; its memory is there where the code is 0. -/
def GivesDCG (H : List (List Int)) (code : Int) (w : World) (e : Ending) (w' : World) : Prop :=
  ∃ A cap E, e = .returned (.tuple #[.slice A H.length cap, .int .i64 code]) ∧ holes E = H ∧ Below w.heap.size w w' ∧ DeckAt w' w.heap.size w'.heap.size A E ∧ CapsOk E ∧ (code = 0 → ∃ g, A = some ⟨g, 0, none⟩)

section
variable (A : Option Addr) (c : Nat) (D : List CardV) (B : Nat) (a b : Int) (w : World) (h : Deck w B A D) (hB : B ≤ w.heap.size) (hn : D.length ≤ 1048576) (hl : ∀ d ∈ D, d.xs.length ≤ 1048576)
include h hB hn hl
set_option maxRecDepth 100000 in
set_option maxHeartbeats 2000000 in
theorem specSortedC_any (hcap : CapsOk D) :
    Calls Tryd.prog 9 #[.slice A D.length c, .agg #[.int .i64 a, .int .i64 b]] w (GivesDCG (sortA (holes D) a b) (keysC (holes D) a b) w) := by
  obtain ⟨i0, hi0, hz0, hz1, hz2⟩ := info_parts info_card
  have b0 := below_box w (.cells #[.int .i64 a, .int .i64 b] 26)
  have hk := l07Keys_any A c D B a b (w.alloc (.cells #[.int .i64 a, .int .i64 b] 26)) (h.below (b0.mono hB)) (by simp; omega) hn hl hcap
  have BW := Lib.hid b0
  obtain ⟨n, hN⟩ : ∃ n, D.length = n := ⟨_, rfl⟩
  rw [sortA]
  by_cases e : keysC (holes D) a b = 0
  · obtain ⟨i, j, rfl, rfl, hij, hj, hv, hkb⟩ := keysC_zero e
    have hs := fun A c W hr => l07Places_any A c D i j W hr hv hkb hj
    have hHn : (holes D).length = n := by simp [holes, hN]
    have hn40 : n ≤ 40 := by
      have := deck_len hv
      omega
    rw [e] at hk ⊢
    rw [if_pos rfl]
    rw [Int.toNat_natCast, Int.toNat_natCast] at hk ⊢
    have hat := fun k hk => order_atC (k := k) hN hv hj hij hk
    have hvl := orderV_length (holes D) i j
    have hsl := sortV_length (holes D) i j
    rw [hHn] at hvl hsl
    obtain ⟨V, hV⟩ : ∃ V, orderV (holes D) i j = V := ⟨_, rfl⟩
    obtain ⟨S, hS⟩ : ∃ S, sortV (holes D) i j = S := ⟨_, rfl⟩
    simp only [hV, hS] at hat
    simp only [hV, hN] at hs
    rw [hV] at hvl
    rw [hS] at hsl ⊢
    unfold GivesI at hs
    rw [hvl] at hs
    rw [hN] at hk hn ⊢
    unfold GivesKeys at hk
    simp only [hN] at hk
    have HA := Lib.hid hat
    have HVL := Lib.hid hvl
    have HSL := Lib.hid hsl
    have HK := Lib.hid hk
    have HPL := Lib.hid hs
    have H := Lib.hid h
    have HN := Lib.hid hN
    clear hat hvl hsl hk hs h hl hcap b0 e hv hkb hj hij hHn hN hV hS
    go_enter Tryd.func9, Tryd.ntmps9
    go_wp2_with fail
    refine HK.out.mono ?_
    rintro e w1 (⟨h0, _⟩ | ⟨_, A', cap, rfl, hb, hrow⟩)
    · exact absurd rfl h0
    have B1 := Lib.hid (below_step BW.out hb)
    have HRW := Lib.hid hrow
    clear hb hrow HK
    go_wp2_with fail
    refine (HPL.out _ _ _ HRW.out).mono ?_
    rintro e w2 ⟨A2, c2, rfl, hb, hi⟩
    have B2 := Lib.hid (below_step B1.out hb)
    have HI := Lib.hid hi
    have HE0 := Lib.hid (empty_cards w2)
    clear hb hi
    go_wp2
    go_loopw [9, 10] (fun vo x wr => ∃ t cap : Nat, ∃ g : Nat, ∃ E : List CardV, t ≤ n ∧ x = .int .i64 t ∧ vo = .slice (some ⟨g, 0, none⟩) t cap ∧ Hid (E.length = t) ∧ Hid (holes E = S.take t) ∧ Hid (Below w2.heap.size w2 wr) ∧ Hid (wr.ownsRow w2.heap.size 36 1 (.slice (some ⟨g, 0, none⟩) t cap) t (E.map CardV.value)) ∧ Hid (NewRows wr w2.heap.size E) ∧ Hid (CapsOk E)) (fun _ x _ => n - (intOf x).toNat)
    case atStart => exact ⟨0, 0, w2.heap.size, [], Nat.zero_le _, rfl, rfl, rfl, by show _ = _; simp [holes], below_box w2 _, HE0, NewRows.nil, fun d hd => by cases hd⟩
    case round =>
      obtain ⟨t, cap, g, E, ht, rfl, rfl, HE, HS, HB, HO, HR, HCP⟩ := hrel
      by_cases hlt : t < n
      · obtain ⟨q, d, hq1, hqn, hd, hst, h0, h20⟩ := HA.out t hlt
        obtain ⟨g1, ex1, rfl, _, _, hr1⟩ := HI.out.top (by rw [HVL.out]; omega)
        have o1 := cell_kept (hr1.cell (i := t) (by rw [HVL.out]; exact hlt)) HB.out
        rw [hq1] at o1
        have BD := below_step B2.out HB.out
        obtain ⟨b, off, rfl, hb, hcell⟩ := (H.out.below (BD.mono hB)) (by rw [HN.out]; omega)
        obtain ⟨hc, hi⟩ := hcell q d hd
        unfold CardV.value at hc
        have HT := Lib.hid (l02OwnD_any d.at_ d.cap d.xs B b (off + q) wr hc hi (Nat.le_trans hB BD.size) h0 (by omega))
        have HH1 : Hid (∀ e : CardV, e.xs = d.xs → holes (E ++ [e]) = S.take (t + 1)) := fun e he => by
          rw [List.take_add_one, hst, ← HS.out]
          simp [holes, he]
        have q0 : (0 : Int) ≤ (q : Int) := Int.natCast_nonneg _
        have q1 : (q : Int) < (n : Int) := by omega
        have t0 : (0 : Int) ≤ (t : Int) := Int.natCast_nonneg _
        have t1 : (t : Int) < (n : Int) := by omega
        clear hcell hd hst hi hr1 BD hq1 h0 h20 hc
        go_wp2_with fail
        refine HT.out.mono ?_
        rintro e w3 ⟨ge, cp, ex, rfl, hp1, hp2, hge, hb3, hrow⟩
        have HC3 : Hid (CapsOk (E ++ [(⟨some ⟨ge, 0, none⟩, cp, d.xs⟩ : CardV)])) := fun x hx => by
          rcases List.mem_append.1 hx with hx | hx
          · exact HCP.out x hx
          · obtain rfl : x = ⟨some ⟨ge, 0, none⟩, cp, d.xs⟩ := by simpa using hx
            unfold maxLen at hp2
            exact ⟨hp1, hp2⟩
        have HB3 := Lib.hid (below_step HB.out hb3)
        have HR3 := Lib.hid (HR.out.more hb3 (e := ⟨some ⟨ge, 0, none⟩, cp, d.xs⟩) rfl hge (Nat.le_trans HB.out.size hge) hrow)
        have HO3 : Hid (w3.ownsRow w2.heap.size 36 1 (.slice (some ⟨g, 0, none⟩) t cap) t (E.map CardV.value)) := own_moved HO.out (fun i _ hi => hb3.block i hi)
        have hw3 : w2.heap.size ≤ w3.heap.size := HB3.out.size
        clear hb3 hrow hge hp1 hp2
        go_wp2_with (at_builtin; refine wpList_append_own _ rfl _ _ 24 rfl w2.heap.size 36 i0 (.agg #[.slice none 0 0]) 1 24 Tryd.underlying24 hi0 hz0 hz1 hz2 rfl (by decide) _ _ _ rfl (HO3.out.alloc _) ⟨w3.heap.size, 0, none⟩ 1 1 [CardV.value ⟨some ⟨ge, 0, none⟩, cp, d.xs⟩] rfl rfl (card_news w3 _) (card_one _) ?c3 ?c4 ?c5 ?_; rotate_left 3; intro v9 w9 hown hgrow hiff; have hv9 : v9 ≠ .slice none 0 0 := (fun e => by have := (hiff.1 e).1; cases this); obtain ⟨ho, hbb, hrr⟩ := own_card (x := ⟨some ⟨ge, 0, none⟩, cp, d.xs⟩) hown hgrow HO3.out HB3.out (Nat.le_refl _) hw3 HR3.out; obtain ⟨g9, cap9, rfl⟩ := own_shape ho hv9; have HO9 := Lib.hid ho; have HB9 := Lib.hid hbb; have HR9 := Lib.hid hrr; clear hown hgrow hiff hv9 ho hbb hrr)
        case c3 => unfold maxLen; omega
        case c4 => omega
        case c5 => simp; omega
        go_roundw
        case rel => exact ⟨t + 1, cap9, g9, E ++ [(⟨some ⟨ge, 0, none⟩, cp, d.xs⟩ : CardV)], by omega, by go_num, rfl, by show _ = _; simp [HE.out], HH1.out _ rfl, HB9, HO9, HR9, HC3⟩
        case measure => simp [intOf]; omega
      · have htn : t = n := by omega
        have t1 : ¬ (t : Int) < (n : Int) := by omega
        have hh : holes E = S := by rw [HS.out, List.take_of_length_le (by rw [HSL.out]; omega)]
        have HHH := Lib.hid hh
        obtain ⟨A9, c9, e9, hda⟩ := own_deckAt HO.out HE.out HR.out (Nat.le_refl _)
        injection e9 with e9 _ _
        subst e9
        have HDA := Lib.hid (hda.widen B2.out.size (Nat.le_refl _) (Nat.le_refl _))
        have BB := Lib.hid (below_step B2.out HB.out)
        have htn2 : Hid (t = S.length) := htn.trans HSL.out.symm
        clear hh htn hda
        go_wp2
        go_ret2
        exact ⟨_, _, E, by rw [← htn2.out]; rfl, HHH.out, BB.out, HDA.out, HCP.out, fun _ => ⟨g, rfl⟩⟩
  · rw [if_neg e]
    obtain ⟨k, hk0⟩ : ∃ k, keysC (holes D) a b = k := ⟨_, rfl⟩
    rw [hk0] at hk e ⊢
    rw [hN] at hk ⊢
    have e1 : (k != 0) = true := by simpa using e
    have HK := Lib.hid hk
    clear hk h hl hcap b0 hk0 hN hn
    go_enter Tryd.func9, Tryd.ntmps9
    go_wp2_with fail
    refine HK.out.mono ?_
    rintro e' w1 (⟨_, rfl, hb⟩ | ⟨h0, _⟩)
    · have B1 := Lib.hid (below_step BW.out hb)
      clear hb HK
      go_wp2
      go_ret2
      exact ⟨none, 0, [], rfl, rfl, B1.out, DeckAt.nil (Nat.le_refl _), (fun d hd => by cases hd), fun h0 => absurd h0 e⟩
    · exact absurd h0 e
end
end Go.Proofs.YtdakbbgbglgioaaDoor
