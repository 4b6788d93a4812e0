/- spec.l07Places sorts the places of the cards by their texts: what its comparison and its copies answer: contracts. -/
import Derived.Test.YtdakbbgbglgioaaDoorH2
import Derived.Test.YtdakbbgbglgioaaDoorH1
import Derived.Test.YtdakbbgbglgioaaDoorOwn
import Derived.Test.YtdakbbgbglgioaaDoorMarks
import Derived.Test.YtdakbbgbglgioaaDoorWithin
import Derived.Deep.QuietTactic
import Derived.BigQuiet
import Derived.Test.YtdakbbgbglgioaaDoorDrawDeck
import Derived.Test.YtdakbbgbglgioaaDoorLegal
import Derived.Test.YtdakbbgbglgioaaDoorDeckMem
namespace Go.Proofs.YtdakbbgbglgioaaDoor
open Go.ChangeShapes Go.WideShapes Go.ChangeAt Go.RowKit

theorem keyCmp_any {D : List CardV} {i j n kg : Nat} {w : World} (hrow : KeyRow w kg D i j) (hv : deckB (holes D) = true) (hkb : keysB (holes D) i j = true) (hj : j ≤ widthH (holes D)) (hN : D.length = n) {p q : Nat} (hp : p < n) (hq : q < n) :
    ∃ S1 S2, w.cell? ⟨kg, p, none⟩ = some (.string S1) ∧ w.cell? ⟨kg, q, none⟩ = some (.string S2) ∧ ∀ W, Calls Tryd.prog 49 #[.string S1, .string S2] W fun e w' => e = .returned (.int .i64 (cfK (holes D) i j p q)) ∧ w' = W := by
  obtain ⟨d, hd⟩ : ∃ d, D[p]? = some d := ⟨D[p]'(by omega), List.getElem?_eq_getElem _⟩
  obtain ⟨e, he⟩ : ∃ e, D[q]? = some e := ⟨D[q]'(by omega), List.getElem?_eq_getElem _⟩
  obtain ⟨g1, g2⟩ := deck_width hv (holes_at hd)
  obtain ⟨g3, g4⟩ := deck_width hv (holes_at he)
  have o1 := keysB_at (holes_at hd) hkb
  have o2 := keysB_at (holes_at he) hkb
  have l1 := partOf_length d.xs i j (by rw [g2]; exact hj)
  have l2 := partOf_length e.xs i j (by rw [g4]; exact hj)
  have z1 : (textS (partOf d.xs i j)).size = j - i := by rw [← l1]; exact textL_length _
  have z2 : (textS (partOf e.xs i j)).size = j - i := by rw [← l2]; exact textL_length _
  have h20 := (okB_parts g1).2
  have hck : cfK (holes D) i j p q = cmpTo (partOf d.xs i j) (partOf e.xs i j) (j - i) := by
    unfold cfK
    rw [Int.toNat_natCast, Int.toNat_natCast]
    exact cmpK_at hd he
  refine ⟨_, _, hrow p d hd, hrow q e he, fun W => ?_⟩
  rw [hck]
  exact (l03Compare_any (textS (partOf d.xs i j)) (textS (partOf e.xs i j)) (partOf d.xs i j) (partOf e.xs i j) (j - i) z1 z2 l1 l2 (fun k h => textS_get _ k h) (fun k h => textS_get _ k h) o1 o2 (by omega) W).mono fun _ _ hh => ⟨hh.1, hh.2.symm⟩

theorem own_rowS {w : World} {base n g cap : Nat} {xs : List Int} (h : w.ownsRow base 2 1 (.slice (some ⟨g, 0, none⟩) n cap) n (xs.map (Value.int .i64))) : base ≤ g ∧ n ≤ cap ∧ cap ≤ maxLen ∧ ∃ ex, Row w g xs ex := by
  rcases h.2 with ⟨h0, _⟩ | ⟨g', cap', cur, hv, hb, hh, hc, hm, _, ht⟩
  · cases h0
  · injection hv with e1 e2 e3
    injection e1 with e1
    injection e1 with e1
    subst e1
    subst e3
    refine ⟨hb, hc, hm, cur.toList.drop n, ?_⟩
    unfold Row
    rw [hh]
    congr 2
    apply Array.ext'
    rw [← List.take_append_drop n cur.toList, ← ht, Nat.mul_one]
    simp
theorem own_shape {w : World} {base n size : Nat} {et : TypeId} {v : Value} {xs : List Value} (h : w.ownsRow base et size v n xs) (hne : v ≠ .slice none 0 0) : ∃ g cap, v = .slice (some ⟨g, 0, none⟩) n cap := by
  rcases h.2 with ⟨hz, _⟩ | ⟨g, cap, cur, rfl, _⟩
  · exact absurd hz hne
  · exact ⟨g, cap, rfl⟩
theorem own_lower {w : World} {base base' n size : Nat} {et : TypeId} {v : Value} {xs : List Value} (h : w.ownsRow base et size v n xs) (hb : base' ≤ base) : w.ownsRow base' et size v n xs := by
  refine ⟨h.1, ?_⟩
  rcases h.2 with h0 | ⟨g, cap, cur, h1, h2, h3⟩
  · exact Or.inl h0
  · exact Or.inr ⟨g, cap, cur, h1, Nat.le_trans hb h2, h3⟩

/-- the copy of any part of a list, an empty one too -/
theorem ownInts_any (b off c : Nat) (xs : List Int) (w : World) (hb : b < w.heap.size) (hcell : ∀ i, i < xs.length → w.cell? ⟨b, off + i, none⟩ = some (.int .i64 (xs[i]?.getD 0))) (hn : xs.length ≤ 1048576) :
    Calls Tryd.prog 51 #[.slice (some ⟨b, off, none⟩) xs.length c] w fun e w' => ∃ v, e = .returned v ∧ v ≠ .slice none 0 0 ∧ w'.ownsRow w.heap.size 2 1 v xs.length (xs.map (Value.int .i64)) ∧ Below w.heap.size w w' := by
  obtain ⟨i0, hi0, hz0, hz1, hz2⟩ := info_parts info_int64
  have HN := Lib.hid (news_of (fun i hi => (World.cell?_alloc_lt w (.cells #[] 2) ⟨b, off + i, none⟩ hb).trans (hcell i hi)))
  have HM := Lib.hid (maps_length xs)
  have H1 := Lib.hid (maps_one xs)
  have HO := Lib.hid (empty_owned w)
  clear hcell
  go_enter Tryd.func51, Tryd.ntmps51
  go_wp2_with (at_builtin; refine wpList_append_own _ rfl (.tmp 3) (.tmp 4) 34 rfl w.heap.size 2 i0 (.int .i64 0) 1 8 Tryd.underlying34 hi0 hz0 hz1 hz2 rfl (by decide) (.slice (some ⟨w.heap.size, 0, none⟩) 0 0) 0 [] rfl HO.out ⟨b, off, none⟩ xs.length c (xs.map (Value.int .i64)) rfl HM.out HN.out H1.out ?c3 ?c4 ?c5 ?_; rotate_left 3; intro v1 w1 hown hgrow hiff; simp only [Nat.zero_add, List.nil_append] at hown; have B1 := Lib.hid (Below.grown (below_box w _) hgrow (by simp) (fun k hk => by simp [Value.ownBlock] at hk; omega)); have HW := Lib.hid hown; have HI : Hid (v1 ≠ .slice none 0 0) := (fun e => by have := (hiff.1 e).1; cases this); clear hown hgrow hiff)
  case c3 => unfold maxLen; omega
  case c4 => omega
  case c5 => simp
  go_ret
  exact ⟨v1, rfl, HI.out, HW.out, B1.out⟩
end Go.Proofs.YtdakbbgbglgioaaDoor

/- Lists of numbers in memory of their own, as the laws about answered numbers want them. -/
namespace Go.Proofs.YtdakbbgbglgioaaDoor
open Go.ChangeShapes Go.WideShapes Go.ChangeAt Go.RowKit

/-- A list of numbers whose memory is a block from lo up to hi. -/
structure IAt (w : World) (lo hi : Nat) (A : Option Addr) (L : List Int) : Prop where
  top : 0 < L.length → ∃ g ex, A = some ⟨g, 0, none⟩ ∧ lo ≤ g ∧ g < hi ∧ Row w g L ex
  room : hi ≤ w.heap.size
section
variable {w w' : World} {lo hi lo' hi' : Nat} {A : Option Addr} {L : List Int}
theorem IAt.nil (h : hi ≤ w.heap.size) : IAt w lo hi A [] := ⟨fun h => absurd h (by simp), h⟩
theorem IAt.later (h : IAt w lo hi A L) (hb : Below w.heap.size w w') : IAt w' lo hi A L :=
  ⟨fun h0 => by obtain ⟨g, ex, e, h1, h2, h3⟩ := h.top h0; exact ⟨g, ex, e, h1, h2, h3.later hb⟩, Nat.le_trans h.room hb.size⟩
theorem IAt.within (h : IAt w lo hi A L) (k : Within lo' hi' w w') (hd : hi ≤ lo' ∨ hi' ≤ lo) : IAt w' lo hi A L :=
  ⟨fun h0 => by obtain ⟨g, ex, e, h1, h2, h3⟩ := h.top h0; exact ⟨g, ex, e, h1, h2, k.row h3 (by omega)⟩, Nat.le_trans h.room k.size⟩
theorem IAt.wide (h : IAt w lo hi A L) (h1 : lo' ≤ lo) (h2 : hi ≤ hi') (h3 : hi' ≤ w.heap.size) : IAt w lo' hi' A L :=
  ⟨fun h0 => by obtain ⟨g, ex, e, g1, g2, g3⟩ := h.top h0; exact ⟨g, ex, e, by omega, by omega, g3⟩, h3⟩
theorem IAt.ints (h : IAt w lo hi A L) : Ints w w.heap.size A L := fun h0 => by
  obtain ⟨g, ex, rfl, h1, h2, h3⟩ := h.top h0
  exact (h3.ints.more h3.lt) h0
/-- A slice of numbers of new memory, and a code. -/
def GivesIC (L : List Int) (code : Int) (w : World) (e : Ending) (w' : World) : Prop :=
  ∃ A cap, e = .returned (.tuple #[.slice A L.length cap, .int .i64 code]) ∧ Below w.heap.size w w' ∧ IAt w' w.heap.size w'.heap.size A L
end

end Go.Proofs.YtdakbbgbglgioaaDoor
/- spec.l07Places sorts the places of the cards by their texts, and spec.OrderBy answers them: contracts. -/
namespace Go.Proofs.YtdakbbgbglgioaaDoor
open Go.ChangeShapes Go.WideShapes Go.ChangeAt Go.RowKit

/-- A slice of numbers of new memory. -/
def GivesI (L : List Int) (w : World) (e : Ending) (w' : World) : Prop :=
  ∃ A cap, e = .returned (.slice A L.length cap) ∧ Below w.heap.size w w' ∧ IAt w' w.heap.size w'.heap.size A L
/-- what is left when the place is found -/
theorem place_found {cf : Int → Int → Int} {n t k : Nat} {M : List Int} (hO : Ord cf (okK n)) (ht : t < n) (hp : M.Perm (identL t)) (hs : Srt cf M) (_ : k ≤ t) (hr : ∀ s ∈ M.drop k, Bef cf t s) (hl : ∀ s, (M.take k).getLast? = some s → ¬ cf t s < 0) :
    (M.take k ++ (t : Int) :: M.drop k).Perm (identL (t + 1)) ∧ Srt cf (M.take k ++ (t : Int) :: M.drop k) := by
  have ho : ∀ x ∈ M, okK n x := fun x hx => by
    have := identL_mem.1 (hp.subset hx)
    exact ⟨this.1, by have := this.2; omega⟩
  refine ⟨?_, ins_done hO (fun x hx => ho x (List.mem_of_mem_take hx)) ⟨Int.natCast_nonneg _, by omega⟩ (by rw [List.take_append_drop]; exact hs) (fun s h => ?_) hr⟩
  · rw [identL_succ]
    refine List.perm_middle.trans ?_
    rw [List.take_append_drop]
    exact (List.Perm.cons _ hp).trans (List.perm_append_comm (l₁ := [(t : Int)]) (l₂ := identL t))
  · have hm : s ∈ M := List.mem_of_mem_take (List.mem_of_getLast? h)
    have := identL_mem.1 (hp.subset hm)
    exact (bef_iff' hO ⟨Int.natCast_nonneg _, by omega⟩ (ho s hm) this.2).1 (hl s h)

set_option maxRecDepth 100000 in
set_option maxHeartbeats 4000000 in
theorem l07Places_any (A : Option Addr) (c : Nat) (D : List CardV) (i j : Nat) (w : World) (hr : 0 < D.length → ∃ g, A = some ⟨g, 0, none⟩ ∧ g < w.heap.size ∧ KeyRow w g D i j) (hv : deckB (holes D) = true) (hkb : keysB (holes D) i j = true) (hj : j ≤ widthH (holes D)) :
    Calls Tryd.prog 33 #[.slice A D.length c] w (GivesI (orderV (holes D) i j) w) := by
  obtain ⟨i0, hi0, hz0, hz1, hz2⟩ := info_parts info_int64
  have hn40 : D.length ≤ 40 := by
    have := deck_len hv
    simpa [holes] using this
  obtain ⟨n, hN⟩ : ∃ n, D.length = n := ⟨_, rfl⟩
  have hcmp := fun kg W (hrow : KeyRow W kg D i j) p q hp hq => keyCmp_any (n := n) hrow hv hkb hj hN (p := p) (q := q) hp hq
  have hHn : (holes D).length = n := by simp [holes, hN]
  have hov : ∀ M : List Int, M.Perm (identL n) → Srt (cfK (holes D) i j) M → orderV (holes D) i j = M := fun M p s => orderV_eq (by rw [hHn]; exact p) s
  have hord := ord_K (holes D) i j n
  obtain ⟨V, hV⟩ : ∃ V, orderV (holes D) i j = V := ⟨_, rfl⟩
  obtain ⟨cf, hcf⟩ : ∃ cf, cfK (holes D) i j = cf := ⟨_, rfl⟩
  simp only [hV, hcf] at hov hord hcmp
  rw [hV]
  rw [hN] at hn40 hr ⊢
  have HR := Lib.hid hr
  have HC := Lib.hid hcmp
  have HOV := Lib.hid hov
  have HORD := Lib.hid hord
  have HE := Lib.hid (empty_owned w)
  clear hr hN hv hkb hj hcmp hHn hov hord hV hcf
  go_enter Tryd.func33, Tryd.ntmps33
  go_wp2
  go_loopw [3, 4] (fun vo vi wr => ∃ t g cap : Nat, ∃ M : List Int, vi = .int .i64 t ∧ vo = .slice (some ⟨g, 0, none⟩) t cap ∧ t ≤ n ∧ Hid (M.length = t) ∧ Hid (M.Perm (identL t)) ∧ Hid (Srt cf M) ∧ Hid (wr.ownsRow w.heap.size 2 1 (.slice (some ⟨g, 0, none⟩) t cap) t (M.map (Value.int .i64))) ∧ Hid (Below w.heap.size w wr)) (fun _ vi _ => n - (intOf vi).toNat)
  case atStart => exact ⟨0, w.heap.size, 0, [], rfl, rfl, Nat.zero_le _, rfl, List.Perm.refl _, List.Pairwise.nil, HE, below_box w _⟩
  case round =>
    obtain ⟨t, g, cap, M, rfl, rfl, htn, HL, HP, HS, HO, HB⟩ := hrel
    by_cases hlt : t < n
    · obtain ⟨kg, rfl, hkg, hrow⟩ := HR.out (by omega)
      have HROW := Lib.hid hrow
      have t0 : (0 : Int) ≤ (t : Int) := Int.natCast_nonneg _
      have t1 : (t : Int) < (n : Int) := by omega
      clear hrow
      rename World => wo
      go_wp2_with fail
      go_loopw [5] (fun vk wr => ∃ k : Nat, vk = .int .i64 k ∧ k ≤ t ∧ Hid (∀ s ∈ M.drop k, Bef cf t s) ∧ Hid (wr.ownsRow w.heap.size 2 1 (.slice (some ⟨g, 0, none⟩) t cap) t (M.map (Value.int .i64))) ∧ Hid (Below w.heap.size w wr)) (fun vk _ => (intOf vk).toNat)
      case atStart => exact ⟨t, rfl, Nat.le_refl _, (fun s hs => by rw [List.drop_of_length_le (by rw [HL.out]; exact Nat.le_refl _)] at hs; cases hs), HO, HB⟩
      case round =>
        obtain ⟨k, rfl, hkt, HBE, HO2, HB2⟩ := hrel
        obtain ⟨og, oc, om, ex, hrr⟩ := own_rowS HO2.out
        have FND := Lib.hid (fun hl => place_found HORD.out hlt HP.out HS.out hkt HBE.out hl)
        by_cases hk0 : 0 < k
        · obtain ⟨k', rfl⟩ : ∃ k', k = k' + 1 := ⟨k - 1, by omega⟩
          obtain ⟨s, hs⟩ : ∃ s, M[k']? = some s := ⟨M[k']'(by rw [HL.out]; omega), List.getElem?_eq_getElem _⟩
          have hsm := identL_mem.1 (HP.out.subset (List.mem_of_getElem? hs))
          obtain ⟨q, rfl⟩ : ∃ q : Nat, s = q := ⟨s.toNat, by have := hsm.1; omega⟩
          have hq : q < t := by have := hsm.2; omega
          obtain ⟨S1, S2, e1, e2, hcc⟩ := HC.out kg w HROW.out t q hlt (by omega)
          have c0 : wr.cell? ⟨g, k', none⟩ = some (.int .i64 (q : Int)) := by
            have := hrr.cell (i := k') (by rw [HL.out]; omega)
            rw [hs] at this
            exact this
          have c1 := cell_kept e1 HB2.out
          have c2 := cell_kept e2 HB2.out
          obtain ⟨v, hvv⟩ : ∃ v, cf (t : Int) (q : Int) = v := ⟨_, rfl⟩
          simp only [hvv] at hcc
          have HCC : Hid (∀ m, Calls Tryd.prog 49 #[.string S1, .string S2] (wr.drewN m) fun e w' => e = .returned (.int .i64 v) ∧ w' = wr.drewN m) := fun m => hcc _
          have HVV := Lib.hid hvv
          have HSM := Lib.hid hs
          have j1 : (k' : Int) + 1 > 0 := by omega
          have j2 : ((k' + 1 : Nat) : Int) = (k' : Int) + 1 := by omega
          have j3 : (0 : Int) ≤ (k' : Int) := Int.natCast_nonneg _
          have j4 : (k' : Int) < (t : Int) := by omega
          have j5 : (0 : Int) ≤ (q : Int) := Int.natCast_nonneg _
          have j6 : (q : Int) < (n : Int) := by omega
          have jd : decide ((k' : Int) + 1 > 0) = true := decide_eq_true j1
          have jw : IntKind.i64.wrap (k' : Int) = (k' : Int) := IntWalk.i64_in _ (by omega)
          clear hcc hvv hs hsm e1 e2
          by_cases hv0 : v < 0
          · rw [j2]
            clear hrr om oc FND
            go_wp2_with fail
            go_quiet ((go_at_call 49; exact Calls.quiet_of_same (HCC.out _)))
            go_wp2
            go_roundw
            case rel =>
              refine ⟨k', by go_num, by omega, fun s' hs' => ?_, HO2.out, below_drewN HB2.out _⟩
              obtain ⟨hk1, he1⟩ := List.getElem?_eq_some_iff.1 HSM.out
              rw [List.drop_eq_getElem_cons hk1, he1] at hs'
              rcases List.mem_cons.1 hs' with rfl | hs'
              · exact (bef_iff (by omega)).1 (by rw [HVV.out]; exact hv0)
              · exact HBE.out s' hs'
            case measure => simp [intOf]
          · have hvn : ¬ v < 0 := hv0
            clear hv0
            rw [j2]
            have hl0 : ∀ s, (M.take (k' + 1)).getLast? = some s → ¬ cf t s < 0 := fun s' hs' => by
              have e' : M.take (k' + 1) = M.take k' ++ [(q : Int)] := by rw [List.take_add_one, HSM.out]; rfl
              rw [e'] at hs'
              have e2 : (q : Int) = s' := by simpa using hs'
              rw [← e2, HVV.out]
              exact hvn
            obtain ⟨fp, fs⟩ := FND.out hl0
            obtain ⟨M2, hM2⟩ : ∃ M2, M.take (k' + 1) ++ (t : Int) :: M.drop (k' + 1) = M2 := ⟨_, rfl⟩
            rw [hM2] at fp fs
            have FP := Lib.hid fp
            have FS := Lib.hid fs
            have hml : M2.length = t + 1 := by rw [fp.length_eq, identL_length]
            have HML := Lib.hid hml
            have HM2 : Hid (((M.take (k' + 1)).map (Value.int .i64) ++ [Value.int .i64 (t : Int)]) ++ (M.drop (k' + 1)).map (Value.int .i64) = M2.map (Value.int .i64)) := by show _ = _; rw [← hM2]; simp
            have ltk : (M.take (k' + 1)).length = (k' + 1) := by rw [List.length_take, HL.out]; omega
            have ldk : (M.drop (k' + 1)).length = t - (k' + 1) := by rw [List.length_drop, HL.out]
            obtain ⟨Q1, hQ1⟩ : ∃ Q1, M.take (k' + 1) = Q1 := ⟨_, rfl⟩
            obtain ⟨Q2, hQ2⟩ : ∃ Q2, M.drop (k' + 1) = Q2 := ⟨_, rfl⟩
            have hq1 : ∀ i : Nat, i < (k' + 1) → Q1[i]?.getD 0 = M[i]?.getD 0 := fun i hi => by rw [← hQ1, List.getElem?_take_of_lt hi]
            have hq2 : ∀ i : Nat, Q2[i]?.getD 0 = M[(k' + 1) + i]?.getD 0 := fun i => by rw [← hQ2, List.getElem?_drop]
            rw [hQ1] at ltk
            rw [hQ2] at ldk
            rw [hQ1, hQ2] at HM2
            have HQ1 := Lib.hid hq1
            have HQ2 := Lib.hid hq2
            have LTK := Lib.hid ltk
            have LDK := Lib.hid ldk
            have HOWN : Hid (∀ W, Row W g M ex → Calls Tryd.prog 51 #[.slice (some ⟨g, 0, none⟩) (k' + 1) cap] W fun e w' => ∃ v, e = .returned v ∧ v ≠ .slice none 0 0 ∧ w'.ownsRow W.heap.size 2 1 v (k' + 1) (Q1.map (Value.int .i64)) ∧ Below W.heap.size W w') := fun W hW => by
              have := ownInts_any g 0 cap Q1 W hW.lt (fun i hi => by rw [Nat.zero_add, HQ1.out i (by rw [← LTK.out]; exact hi)]; exact hW.cell (by rw [HL.out]; rw [LTK.out] at hi; omega)) (by rw [LTK.out]; omega)
              rw [LTK.out] at this
              exact this
            have f0 : (0 : Int) ≤ (k' : Int) + 1 := by omega
            have f1 : (k' : Int) + 1 ≤ (cap : Int) := by omega
            have f2 : (k' : Int) + 1 ≤ (t : Int) := by omega
            have f4 : ((k' : Int) + 1).toNat = k' + 1 := by omega
            have f3 : (t : Int) ≤ (cap : Int) := by omega
            have hs0 : ∀ W : World, (Instr.slice 34 (.slice (some ⟨g, 0, none⟩) t cap) none (some (.int .i64 ((k' : Int) + 1))) none).run Tryd.prog W = .ok (.slice (some ⟨g, 0, none⟩) (k' + 1) cap) W := fun W => by go_simp
            obtain ⟨m7, hm7⟩ : ∃ m7, t - (k' + 1) = m7 := ⟨_, rfl⟩
            obtain ⟨c7, hc7⟩ : ∃ c7, cap - (k' + 1) = c7 := ⟨_, rfl⟩
            have HM7 := Lib.hid hm7
            obtain ⟨ad, had⟩ : ∃ ad : Addr, (if cap = (k' + 1) then ⟨g, 0, none⟩ else ⟨g, (k' + 1), none⟩) = ad := ⟨_, rfl⟩
            have hs1 : ∀ W : World, (Instr.slice 34 (.slice (some ⟨g, 0, none⟩) t cap) (some (.int .i64 ((k' : Int) + 1))) none none).run Tryd.prog W = .ok (.slice (some ad) m7 c7) W := fun W => by
              rw [← had, ← hm7, ← hc7]
              by_cases hcap : cap = (k' + 1)
              · rw [if_pos hcap]
                go_simp
              · rw [if_neg hcap]
                go_simp
            have HNW : Hid (∀ W, Row W g M ex → ∀ j u, (Q2.map (Value.int .i64))[j]? = some u → W.cell? (ad.add j) = some u) := fun W hW => by
              rw [← had]
              by_cases hcap : cap = (k' + 1)
              · have : Q2 = [] := List.eq_nil_of_length_eq_zero (by rw [LDK.out]; omega)
                rw [this]
                intro j u hu
                simp at hu
              · rw [if_neg hcap]
                refine news_of fun i hi => ?_
                rw [HQ2.out i]
                exact hW.cell (by rw [HL.out]; rw [LDK.out] at hi; omega)
            have HRR := Lib.hid hrr
            have hgs : g < wr.heap.size := hrr.lt
            clear fp fs hM2 hml hQ1 hQ2 hq1 hq2 ltk ldk had hm7 hc7 hl0 hrr om oc
            go_wp2_with fail
            go_quiet ((go_at_call 49; exact Calls.quiet_of_same (HCC.out _)))
            have HB3 := Lib.hid (show Below w.heap.size w (wr.drewN nq) from below_drewN HB2.out _)
            have hr3 : Row (wr.drewN nq) g M ex := HRR.out
            have hg3 : g < (wr.drewN nq).heap.size := hgs
            generalize wr.drewN nq = w3 at HB3 hr3 hg3 ⊢
            have HR3 := Lib.hid hr3
            have HOC := Lib.hid (HOWN.out w3 hr3)
            clear hr3
            go_wp2_with fail
            refine HOC.out.mono ?_
            rintro e w4 ⟨v4, rfl, hv4, ho4, hb4⟩
            obtain ⟨g4, cap4, rfl⟩ := own_shape ho4 hv4
            have HO4 := Lib.hid ho4
            have HB4 := Lib.hid (below_step HB3.out hb4)
            have HR4 := Lib.hid (HR3.out.later hb4)
            have h34 : w3.heap.size ≤ w4.heap.size := hb4.size
            have hw4 : w.heap.size ≤ w4.heap.size := HB4.out.size
            have hw3 : w.heap.size ≤ w3.heap.size := HB3.out.size
            clear ho4 hb4 hv4
            go_wp2_with (at_builtin; first | (refine wpList_append_own _ rfl _ _ 34 rfl w3.heap.size 2 i0 (.int .i64 0) 1 8 Tryd.underlying34 hi0 hz0 hz1 hz2 rfl (by decide) _ (k' + 1) (Q1.map (Value.int .i64)) rfl (HO4.out.alloc _) ⟨w4.heap.size, 0, none⟩ 1 1 [.int .i64 (t : Int)] rfl rfl (one_news w4 _) (one_cell _) ?c3 ?c4 ?c5 ?_; rotate_left 3; intro v5 w5 hown hgrow hiff; obtain ⟨m5, hm5⟩ : ∃ m5, (k' + 1) + 1 = m5 := ⟨_, rfl⟩; rw [hm5] at hown; have HM5 := Lib.hid hm5; clear hm5; have HO5 := Lib.hid hown; have HB5 := Lib.hid (below_append HB4.out hgrow HO4.out hw4 hw3); have HR5 : Hid (Row w5 g M ex) := (append_block hgrow HO4.out (by omega) hg3).trans HR4.out; have hv5 : v5 ≠ .slice none 0 0 := (fun e => by have := (hiff.1 e).1; cases this); obtain ⟨g5, cap5, rfl⟩ := own_shape hown hv5; have hw5 : w.heap.size ≤ w5.heap.size := HB5.out.size; have h45 : w4.heap.size ≤ w5.heap.size := append_size hgrow; clear hown hgrow hiff hv5) | (refine wpList_append_own _ rfl _ _ 34 rfl w3.heap.size 2 i0 (.int .i64 0) 1 8 Tryd.underlying34 hi0 hz0 hz1 hz2 rfl (by decide) _ m5 (Q1.map (Value.int .i64) ++ [Value.int .i64 (t : Int)]) rfl HO5.out ad m7 c7 (Q2.map (Value.int .i64)) rfl (by rw [List.length_map, LDK.out, HM7.out, Nat.mul_one]) (HNW.out w5 HR5.out) (maps_one Q2) ?d3 ?d4 ?d5 ?_; rotate_left 3; intro v6 w6 hown hgrow hiff; have hv6 : v6 ≠ .slice none 0 0 := (fun e => by have := (hiff.1 e).1; cases this); rw [HM2.out, show m5 + m7 = t + 1 by have h1 := HM5.out; have h2 := HM7.out; omega] at hown; obtain ⟨g6, cap6, rfl⟩ := own_shape hown hv6; have HO6 := Lib.hid (own_lower hown hw3); have HB6 : Hid (Below w.heap.size w w6) := HB5.out.grown hgrow hw5 (fun x hx => Nat.le_trans hw3 (HO5.out.lt x hx).1); clear hown hgrow hiff hv6))
            case c3 => unfold maxLen; omega
            case c4 => omega
            case c5 => simp; omega
            case d3 => have h1 := HM5.out; have h2 := HM7.out; unfold maxLen; omega
            case d4 => have h1 := HM5.out; have h2 := HM7.out; omega
            case d5 => omega
            go_roundw
            case rel => exact ⟨t + 1, g6, cap6, M2, by go_num, rfl, by omega, HML, FP, FS, HO6, HB6⟩
            case measure => simp [intOf]; omega
        · obtain rfl : k = 0 := by omega
          clear hk0
          have jz : ((0 : Nat) : Int) = 0 := rfl
          have jd : decide ((0 : Int) > 0) = false := by decide
          rw [jz]
          have hl0 : ∀ s, (M.take 0).getLast? = some s → ¬ cf t s < 0 := fun s' hs' => by simp at hs'
          obtain ⟨fp, fs⟩ := FND.out hl0
          obtain ⟨M2, hM2⟩ : ∃ M2, M.take 0 ++ (t : Int) :: M.drop 0 = M2 := ⟨_, rfl⟩
          rw [hM2] at fp fs
          have FP := Lib.hid fp
          have FS := Lib.hid fs
          have hml : M2.length = t + 1 := by rw [fp.length_eq, identL_length]
          have HML := Lib.hid hml
          have HM2 : Hid (((M.take 0).map (Value.int .i64) ++ [Value.int .i64 (t : Int)]) ++ (M.drop 0).map (Value.int .i64) = M2.map (Value.int .i64)) := by show _ = _; rw [← hM2]; simp
          have ltk : (M.take 0).length = 0 := by rw [List.length_take, HL.out]; omega
          have ldk : (M.drop 0).length = t - 0 := by rw [List.length_drop, HL.out]
          obtain ⟨Q1, hQ1⟩ : ∃ Q1, M.take 0 = Q1 := ⟨_, rfl⟩
          obtain ⟨Q2, hQ2⟩ : ∃ Q2, M.drop 0 = Q2 := ⟨_, rfl⟩
          have hq1 : ∀ i : Nat, i < 0 → Q1[i]?.getD 0 = M[i]?.getD 0 := fun i hi => by rw [← hQ1, List.getElem?_take_of_lt hi]
          have hq2 : ∀ i : Nat, Q2[i]?.getD 0 = M[0 + i]?.getD 0 := fun i => by rw [← hQ2, List.getElem?_drop]
          rw [hQ1] at ltk
          rw [hQ2] at ldk
          rw [hQ1, hQ2] at HM2
          have HQ1 := Lib.hid hq1
          have HQ2 := Lib.hid hq2
          have LTK := Lib.hid ltk
          have LDK := Lib.hid ldk
          have HOWN : Hid (∀ W, Row W g M ex → Calls Tryd.prog 51 #[.slice (some ⟨g, 0, none⟩) 0 cap] W fun e w' => ∃ v, e = .returned v ∧ v ≠ .slice none 0 0 ∧ w'.ownsRow W.heap.size 2 1 v 0 (Q1.map (Value.int .i64)) ∧ Below W.heap.size W w') := fun W hW => by
            have := ownInts_any g 0 cap Q1 W hW.lt (fun i hi => by rw [Nat.zero_add, HQ1.out i (by rw [← LTK.out]; exact hi)]; exact hW.cell (by rw [HL.out]; rw [LTK.out] at hi; omega)) (by rw [LTK.out]; omega)
            rw [LTK.out] at this
            exact this
          have f1 : (0 : Int) ≤ (cap : Int) := by omega
          have f3 : (t : Int) ≤ (cap : Int) := by omega
          have hs0 : ∀ W : World, (Instr.slice 34 (.slice (some ⟨g, 0, none⟩) t cap) none (some (.int .i64 (0 : Int))) none).run Tryd.prog W = .ok (.slice (some ⟨g, 0, none⟩) 0 cap) W := fun W => by go_simp
          obtain ⟨m7, hm7⟩ : ∃ m7, t - 0 = m7 := ⟨_, rfl⟩
          obtain ⟨c7, hc7⟩ : ∃ c7, cap - 0 = c7 := ⟨_, rfl⟩
          have HM7 := Lib.hid hm7
          obtain ⟨ad, had⟩ : ∃ ad : Addr, (if cap = 0 then ⟨g, 0, none⟩ else ⟨g, 0, none⟩) = ad := ⟨_, rfl⟩
          have hs1 : ∀ W : World, (Instr.slice 34 (.slice (some ⟨g, 0, none⟩) t cap) (some (.int .i64 (0 : Int))) none none).run Tryd.prog W = .ok (.slice (some ad) m7 c7) W := fun W => by
            rw [← had, ← hm7, ← hc7]
            by_cases hcap : cap = 0
            · rw [if_pos hcap]
              go_simp
            · rw [if_neg hcap]
              go_simp
          have HNW : Hid (∀ W, Row W g M ex → ∀ j u, (Q2.map (Value.int .i64))[j]? = some u → W.cell? (ad.add j) = some u) := fun W hW => by
            rw [← had]
            by_cases hcap : cap = 0
            · have : Q2 = [] := List.eq_nil_of_length_eq_zero (by rw [LDK.out]; omega)
              rw [this]
              intro j u hu
              simp at hu
            · rw [if_neg hcap]
              refine news_of fun i hi => ?_
              rw [HQ2.out i]
              exact hW.cell (by rw [HL.out]; rw [LDK.out] at hi; omega)
          have HRR := Lib.hid hrr
          have hgs : g < wr.heap.size := hrr.lt
          clear fp fs hM2 hml hQ1 hQ2 hq1 hq2 ltk ldk had hm7 hc7 hl0 hrr om oc
          go_wp2_with fail
          go_quiet (fail)
          have HB3 := Lib.hid (show Below w.heap.size w (wr.drewN nq) from below_drewN HB2.out _)
          have hr3 : Row (wr.drewN nq) g M ex := HRR.out
          have hg3 : g < (wr.drewN nq).heap.size := hgs
          generalize wr.drewN nq = w3 at HB3 hr3 hg3 ⊢
          have HR3 := Lib.hid hr3
          have HOC := Lib.hid (HOWN.out w3 hr3)
          clear hr3
          go_wp2_with fail
          refine HOC.out.mono ?_
          rintro e w4 ⟨v4, rfl, hv4, ho4, hb4⟩
          obtain ⟨g4, cap4, rfl⟩ := own_shape ho4 hv4
          have HO4 := Lib.hid ho4
          have HB4 := Lib.hid (below_step HB3.out hb4)
          have HR4 := Lib.hid (HR3.out.later hb4)
          have h34 : w3.heap.size ≤ w4.heap.size := hb4.size
          have hw4 : w.heap.size ≤ w4.heap.size := HB4.out.size
          have hw3 : w.heap.size ≤ w3.heap.size := HB3.out.size
          clear ho4 hb4 hv4
          go_wp2_with (at_builtin; first | (refine wpList_append_own _ rfl _ _ 34 rfl w3.heap.size 2 i0 (.int .i64 0) 1 8 Tryd.underlying34 hi0 hz0 hz1 hz2 rfl (by decide) _ 0 (Q1.map (Value.int .i64)) rfl (HO4.out.alloc _) ⟨w4.heap.size, 0, none⟩ 1 1 [.int .i64 (t : Int)] rfl rfl (one_news w4 _) (one_cell _) ?c3 ?c4 ?c5 ?_; rotate_left 3; intro v5 w5 hown hgrow hiff; obtain ⟨m5, hm5⟩ : ∃ m5, 0 + 1 = m5 := ⟨_, rfl⟩; rw [hm5] at hown; have HM5 := Lib.hid hm5; clear hm5; have HO5 := Lib.hid hown; have HB5 := Lib.hid (below_append HB4.out hgrow HO4.out hw4 hw3); have HR5 : Hid (Row w5 g M ex) := (append_block hgrow HO4.out (by omega) hg3).trans HR4.out; have hv5 : v5 ≠ .slice none 0 0 := (fun e => by have := (hiff.1 e).1; cases this); obtain ⟨g5, cap5, rfl⟩ := own_shape hown hv5; have hw5 : w.heap.size ≤ w5.heap.size := HB5.out.size; have h45 : w4.heap.size ≤ w5.heap.size := append_size hgrow; clear hown hgrow hiff hv5) | (refine wpList_append_own _ rfl _ _ 34 rfl w3.heap.size 2 i0 (.int .i64 0) 1 8 Tryd.underlying34 hi0 hz0 hz1 hz2 rfl (by decide) _ m5 (Q1.map (Value.int .i64) ++ [Value.int .i64 (t : Int)]) rfl HO5.out ad m7 c7 (Q2.map (Value.int .i64)) rfl (by rw [List.length_map, LDK.out, HM7.out, Nat.mul_one]) (HNW.out w5 HR5.out) (maps_one Q2) ?d3 ?d4 ?d5 ?_; rotate_left 3; intro v6 w6 hown hgrow hiff; have hv6 : v6 ≠ .slice none 0 0 := (fun e => by have := (hiff.1 e).1; cases this); rw [HM2.out, show m5 + m7 = t + 1 by have h1 := HM5.out; have h2 := HM7.out; omega] at hown; obtain ⟨g6, cap6, rfl⟩ := own_shape hown hv6; have HO6 := Lib.hid (own_lower hown hw3); have HB6 : Hid (Below w.heap.size w w6) := HB5.out.grown hgrow hw5 (fun x hx => Nat.le_trans hw3 (HO5.out.lt x hx).1); clear hown hgrow hiff hv6))
          case c3 => unfold maxLen; omega
          case c4 => omega
          case c5 => simp; omega
          case d3 => have h1 := HM5.out; have h2 := HM7.out; unfold maxLen; omega
          case d4 => have h1 := HM5.out; have h2 := HM7.out; omega
          case d5 => omega
          go_roundw
          case rel => exact ⟨t + 1, g6, cap6, M2, by go_num, rfl, by omega, HML, FP, FS, HO6, HB6⟩
          case measure => simp [intOf]; omega
    · obtain rfl : t = n := by omega
      have t1 : ¬ (t : Int) < (t : Int) := by omega
      obtain ⟨og, oc, om, ex, hrr⟩ := own_rowS HO.out
      obtain rfl : V = M := HOV.out M HP.out HS.out
      have HRR := Lib.hid hrr
      clear hrr
      go_wp2
      go_ret
      exact ⟨some ⟨g, 0, none⟩, cap, by rw [HL.out]; rfl, HB.out, fun _ => ⟨g, ex, rfl, og, HRR.out.lt, HRR.out⟩, Nat.le_refl _⟩

section
variable (A : Option Addr) (c : Nat) (D : List CardV) (B : Nat) (a b : Int) (w : World) (h : Deck w B A D) (hB : B ≤ w.heap.size) (hn : D.length ≤ 1048576) (hl : ∀ d ∈ D, d.xs.length ≤ 1048576)
end
end Go.Proofs.YtdakbbgbglgioaaDoor
/- spec.SortedBy: the cards have no less room than columns: a contract. -/
namespace Go.Proofs.YtdakbbgbglgioaaDoor
open Go.ChangeShapes Go.WideShapes Go.ChangeAt Go.RowKit

theorem order_atC {D : List CardV} {i j k n : Nat} (hN : D.length = n) (hv : deckB (holes D) = true) (hj : j ≤ widthH (holes D)) (hij : i < j) (hk : k < n) : ∃ (q : Nat) (d : CardV), (orderV (holes D) i j)[k]?.getD 0 = (q : Int) ∧ q < n ∧ D[q]? = some d ∧ (sortV (holes D) i j)[k]? = some d.xs ∧ 0 < d.xs.length ∧ d.xs.length ≤ 20 := by
  have hHn : (holes D).length = n := by simp [holes, hN]
  have hl := orderV_length (holes D) i j
  rw [hHn] at hl
  have hx : (orderV (holes D) i j)[k]? = some ((orderV (holes D) i j)[k]'(by omega)) := List.getElem?_eq_getElem _
  have hm := identL_mem.1 ((orderV_is (holes D) i j).1.subset (List.mem_of_getElem? hx))
  rw [hHn] at hm
  obtain ⟨x, ex⟩ : ∃ x, (orderV (holes D) i j)[k]'(by omega) = x := ⟨_, rfl⟩
  rw [ex] at hx hm
  obtain ⟨q, rfl⟩ : ∃ q : Nat, x = q := ⟨x.toNat, by have := hm.1; omega⟩
  have hq : q < n := by have := hm.2; omega
  have hd : D[q]? = some (D[q]'(by omega)) := List.getElem?_eq_getElem _
  have hh := holes_at hd
  obtain ⟨y1, y2⟩ := deck_width hv hh
  refine ⟨q, _, by rw [hx]; rfl, hq, hd, ?_, by rw [y2]; omega, (okB_parts y1).2⟩
  rw [sortV, List.getElem?_map, hx, Option.map_some, Int.toNat_natCast, hh]
  rfl

/-- A list of cards of new memory, with no less room than columns, and a code; its memory is there where the code is 0. -/
def GivesDCG (H : List (List Int)) (code : Int) (w : World) (e : Ending) (w' : World) : Prop :=
  ∃ A cap E, e = .returned (.tuple #[.slice A H.length cap, .int .i64 code]) ∧ holes E = H ∧ Below w.heap.size w w' ∧ DeckAt w' w.heap.size w'.heap.size A E ∧ CapsOk E ∧ (code = 0 → ∃ g, A = some ⟨g, 0, none⟩)

section
variable (A : Option Addr) (c : Nat) (D : List CardV) (B : Nat) (a b : Int) (w : World) (h : Deck w B A D) (hB : B ≤ w.heap.size) (hn : D.length ≤ 1048576) (hl : ∀ d ∈ D, d.xs.length ≤ 1048576)
include h hB hn hl
set_option maxRecDepth 100000 in
set_option maxHeartbeats 2000000 in
theorem specSortedC_any (hcap : CapsOk D) :
    Calls Tryd.prog 9 #[.slice A D.length c, .agg #[.int .i64 a, .int .i64 b]] w (GivesDCG (sortA (holes D) a b) (keysC (holes D) a b) w) := by
  obtain ⟨i0, hi0, hz0, hz1, hz2⟩ := info_parts info_card
  have b0 := below_box w (.cells #[.int .i64 a, .int .i64 b] 26)
  have hk := l07Keys_any A c D B a b (w.alloc (.cells #[.int .i64 a, .int .i64 b] 26)) (h.below (b0.mono hB)) (by simp; omega) hn hl hcap
  have BW := Lib.hid b0
  obtain ⟨n, hN⟩ : ∃ n, D.length = n := ⟨_, rfl⟩
  rw [sortA]
  by_cases e : keysC (holes D) a b = 0
  · obtain ⟨i, j, rfl, rfl, hij, hj, hv, hkb⟩ := keysC_zero e
    have hs := fun A c W hr => l07Places_any A c D i j W hr hv hkb hj
    have hHn : (holes D).length = n := by simp [holes, hN]
    have hn40 : n ≤ 40 := by
      have := deck_len hv
      omega
    rw [e] at hk ⊢
    rw [if_pos rfl]
    rw [Int.toNat_natCast, Int.toNat_natCast] at hk ⊢
    have hat := fun k hk => order_atC (k := k) hN hv hj hij hk
    have hvl := orderV_length (holes D) i j
    have hsl := sortV_length (holes D) i j
    rw [hHn] at hvl hsl
    obtain ⟨V, hV⟩ : ∃ V, orderV (holes D) i j = V := ⟨_, rfl⟩
    obtain ⟨S, hS⟩ : ∃ S, sortV (holes D) i j = S := ⟨_, rfl⟩
    simp only [hV, hS] at hat
    simp only [hV, hN] at hs
    rw [hV] at hvl
    rw [hS] at hsl ⊢
    unfold GivesI at hs
    rw [hvl] at hs
    rw [hN] at hk hn ⊢
    unfold GivesKeys at hk
    simp only [hN] at hk
    have HA := Lib.hid hat
    have HVL := Lib.hid hvl
    have HSL := Lib.hid hsl
    have HK := Lib.hid hk
    have HPL := Lib.hid hs
    have H := Lib.hid h
    have HN := Lib.hid hN
    clear hat hvl hsl hk hs h hl hcap b0 e hv hkb hj hij hHn hN hV hS
    go_enter Tryd.func9, Tryd.ntmps9
    go_wp2_with fail
    refine HK.out.mono ?_
    rintro e w1 (⟨h0, _⟩ | ⟨_, A', cap, rfl, hb, hrow⟩)
    · exact absurd rfl h0
    have B1 := Lib.hid (below_step BW.out hb)
    have HRW := Lib.hid hrow
    clear hb hrow HK
    go_wp2_with fail
    refine (HPL.out _ _ _ HRW.out).mono ?_
    rintro e w2 ⟨A2, c2, rfl, hb, hi⟩
    have B2 := Lib.hid (below_step B1.out hb)
    have HI := Lib.hid hi
    have HE0 := Lib.hid (empty_cards w2)
    clear hb hi
    go_wp2
    go_loopw [9, 10] (fun vo x wr => ∃ t cap : Nat, ∃ g : Nat, ∃ E : List CardV, t ≤ n ∧ x = .int .i64 t ∧ vo = .slice (some ⟨g, 0, none⟩) t cap ∧ Hid (E.length = t) ∧ Hid (holes E = S.take t) ∧ Hid (Below w2.heap.size w2 wr) ∧ Hid (wr.ownsRow w2.heap.size 36 1 (.slice (some ⟨g, 0, none⟩) t cap) t (E.map CardV.value)) ∧ Hid (NewRows wr w2.heap.size E) ∧ Hid (CapsOk E)) (fun _ x _ => n - (intOf x).toNat)
    case atStart => exact ⟨0, 0, w2.heap.size, [], Nat.zero_le _, rfl, rfl, rfl, by show _ = _; simp [holes], below_box w2 _, HE0, NewRows.nil, fun d hd => by cases hd⟩
    case round =>
      obtain ⟨t, cap, g, E, ht, rfl, rfl, HE, HS, HB, HO, HR, HCP⟩ := hrel
      by_cases hlt : t < n
      · obtain ⟨q, d, hq1, hqn, hd, hst, h0, h20⟩ := HA.out t hlt
        obtain ⟨g1, ex1, rfl, _, _, hr1⟩ := HI.out.top (by rw [HVL.out]; omega)
        have o1 := cell_kept (hr1.cell (i := t) (by rw [HVL.out]; exact hlt)) HB.out
        rw [hq1] at o1
        have BD := below_step B2.out HB.out
        obtain ⟨b, off, rfl, hb, hcell⟩ := (H.out.below (BD.mono hB)) (by rw [HN.out]; omega)
        obtain ⟨hc, hi⟩ := hcell q d hd
        unfold CardV.value at hc
        have HT := Lib.hid (l02OwnD_any d.at_ d.cap d.xs B b (off + q) wr hc hi (Nat.le_trans hB BD.size) h0 (by omega))
        have HH1 : Hid (∀ e : CardV, e.xs = d.xs → holes (E ++ [e]) = S.take (t + 1)) := fun e he => by
          rw [List.take_add_one, hst, ← HS.out]
          simp [holes, he]
        have q0 : (0 : Int) ≤ (q : Int) := Int.natCast_nonneg _
        have q1 : (q : Int) < (n : Int) := by omega
        have t0 : (0 : Int) ≤ (t : Int) := Int.natCast_nonneg _
        have t1 : (t : Int) < (n : Int) := by omega
        clear hcell hd hst hi hr1 BD hq1 h0 h20 hc
        go_wp2_with fail
        refine HT.out.mono ?_
        rintro e w3 ⟨ge, cp, ex, rfl, hp1, hp2, hge, hb3, hrow⟩
        have HC3 : Hid (CapsOk (E ++ [(⟨some ⟨ge, 0, none⟩, cp, d.xs⟩ : CardV)])) := fun x hx => by
          rcases List.mem_append.1 hx with hx | hx
          · exact HCP.out x hx
          · obtain rfl : x = ⟨some ⟨ge, 0, none⟩, cp, d.xs⟩ := by simpa using hx
            unfold maxLen at hp2
            exact ⟨hp1, hp2⟩
        have HB3 := Lib.hid (below_step HB.out hb3)
        have HR3 := Lib.hid (HR.out.more hb3 (e := ⟨some ⟨ge, 0, none⟩, cp, d.xs⟩) rfl hge (Nat.le_trans HB.out.size hge) hrow)
        have HO3 : Hid (w3.ownsRow w2.heap.size 36 1 (.slice (some ⟨g, 0, none⟩) t cap) t (E.map CardV.value)) := own_moved HO.out (fun i _ hi => hb3.block i hi)
        have hw3 : w2.heap.size ≤ w3.heap.size := HB3.out.size
        clear hb3 hrow hge hp1 hp2
        go_wp2_with (at_builtin; refine wpList_append_own _ rfl _ _ 24 rfl w2.heap.size 36 i0 (.agg #[.slice none 0 0]) 1 24 Tryd.underlying24 hi0 hz0 hz1 hz2 rfl (by decide) _ _ _ rfl (HO3.out.alloc _) ⟨w3.heap.size, 0, none⟩ 1 1 [CardV.value ⟨some ⟨ge, 0, none⟩, cp, d.xs⟩] rfl rfl (card_news w3 _) (card_one _) ?c3 ?c4 ?c5 ?_; rotate_left 3; intro v9 w9 hown hgrow hiff; have hv9 : v9 ≠ .slice none 0 0 := (fun e => by have := (hiff.1 e).1; cases this); obtain ⟨ho, hbb, hrr⟩ := own_card (x := ⟨some ⟨ge, 0, none⟩, cp, d.xs⟩) hown hgrow HO3.out HB3.out (Nat.le_refl _) hw3 HR3.out; obtain ⟨g9, cap9, rfl⟩ := own_shape ho hv9; have HO9 := Lib.hid ho; have HB9 := Lib.hid hbb; have HR9 := Lib.hid hrr; clear hown hgrow hiff hv9 ho hbb hrr)
        case c3 => unfold maxLen; omega
        case c4 => omega
        case c5 => simp; omega
        go_roundw
        case rel => exact ⟨t + 1, cap9, g9, E ++ [(⟨some ⟨ge, 0, none⟩, cp, d.xs⟩ : CardV)], by omega, by go_num, rfl, by show _ = _; simp [HE.out], HH1.out _ rfl, HB9, HO9, HR9, HC3⟩
        case measure => simp [intOf]; omega
      · have htn : t = n := by omega
        have t1 : ¬ (t : Int) < (n : Int) := by omega
        have hh : holes E = S := by rw [HS.out, List.take_of_length_le (by rw [HSL.out]; omega)]
        have HHH := Lib.hid hh
        obtain ⟨A9, c9, e9, hda⟩ := own_deckAt HO.out HE.out HR.out (Nat.le_refl _)
        injection e9 with e9 _ _
        subst e9
        have HDA := Lib.hid (hda.widen B2.out.size (Nat.le_refl _) (Nat.le_refl _))
        have BB := Lib.hid (below_step B2.out HB.out)
        have htn2 : Hid (t = S.length) := htn.trans HSL.out.symm
        clear hh htn hda
        go_wp2
        go_ret2
        exact ⟨_, _, E, by rw [← htn2.out]; rfl, HHH.out, BB.out, HDA.out, HCP.out, fun _ => ⟨g, rfl⟩⟩
  · rw [if_neg e]
    obtain ⟨k, hk0⟩ : ∃ k, keysC (holes D) a b = k := ⟨_, rfl⟩
    rw [hk0] at hk e ⊢
    rw [hN] at hk ⊢
    have e1 : (k != 0) = true := by simpa using e
    have HK := Lib.hid hk
    clear hk h hl hcap b0 hk0 hN hn
    go_enter Tryd.func9, Tryd.ntmps9
    go_wp2_with fail
    refine HK.out.mono ?_
    rintro e' w1 (⟨_, rfl, hb⟩ | ⟨h0, _⟩)
    · have B1 := Lib.hid (below_step BW.out hb)
      clear hb HK
      go_wp2
      go_ret2
      exact ⟨none, 0, [], rfl, rfl, B1.out, DeckAt.nil (Nat.le_refl _), (fun d hd => by cases hd), fun h0 => absurd h0 e⟩
    · exact absurd h0 e
end
end Go.Proofs.YtdakbbgbglgioaaDoor

/- What a collator answers, as plain functions: the places and the cards for which something holds, the codes, and when two fields are equal. -/
namespace Go.Proofs.YtdakbbgbglgioaaDoor
open Go.ChangeShapes Go.WideShapes Go.ChangeAt Go.RowKit

theorem rkI_one {a b : Int} (ha : charOk a = true) (hb : charOk b = true) (h : rkI a = rkI b) : a = b := by
  unfold charOk at ha hb
  unfold rkI at h
  cases ea : rankM a with
  | none => rw [ea] at ha; cases ha
  | some j =>
    cases eb : rankM b with
    | none => rw [eb] at hb; cases hb
    | some k =>
      rw [ea, eb] at h
      have e : j = k := by
        have h' : (j : Int) = k := h
        omega
      subst e
      exact (rankM_some ea).2.1.symm.trans (rankM_some eb).2.1
theorem cmpI_zero (a b : Int) : cmpI a b = 0 ↔ a = b := by
  unfold cmpI
  (repeat' split) <;> omega
theorem cmpTo_all (xs ys : List Int) : ∀ k, cmpTo xs ys k = 0 ↔ ∀ m, m < k → rkI (xs[m]?.getD 0) = rkI (ys[m]?.getD 0)
  | 0 => by simp [cmpTo]
  | k + 1 => by
    have ih := cmpTo_all xs ys k
    rw [cmpTo_step]
    by_cases h : cmpTo xs ys k = 0
    · rw [if_neg (by simpa using h), cmpI_zero]
      constructor
      · intro e m hm
        by_cases hk : m = k
        · subst hk
          exact e
        · exact ih.1 h m (by omega)
      · intro e
        exact e k (by omega)
    · rw [if_pos h]
      constructor
      · intro e
        exact absurd e h
      · intro e
        exact absurd (ih.2 fun m hm => e m (by omega)) h
theorem cmpTo_zero {xs ys : List Int} {n : Nat} (hx : xs.length = n) (hy : ys.length = n) (ox : textOk xs = true) (oy : textOk ys = true) : cmpTo xs ys n = 0 ↔ xs = ys := by
  rw [cmpTo_all]
  constructor
  · intro h
    apply List.ext_getElem (by omega)
    intro m h1 h2
    have := h m (by omega)
    rw [List.getElem?_eq_getElem h1, List.getElem?_eq_getElem h2] at this
    exact rkI_one (List.all_eq_true.1 ox _ (List.getElem_mem h1)) (List.all_eq_true.1 oy _ (List.getElem_mem h2)) this
  · rintro rfl m _
    rfl
theorem textS_one {xs ys : List Int} (ox : textOk xs = true) (oy : textOk ys = true) : textS xs = textS ys ↔ xs = ys :=
  ⟨fun h => by rw [← textCodes_textS xs ox, h, textCodes_textS ys oy], fun h => by rw [h]⟩
theorem byte_back : ∀ n : Fin 256, ¬ codeS (n.val : Int) < 0 → charOk (codeS (n.val : Int)) = true ∧ byteV (codeS (n.val : Int)) = UInt8.ofNat n.val := by decide +kernel
theorem text_back {s : ByteArray} (h : legalT s = true) : textOk (textCodes s) = true ∧ textS (textCodes s) = s := by
  have hb : ∀ b : UInt8, b ∈ s.data.toList → charOk (codeS (b.toNat : Int)) = true ∧ byteV (codeS (b.toNat : Int)) = b := fun b hb => by
    have h1 : 0 ≤ codeS (b.toNat : Int) := by
      rw [legalT, List.all_eq_true] at h
      exact of_decide_eq_true (h _ (List.mem_map_of_mem hb))
    have hlt : b.toNat < 256 := b.toNat_lt
    obtain ⟨h2, h3⟩ := byte_back ⟨b.toNat, hlt⟩ (by show ¬ codeS (b.toNat : Int) < 0; omega)
    refine ⟨h2, h3.trans ?_⟩
    simp
  constructor
  · rw [textOk, List.all_eq_true]
    intro x hx
    obtain ⟨b, hm, rfl⟩ := List.mem_map.1 hx
    exact (hb b hm).1
  · have e : textL (textCodes s) = s.data.toList := by
      rw [textL, textCodes, List.map_map]
      conv => rhs; rw [← List.map_id s.data.toList]
      apply List.map_congr_left
      intro b hm
      exact (hb b hm).2
    rw [textS, e]

/-- the places below n for which q holds -/
def wherePl (q : Nat → Bool) : Nat → List Int
  | 0 => []
  | n + 1 => if q n = true then wherePl q n ++ [(n : Int)] else wherePl q n
theorem wherePl_yes {q : Nat → Bool} {n : Nat} (h : q n = true) : wherePl q (n + 1) = wherePl q n ++ [(n : Int)] := if_pos h
theorem wherePl_no {q : Nat → Bool} {n : Nat} (h : q n = false) : wherePl q (n + 1) = wherePl q n := if_neg (by simp [h])
theorem wherePl_len (q : Nat → Bool) : ∀ n, (wherePl q n).length ≤ n
  | 0 => Nat.le_refl _
  | n + 1 => by
    have := wherePl_len q n
    unfold wherePl
    split
    · simp; omega
    · omega
theorem wherePl_mem {q : Nat → Bool} : ∀ {n : Nat} {x : Int}, x ∈ wherePl q n → ∃ k : Nat, x = k ∧ k < n ∧ q k = true
  | 0, _, h => by cases h
  | n + 1, x, h => by
    unfold wherePl at h
    split at h
    · rename_i hq
      rcases List.mem_append.1 h with h | h
      · obtain ⟨k, a, b, c⟩ := wherePl_mem h
        exact ⟨k, a, by omega, c⟩
      · exact ⟨n, by simpa using h, by omega, hq⟩
    · obtain ⟨k, a, b, c⟩ := wherePl_mem h
      exact ⟨k, a, by omega, c⟩
/-- the cards ahead of place n for which q holds -/
def cardsPl (q : Nat → Bool) (H : List (List Int)) : Nat → List (List Int)
  | 0 => []
  | n + 1 => if q n = true then cardsPl q H n ++ [H[n]?.getD []] else cardsPl q H n
theorem cardsPl_yes {q : Nat → Bool} {H : List (List Int)} {n : Nat} {xs : List Int} (h : q n = true) (hn : H[n]? = some xs) : cardsPl q H (n + 1) = cardsPl q H n ++ [xs] := by
  rw [cardsPl, if_pos h, hn]
  rfl
theorem cardsPl_no {q : Nat → Bool} {H : List (List Int)} {n : Nat} (h : q n = false) : cardsPl q H (n + 1) = cardsPl q H n := if_neg (by simp [h])
theorem cardsPl_len (q : Nat → Bool) (H : List (List Int)) : ∀ n, (cardsPl q H n).length ≤ n
  | 0 => Nat.le_refl _
  | n + 1 => by
    have := cardsPl_len q H n
    unfold cardsPl
    split
    · simp; omega
    · omega
theorem cardsPl_where (q : Nat → Bool) (H : List (List Int)) : ∀ n, cardsPl q H n = (wherePl q n).map fun x => H[x.toNat]?.getD []
  | 0 => rfl
  | n + 1 => by
    have := cardsPl_where q H n
    unfold cardsPl wherePl
    split <;> simp [this]
theorem cardsPl_congr {p q : Nat → Bool} {H : List (List Int)} : ∀ {n : Nat}, (∀ k, k < n → p k = q k) → cardsPl p H n = cardsPl q H n
  | 0, _ => rfl
  | n + 1, h => by
    have := cardsPl_congr (H := H) (n := n) fun k hk => h k (by omega)
    unfold cardsPl
    rw [h n (by omega), this]
theorem cardsPl_mem {q : Nat → Bool} {H : List (List Int)} {n : Nat} {x : List Int} (h : x ∈ cardsPl q H n) : ∃ k, k < n ∧ q k = true ∧ x = H[k]?.getD [] := by
  rw [cardsPl_where] at h
  obtain ⟨y, hy, rfl⟩ := List.mem_map.1 h
  obtain ⟨k, rfl, h1, h2⟩ := wherePl_mem hy
  exact ⟨k, h1, h2, by simp⟩
theorem cardsPl_total {q : Nat → Bool} {H : List (List Int)} (hv : deckB H = true) {n : Nat} (hn : n ≤ 40) : totH (cardsPl q H n) ≤ 800 := by
  have : totH (cardsPl q H n) ≤ ((cardsPl q H n).map List.length).length * 20 := by
    unfold totH
    have sum_le : ∀ {L : List Nat}, (∀ x ∈ L, x ≤ 20) → L.sum ≤ L.length * 20 := by
      intro L h
      induction L with
      | nil => simp
      | cons x L ih =>
        have h1 := h x (by simp)
        have h2 := ih fun y hy => h y (by simp [hy])
        simp only [List.sum_cons, List.length_cons, Nat.succ_mul]
        omega
    refine sum_le fun x hx => ?_
    obtain ⟨y, hy, rfl⟩ := List.mem_map.1 hx
    obtain ⟨k, _, _, rfl⟩ := cardsPl_mem hy
    cases hq : H[k]? with
    | none => simp
    | some z =>
      obtain ⟨y1, _⟩ := deck_width hv hq
      exact (okB_parts y1).2
  rw [List.length_map] at this
  have h2 := cardsPl_len q H n
  omega

/-- a card that is less than the one before it -/
def seqQ (H : List (List Int)) (i j k : Nat) : Bool := decide (0 < k) && decide (cmpK H i j k (k - 1) < 0)
/-- a card with which a group begins -/
def grpQ (H : List (List Int)) (i j k : Nat) : Bool := decide (k = 0) || !decide (cmpK H i j k (k - 1) = 0)
def seqA (H : List (List Int)) (a b : Int) : List Int := if keysC H a b = 0 then wherePl (seqQ H a.toNat b.toNat) H.length else []
def grpA (H : List (List Int)) (a b : Int) : List Int := if keysC H a b = 0 then wherePl (grpQ H a.toNat b.toNat) H.length else []
def firstA (H : List (List Int)) (a b : Int) : List (List Int) := if keysC H a b = 0 then cardsPl (grpQ H a.toNat b.toNat) H H.length else []

/-- the code of a text for l columns -/
def textC (s : ByteArray) (l : Int) : Int := if (s.size : Int) ≠ l then 2 else if legalT s = false then 7 else 0
/-- the error that is told -/
def firstC (L : List Int) : Int := if 1 ∈ L then 1 else if 2 ∈ L then 2 else if 7 ∈ L then 7 else if 8 ∈ L then 8 else 0
/-- a card that is not less than one text and not greater than another one -/
def betQ (H : List (List Int)) (i j : Nat) (x y : List Int) (k : Nat) : Bool := decide (0 ≤ cmpTo (partOf (H[k]?.getD []) i j) x (j - i)) && decide (cmpTo (partOf (H[k]?.getD []) i j) y (j - i) ≤ 0)
def askC (H : List (List Int)) (a b : Int) (T : List ByteArray) : Int := firstC (keysC H a b :: T.map fun s => textC s (IntKind.i64.wrap (b - a)))
def betA (H : List (List Int)) (a b : Int) (s t : ByteArray) : List (List Int) := if askC H a b [s, t] = 0 then cardsPl (betQ H a.toNat b.toNat (textCodes s) (textCodes t)) H H.length else []
def eqA (H : List (List Int)) (a b : Int) (s : ByteArray) : List (List Int) := if askC H a b [s] = 0 then cardsPl (betQ H a.toNat b.toNat (textCodes s) (textCodes s)) H H.length else []
theorem keysC_vals (H : List (List Int)) (a b : Int) : keysC H a b = 1 ∨ keysC H a b = 2 ∨ keysC H a b = 8 ∨ keysC H a b = 0 := by
  unfold keysC
  (repeat' split) <;> simp
theorem textC_vals (s : ByteArray) (l : Int) : textC s l = 2 ∨ textC s l = 7 ∨ textC s l = 0 := by
  unfold textC
  (repeat' split) <;> simp
theorem key_len {H : List (List Int)} {a b : Int} (h : keysC H a b = 0) : H.length ≤ 40 ∧ deckB H = true := by
  obtain ⟨i, j, _, _, _, _, hv, _⟩ := keysC_zero h
  exact ⟨deck_len hv, hv⟩
theorem seqA_length (H : List (List Int)) (a b : Int) : (seqA H a b).length ≤ 1048576 := by
  unfold seqA
  by_cases h : keysC H a b = 0
  · rw [if_pos h]
    have := wherePl_len (seqQ H a.toNat b.toNat) H.length
    have := (key_len h).1
    omega
  · rw [if_neg h]; simp
theorem grpA_length (H : List (List Int)) (a b : Int) : (grpA H a b).length ≤ 1048576 := by
  unfold grpA
  by_cases h : keysC H a b = 0
  · rw [if_pos h]
    have := wherePl_len (grpQ H a.toNat b.toNat) H.length
    have := (key_len h).1
    omega
  · rw [if_neg h]; simp
theorem firstA_length (H : List (List Int)) (a b : Int) : (firstA H a b).length ≤ 1048576 := by
  unfold firstA
  by_cases h : keysC H a b = 0
  · rw [if_pos h]
    have := cardsPl_len (grpQ H a.toNat b.toNat) H H.length
    have := (key_len h).1
    omega
  · rw [if_neg h]; simp
theorem firstA_total (H : List (List Int)) (a b : Int) : totH (firstA H a b) ≤ 1048576 := by
  unfold firstA
  by_cases h : keysC H a b = 0
  · rw [if_pos h]
    have := cardsPl_total (q := grpQ H a.toNat b.toNat) (key_len h).2 (key_len h).1
    omega
  · rw [if_neg h]; simp [totH]
theorem ask_key {H : List (List Int)} {a b : Int} {T : List ByteArray} (h : askC H a b T = 0) : keysC H a b = 0 := by
  unfold askC firstC at h
  rcases keysC_vals H a b with e | e | e | e
  · rw [e, if_pos (by simp)] at h; exact absurd h (by decide)
  · rw [e] at h
    split at h
    · exact absurd h (by decide)
    · rw [if_pos (by simp)] at h; exact absurd h (by decide)
  · rw [e] at h
    repeat' split at h
    all_goals first | exact absurd h (by decide) | skip
    rename_i h8
    exact absurd (by simp) h8
  · exact e
theorem betA_length (H : List (List Int)) (a b : Int) (s t : ByteArray) : (betA H a b s t).length ≤ 1048576 := by
  unfold betA
  by_cases h : askC H a b [s, t] = 0
  · rw [if_pos h]
    have := cardsPl_len (betQ H a.toNat b.toNat (textCodes s) (textCodes t)) H H.length
    have := (key_len (ask_key h)).1
    omega
  · rw [if_neg h]; simp
theorem betA_total (H : List (List Int)) (a b : Int) (s t : ByteArray) : totH (betA H a b s t) ≤ 1048576 := by
  unfold betA
  by_cases h : askC H a b [s, t] = 0
  · rw [if_pos h]
    have := cardsPl_total (q := betQ H a.toNat b.toNat (textCodes s) (textCodes t)) (key_len (ask_key h)).2 (key_len (ask_key h)).1
    omega
  · rw [if_neg h]; simp [totH]
theorem eqA_length (H : List (List Int)) (a b : Int) (s : ByteArray) : (eqA H a b s).length ≤ 1048576 := by
  unfold eqA
  by_cases h : askC H a b [s] = 0
  · rw [if_pos h]
    have := cardsPl_len (betQ H a.toNat b.toNat (textCodes s) (textCodes s)) H H.length
    have := (key_len (ask_key h)).1
    omega
  · rw [if_neg h]; simp
theorem eqA_total (H : List (List Int)) (a b : Int) (s : ByteArray) : totH (eqA H a b s) ≤ 1048576 := by
  unfold eqA
  by_cases h : askC H a b [s] = 0
  · rw [if_pos h]
    have := cardsPl_total (q := betQ H a.toNat b.toNat (textCodes s) (textCodes s)) (key_len (ask_key h)).2 (key_len (ask_key h)).1
    omega
  · rw [if_neg h]; simp [totH]
end Go.Proofs.YtdakbbgbglgioaaDoor

/- Merging two sorted decks, as plain functions: the merged deck, and the code. No function of the program is spoken of. -/
namespace Go.Proofs.YtdakbbgbglgioaaDoor
open Go.ChangeShapes Go.WideShapes Go.ChangeAt Go.RowKit

/-- the merged deck: the first one's cards ahead of equal ones of the second -/
def mg (i j : Nat) : List (List Int) → List (List Int) → List (List Int)
  | [], B => B
  | a :: A, [] => a :: A
  | a :: A, b :: B => if cmpTo (partOf a i j) (partOf b i j) (j - i) ≤ 0 then a :: mg i j A (b :: B) else b :: mg i j (a :: A) B
termination_by A B => A.length + B.length
theorem mg_left (i j : Nat) (B : List (List Int)) : mg i j [] B = B := by
  unfold mg
  rfl
theorem mg_right (i j : Nat) (A : List (List Int)) : mg i j A [] = A := by
  cases A with
  | nil => exact mg_left i j []
  | cons a A => unfold mg; rfl
theorem mg_le {i j : Nat} {a b : List Int} {A B : List (List Int)} (h : cmpTo (partOf a i j) (partOf b i j) (j - i) ≤ 0) : mg i j (a :: A) (b :: B) = a :: mg i j A (b :: B) := by
  rw [mg, if_pos h]
theorem mg_gt {i j : Nat} {a b : List Int} {A B : List (List Int)} (h : ¬ cmpTo (partOf a i j) (partOf b i j) (j - i) ≤ 0) : mg i j (a :: A) (b :: B) = b :: mg i j (a :: A) B := by
  rw [mg, if_neg h]
theorem mg_perm (i j : Nat) : ∀ (m : Nat) (A B : List (List Int)), A.length + B.length = m → (mg i j A B).Perm (A ++ B)
  | _, [], B, _ => by rw [mg_left]; exact List.Perm.refl _
  | _, a :: A, [], _ => by rw [mg_right, List.append_nil]
  | 0, a :: A, b :: B, h => by simp at h
  | m + 1, a :: A, b :: B, h => by
    simp only [List.length_cons] at h
    by_cases hc : cmpTo (partOf a i j) (partOf b i j) (j - i) ≤ 0
    · rw [mg_le hc]
      exact List.Perm.cons a (mg_perm i j m A (b :: B) (by simp only [List.length_cons]; omega))
    · rw [mg_gt hc]
      exact (List.Perm.cons b (mg_perm i j m (a :: A) B (by simp only [List.length_cons]; omega))).trans (List.perm_middle.symm)
theorem mg_length (i j : Nat) (A B : List (List Int)) : (mg i j A B).length = A.length + B.length := by
  rw [(mg_perm i j _ A B rfl).length_eq, List.length_append]

/-- the code of two decks and a field -/
def twoC (H G : List (List Int)) (a b : Int) : Int := firstC [keysC H a b, keysC G a b]
/-- whether both have cards, with different numbers of columns -/
def clashB (H G : List (List Int)) : Bool := decide (0 < H.length) && decide (0 < G.length) && !decide (widthH H = widthH G)
def mergeC (H G : List (List Int)) (a b : Int) : Int :=
  if twoC H G a b ≠ 0 then twoC H G a b else if clashB H G = true then 9 else if 0 ≤ stepV H a.toNat b.toNat ∨ 0 ≤ stepV G a.toNat b.toNat then 6 else if 40 < H.length + G.length then 5 else 0
def mergeA (H G : List (List Int)) (a b : Int) : List (List Int) := if mergeC H G a b = 0 then mg a.toNat b.toNat H G else []
theorem two_zero {H G : List (List Int)} {a b : Int} (h : twoC H G a b = 0) : keysC H a b = 0 ∧ keysC G a b = 0 := by
  unfold twoC firstC at h
  rcases keysC_vals H a b with e | e | e | e <;> rcases keysC_vals G a b with f | f | f | f <;> rw [e, f] at h <;> first | exact ⟨e, f⟩ | (exfalso; revert h; decide)
theorem two_vals (H G : List (List Int)) (a b : Int) : twoC H G a b = if keysC H a b = 1 ∨ keysC G a b = 1 then 1 else if keysC H a b = 2 ∨ keysC G a b = 2 then 2 else if keysC H a b = 8 ∨ keysC G a b = 8 then 8 else 0 := by
  unfold twoC firstC
  rcases keysC_vals H a b with e | e | e | e <;> rcases keysC_vals G a b with f | f | f | f <;> rw [e, f] <;> decide
theorem merge_two {H G : List (List Int)} {a b : Int} (h : mergeC H G a b = 0) : twoC H G a b = 0 := by
  unfold mergeC at h
  by_cases h1 : twoC H G a b ≠ 0
  · rw [if_pos h1] at h; exact absurd h h1
  · omega
theorem mergeA_length (H G : List (List Int)) (a b : Int) : (mergeA H G a b).length ≤ 1048576 := by
  unfold mergeA
  by_cases h : mergeC H G a b = 0
  · rw [if_pos h, mg_length]
    obtain ⟨h1, h2⟩ := two_zero (merge_two h)
    have := (key_len h1).1
    have := (key_len h2).1
    omega
  · rw [if_neg h]; simp
theorem deck_total {H : List (List Int)} (h : deckB H = true) : totH H ≤ 800 := by
  have hl := deck_len h
  have key : ∀ (L : List (List Int)), (∀ x ∈ L, x.length ≤ 20) → totH L ≤ L.length * 20 := by
    intro L hL
    unfold totH
    induction L with
    | nil => simp
    | cons x L ih =>
      have h1 := hL x (by simp)
      have h2 := ih fun y hy => hL y (by simp [hy])
      simp only [List.map_cons, List.sum_cons, List.length_cons, Nat.succ_mul]
      omega
  have := key H fun x hx => by
    obtain ⟨k, hk, rfl⟩ := List.getElem_of_mem hx
    obtain ⟨y1, _⟩ := deck_width h (List.getElem?_eq_getElem hk)
    exact (okB_parts y1).2
  omega
theorem mergeA_total (H G : List (List Int)) (a b : Int) : totH (mergeA H G a b) ≤ 1048576 := by
  unfold mergeA
  by_cases h : mergeC H G a b = 0
  · rw [if_pos h]
    obtain ⟨h1, h2⟩ := two_zero (merge_two h)
    have e : totH (mg a.toNat b.toNat H G) = totH H + totH G := by
      unfold totH
      rw [((mg_perm a.toNat b.toNat _ H G rfl).map List.length).sum_nat, List.map_append, List.sum_append]
    have := deck_total (key_len h1).2
    have := deck_total (key_len h2).2
    omega
  · rw [if_neg h]; simp [totH]
end Go.Proofs.YtdakbbgbglgioaaDoor

/- Merging two sorted decks gives the sorted deck of both: as plain functions. No function of the program is spoken of. -/
namespace Go.Proofs.YtdakbbgbglgioaaDoor
open Go.ChangeShapes Go.WideShapes Go.ChangeAt Go.RowKit

/-- two lists of places, merged -/
def mgI (cf : Int → Int → Int) : List Int → List Int → List Int
  | [], B => B
  | a :: A, [] => a :: A
  | a :: A, b :: B => if cf a b ≤ 0 then a :: mgI cf A (b :: B) else b :: mgI cf (a :: A) B
termination_by A B => A.length + B.length
section
variable {cf : Int → Int → Int}
theorem mgI_left (B : List Int) : mgI cf [] B = B := by unfold mgI; rfl
theorem mgI_right (A : List Int) : mgI cf A [] = A := by
  cases A with
  | nil => exact mgI_left []
  | cons a A => unfold mgI; rfl
theorem mgI_le {a b : Int} {A B : List Int} (h : cf a b ≤ 0) : mgI cf (a :: A) (b :: B) = a :: mgI cf A (b :: B) := by rw [mgI, if_pos h]
theorem mgI_gt {a b : Int} {A B : List Int} (h : ¬ cf a b ≤ 0) : mgI cf (a :: A) (b :: B) = b :: mgI cf (a :: A) B := by rw [mgI, if_neg h]
theorem mgI_perm : ∀ (m : Nat) (A B : List Int), A.length + B.length = m → (mgI cf A B).Perm (A ++ B)
  | _, [], B, _ => by rw [mgI_left]; exact List.Perm.refl _
  | _, a :: A, [], _ => by rw [mgI_right, List.append_nil]
  | 0, a :: A, b :: B, h => by simp at h
  | m + 1, a :: A, b :: B, h => by
    simp only [List.length_cons] at h
    by_cases hc : cf a b ≤ 0
    · rw [mgI_le hc]
      exact List.Perm.cons a (mgI_perm m A (b :: B) (by simp only [List.length_cons]; omega))
    · rw [mgI_gt hc]
      exact (List.Perm.cons b (mgI_perm m (a :: A) B (by simp only [List.length_cons]; omega))).trans (List.perm_middle.symm)
/-- the merged list is sorted, if each number of the first is less than each of the second -/
theorem mgI_srt {ok : Int → Prop} (ho : Ord cf ok) : ∀ (m : Nat) (A B : List Int), A.length + B.length = m → (∀ x ∈ A, ok x) → (∀ x ∈ B, ok x) → (∀ x ∈ A, ∀ y ∈ B, x < y) → Srt cf A → Srt cf B → Srt cf (mgI cf A B)
  | _, [], B, _, _, _, _, _, hB => by rw [mgI_left]; exact hB
  | _, a :: A, [], _, _, _, _, hA, _ => by rw [mgI_right]; exact hA
  | 0, a :: A, b :: B, h, _, _, _, _, _ => by simp at h
  | m + 1, a :: A, b :: B, h, oA, oB, hx, hA, hB => by
    simp only [List.length_cons] at h
    obtain ⟨a1, a2⟩ := List.pairwise_cons.1 hA
    obtain ⟨b1, b2⟩ := List.pairwise_cons.1 hB
    have oa := oA a (by simp)
    have ob := oB b (by simp)
    by_cases hc : cf a b ≤ 0
    · rw [mgI_le hc]
      have hab : Bef cf a b := by
        have := hx a (by simp) b (by simp)
        rcases Int.lt_or_eq_of_le hc with h1 | h1
        · exact Or.inl h1
        · exact Or.inr ⟨h1, this⟩
      refine List.pairwise_cons.2 ⟨fun y hy => ?_, mgI_srt ho m A (b :: B) (by simp only [List.length_cons]; omega) (fun x hx => oA x (by simp [hx])) oB (fun x h1 y h2 => hx x (by simp [h1]) y h2) a2 hB⟩
      rcases List.mem_append.1 ((mgI_perm _ A (b :: B) rfl).subset hy) with hy | hy
      · exact a1 y hy
      · rcases List.mem_cons.1 hy with rfl | hy
        · exact hab
        · exact Bef.trans ho oa ob (oB y (by simp [hy])) hab (b1 y hy)
    · rw [mgI_gt hc]
      have hba : Bef cf b a := Or.inl (by have := ho.neg a b oa ob; omega)
      refine List.pairwise_cons.2 ⟨fun y hy => ?_, mgI_srt ho m (a :: A) B (by simp only [List.length_cons]; omega) oA (fun x hx => oB x (by simp [hx])) (fun x h1 y h2 => hx x h1 y (by simp [h2])) hA b2⟩
      rcases List.mem_append.1 ((mgI_perm _ (a :: A) B rfl).subset hy) with hy | hy
      · rcases List.mem_cons.1 hy with rfl | hy
        · exact hba
        · exact Bef.trans ho ob oa (oA y (by simp [hy])) hba (a1 y hy)
      · exact b1 y hy
/-- merging cards by merging their places -/
theorem mg_map {i j : Nat} {f : Int → List Int} (hf : ∀ x y, cmpTo (partOf (f x) i j) (partOf (f y) i j) (j - i) = cf x y) : ∀ (m : Nat) (A B : List Int), A.length + B.length = m → mg i j (A.map f) (B.map f) = (mgI cf A B).map f
  | _, [], B, _ => by rw [mgI_left, List.map_nil, mg_left]
  | _, a :: A, [], _ => by rw [mgI_right, List.map_nil, mg_right]
  | 0, a :: A, b :: B, h => by simp at h
  | m + 1, a :: A, b :: B, h => by
    simp only [List.length_cons] at h
    simp only [List.map_cons]
    by_cases hc : cf a b ≤ 0
    · rw [mgI_le hc, mg_le (by rw [hf]; exact hc), List.map_cons]
      have := mg_map hf m A (b :: B) (by simp only [List.length_cons]; omega)
      rw [List.map_cons] at this
      rw [this]
    · rw [mgI_gt hc, mg_gt (by rw [hf]; exact hc), List.map_cons]
      have := mg_map hf m (a :: A) B (by simp only [List.length_cons]; omega)
      rw [List.map_cons] at this
      rw [this]
end
theorem identL_add (n m : Nat) : identL (n + m) = identL n ++ (identL m).map (fun x => x + (n : Int)) := by
  induction m with
  | zero => simp [identL]
  | succ m ih =>
    rw [Nat.add_succ, identL_succ, ih, identL_succ, List.map_append, ← List.append_assoc]
    simp
    omega
/-- merging two sorted decks is sorting them together -/
theorem mg_sort (H G : List (List Int)) (i j : Nat) : mg i j (sortV H i j) (sortV G i j) = sortV (H ++ G) i j := by
  obtain ⟨pH, sH⟩ := orderV_is H i j
  obtain ⟨pG, sG⟩ := orderV_is G i j
  have okH : ∀ x ∈ orderV H i j, okK H.length x := fun x hx => identL_mem.1 (pH.subset hx)
  have okG : ∀ x ∈ orderV G i j, okK G.length x := fun x hx => identL_mem.1 (pG.subset hx)
  have gl : ∀ x, okK H.length x → (H ++ G)[x.toNat]?.getD [] = H[x.toNat]?.getD [] := fun x hx => by
    rw [List.getElem?_append_left (by have := hx.2; have := hx.1; omega)]
  have gr : ∀ x, okK G.length x → (H ++ G)[(x + (H.length : Int)).toNat]?.getD [] = G[x.toNat]?.getD [] := fun x hx => by
    rw [List.getElem?_append_right (by have := hx.1; omega)]
    congr 2
    have := hx.1
    omega
  have e1 : sortV H i j = (orderV H i j).map fun x => (H ++ G)[x.toNat]?.getD [] := by
    unfold sortV
    exact List.map_congr_left fun x hx => (gl x (okH x hx)).symm
  have e2 : sortV G i j = ((orderV G i j).map fun x => x + (H.length : Int)).map fun x => (H ++ G)[x.toNat]?.getD [] := by
    unfold sortV
    rw [List.map_map]
    exact List.map_congr_left fun x hx => (gr x (okG x hx)).symm
  have hsr : Srt (cfK (H ++ G) i j) (mgI (cfK (H ++ G) i j) (orderV H i j) ((orderV G i j).map fun x => x + (H.length : Int))) := by
    refine mgI_srt (ord_K (H ++ G) i j (H ++ G).length) _ _ _ rfl (fun x hx => ?_) (fun x hx => ?_) (fun x hx y hy => ?_) ?_ ?_
    · have := okH x hx
      rw [okK, List.length_append]
      have h1 := this.1
      have h2 := this.2
      omega
    · obtain ⟨y, hy, rfl⟩ := List.mem_map.1 hx
      have := okG y hy
      rw [okK, List.length_append]
      have h1 := this.1
      have h2 := this.2
      omega
    · obtain ⟨z, hz, rfl⟩ := List.mem_map.1 hy
      have h1 := (okH x hx).2
      have h2 := (okG z hz).1
      omega
    · unfold Srt at sH ⊢
      refine List.Pairwise.imp_of_mem (fun {x y} hx hy h => ?_) sH
      unfold Bef cfK cmpK at h ⊢
      rw [gl x (okH x hx), gl y (okH y hy)]
      exact h
    · unfold Srt at sG ⊢
      rw [List.pairwise_map]
      refine List.Pairwise.imp_of_mem (fun {x y} hx hy h => ?_) sG
      unfold Bef cfK cmpK at h ⊢
      rw [gr x (okG x hx), gr y (okG y hy)]
      rcases h with h | ⟨h, h2⟩
      · exact Or.inl h
      · exact Or.inr ⟨h, by omega⟩
  have hpm : (mgI (cfK (H ++ G) i j) (orderV H i j) ((orderV G i j).map fun x => x + (H.length : Int))).Perm (identL (H ++ G).length) := by
    refine (mgI_perm _ _ _ rfl).trans ?_
    rw [List.length_append, identL_add]
    exact pH.append (pG.map _)
  rw [e1, e2, mg_map (cf := cfK (H ++ G) i j) (fun x y => rfl) _ _ _ rfl, ← orderV_eq hpm hsr]
  rfl
/-- two decks of one width, one behind the other -/
theorem join_code {H G : List (List Int)} {a b : Int} (h1 : keysC H a b = 0) (h2 : keysC G a b = 0) (hw : H.length ≠ 0 → G.length ≠ 0 → widthH H = widthH G) (hl : H.length + G.length ≤ 40) : keysC (H ++ G) a b = 0 := by
  by_cases hH : H.length = 0
  · rw [List.eq_nil_of_length_eq_zero hH, List.nil_append]
    exact h2
  by_cases hG : G.length = 0
  · rw [List.eq_nil_of_length_eq_zero hG, List.append_nil]
    exact h1
  have hww := hw hH hG
  obtain ⟨i, j, rfl, rfl, hij, hj, hv, hk⟩ := keysC_zero h1
  obtain ⟨i', j', e1, e2, _, _, hv2, hk2⟩ := keysC_zero h2
  obtain rfl : i = i' := by omega
  obtain rfl : j = j' := by omega
  have hz : firstZ (H ++ G) = widthH H := by
    rw [widthH, if_neg hH, firstZ, firstZ, List.getElem?_append_left (by omega)]
  have hwj : widthH (H ++ G) = widthH H := by
    rw [widthH, if_neg (by rw [List.length_append]; omega), hz]
  have hd : deckB (H ++ G) = true := by
    rw [deckB, Bool.and_eq_true, List.all_eq_true, decide_eq_true_eq]
    refine ⟨fun y hy => ?_, by rw [List.length_append]; exact hl⟩
    rw [goodB, hz, Bool.and_eq_true, decide_eq_true_eq]
    rcases List.mem_append.1 hy with hy | hy
    · obtain ⟨q, hq⟩ := List.getElem?_of_mem hy
      obtain ⟨y1, y2⟩ := deck_width hv hq
      exact ⟨y1, by rw [y2]⟩
    · obtain ⟨q, hq⟩ := List.getElem?_of_mem hy
      obtain ⟨y1, y2⟩ := deck_width hv2 hq
      exact ⟨y1, by rw [y2, hww]⟩
  have hkk : keysB (H ++ G) i j = true := by
    rw [keysB, List.all_eq_true] at hk hk2 ⊢
    intro y hy
    rcases List.mem_append.1 hy with hy | hy
    · exact hk y hy
    · exact hk2 y hy
  unfold keysC
  rw [if_neg (by simp [hd]), hwj, if_neg (by rw [fieldB]; simp; omega), Int.toNat_natCast, Int.toNat_natCast, if_neg (by simp [hkk])]
/-- a sorted deck is its own sorted deck -/
theorem sortV_idem (H : List (List Int)) (i j : Nat) : sortV (sortV H i j) i j = sortV H i j := by
  have hl := sortV_length H i j
  have hs : Srt (cfK (sortV H i j) i j) (identL (sortV H i j).length) := by
    unfold Srt
    refine List.Pairwise.imp_of_mem (fun {x y} hx hy h => ?_) (identL_rise _)
    have ox := identL_mem.1 hx
    have oy := identL_mem.1 hy
    rw [hl] at ox oy
    obtain ⟨k, rfl⟩ : ∃ k : Nat, x = k := ⟨x.toNat, by have := ox.1; omega⟩
    obtain ⟨l, rfl⟩ : ∃ k : Nat, y = k := ⟨y.toNat, by have := oy.1; omega⟩
    obtain ⟨p, hp, hp1, _⟩ := sortV_at (H := H) (i := i) (j := j) (k := k) (by have := ox.2; omega)
    obtain ⟨q, hq, hq1, _⟩ := sortV_at (H := H) (i := i) (j := j) (k := l) (by have := oy.2; omega)
    have hb : Bef (cfK H i j) p q := by
      have hs := (orderV_is H i j).2
      rw [Srt, List.pairwise_iff_getElem] at hs
      obtain ⟨h1, e1⟩ := List.getElem?_eq_some_iff.1 hp
      obtain ⟨h2, e2⟩ := List.getElem?_eq_some_iff.1 hq
      have := hs k l h1 h2 (by omega)
      rwa [e1, e2] at this
    have hc := sortV_cmp hp hq
    unfold Bef
    rw [show cfK (sortV H i j) i j k l = cmpK (sortV H i j) i j k l by unfold cfK; rw [Int.toNat_natCast, Int.toNat_natCast], hc]
    rcases hb with hb | ⟨hb, _⟩
    · exact Or.inl hb
    · exact Or.inr ⟨hb, h⟩
  have he := orderV_eq (H := sortV H i j) (i := i) (j := j) (List.Perm.refl _) hs
  rw [sortV, he]
  apply List.ext_getElem?
  intro k
  rw [List.getElem?_map]
  unfold identL
  rw [List.getElem?_map]
  by_cases hk : k < (sortV H i j).length
  · rw [List.getElem?_range hk, Option.map_some, Option.map_some, Int.toNat_natCast, List.getElem?_eq_getElem hk]
    rfl
  · rw [List.getElem?_eq_none (by simpa using hk), List.getElem?_eq_none (by simpa using hk)]
    rfl
theorem mg_sorted (H G : List (List Int)) (i j : Nat) : mg i j (sortV H i j) (sortV G i j) = sortV (sortV H i j ++ sortV G i j) i j := by
  have := mg_sort (sortV H i j) (sortV G i j) i j
  rwa [sortV_idem, sortV_idem] at this
/-- merging two sorted decks of one width, of no more than 40 cards -/
theorem merge_sorted {H G : List (List Int)} {a b : Int} (h1 : keysC H a b = 0) (h2 : keysC G a b = 0) (hw : H.length ≠ 0 → G.length ≠ 0 → widthH H = widthH G) (hl : H.length + G.length ≤ 40) :
    mergeC (sortV H a.toNat b.toNat) (sortV G a.toNat b.toNat) a b = 0 ∧ mergeA (sortV H a.toNat b.toNat) (sortV G a.toNat b.toNat) a b = sortV (sortV H a.toNat b.toNat ++ sortV G a.toNat b.toNat) a.toNat b.toNat := by
  have k1 := sortV_code h1
  have k2 := sortV_code h2
  have ht : twoC (sortV H a.toNat b.toNat) (sortV G a.toNat b.toNat) a b = 0 := by rw [two_vals, k1, k2]; simp
  have w1 := (sortV_width (i := a.toNat) (j := b.toNat) (key_len h1).2).1
  have w2 := (sortV_width (i := a.toNat) (j := b.toNat) (key_len h2).2).1
  have hc : clashB (sortV H a.toNat b.toNat) (sortV G a.toNat b.toNat) = false := by
    unfold clashB
    rw [sortV_length, sortV_length, w1, w2]
    by_cases hH : H.length = 0
    · simp [hH]
    · by_cases hG : G.length = 0
      · simp [hG]
      · simp [hw hH hG]
  have hm : mergeC (sortV H a.toNat b.toNat) (sortV G a.toNat b.toNat) a b = 0 := by
    unfold mergeC
    rw [if_neg (by simp [ht]), if_neg (by simp [hc]), if_neg (by rw [sortV_step, sortV_step]; omega), if_neg (by rw [sortV_length, sortV_length]; omega)]
  refine ⟨hm, ?_⟩
  unfold mergeA
  rw [if_pos hm, mg_sorted]
/-- one card of a deck, as a deck -/
theorem one_code {G : List (List Int)} {a b : Int} {x : List Int} (h : keysC G a b = 0) (hx : x ∈ G) : keysC [x] a b = 0 ∧ widthH [x] = widthH G := by
  obtain ⟨i, j, rfl, rfl, hij, hj, hv, hk⟩ := keysC_zero h
  obtain ⟨q, hq⟩ := List.getElem?_of_mem hx
  obtain ⟨y1, y2⟩ := deck_width hv hq
  have hw : widthH [x] = widthH G := by rw [← y2]; simp [widthH, firstZ]
  refine ⟨?_, hw⟩
  have hd : deckB [x] = true := by
    rw [deckB, Bool.and_eq_true, List.all_eq_true, decide_eq_true_eq]
    refine ⟨fun y hy => ?_, by simp⟩
    obtain rfl : y = x := by simpa using hy
    rw [goodB, Bool.and_eq_true, decide_eq_true_eq]
    exact ⟨y1, by simp [firstZ]⟩
  have hk1 : keysB [x] i j = true := by
    rw [keysB, List.all_eq_true] at hk ⊢
    intro y hy
    obtain rfl : y = x := by simpa using hy
    exact hk y hx
  unfold keysC
  rw [if_neg (by simp [hd]), hw, if_neg (by rw [fieldB]; simp; omega), Int.toNat_natCast, Int.toNat_natCast, if_neg (by simp [hk1])]
theorem step_one (x : List Int) (i j : Nat) : stepV [x] i j < 0 := by
  unfold stepV
  simp [stepFrom]
/-- a card's place in a sorted deck is there -/
theorem merge_one {H G : List (List Int)} {a b : Int} {x : List Int} (h1 : keysC H a b = 0) (h2 : keysC G a b = 0) (hx : x ∈ G) (hw : H.length ≠ 0 → widthH H = widthH G) (hl : H.length + 1 ≤ 40) : mergeC (sortV H a.toNat b.toNat) [x] a b = 0 := by
  have k1 := sortV_code h1
  obtain ⟨k2, w2⟩ := one_code h2 hx
  have ht : twoC (sortV H a.toNat b.toNat) [x] a b = 0 := by rw [two_vals, k1, k2]; simp
  have w1 := (sortV_width (i := a.toNat) (j := b.toNat) (key_len h1).2).1
  have hc : clashB (sortV H a.toNat b.toNat) [x] = false := by
    unfold clashB
    rw [sortV_length, w1, w2]
    by_cases hH : H.length = 0
    · simp [hH]
    · simp [hw hH]
  have := step_one x a.toNat b.toNat
  unfold mergeC
  rw [if_neg (by simp [ht]), if_neg (by simp [hc]), if_neg (by rw [sortV_step]; omega), if_neg (by rw [sortV_length, List.length_singleton]; omega)]
/-- no card is lost -/
theorem mgI_length (cf : Int → Int → Int) (A B : List Int) : (mgI cf A B).length = A.length + B.length := by
  rw [(mgI_perm _ A B rfl).length_eq, List.length_append]
end Go.Proofs.YtdakbbgbglgioaaDoor
