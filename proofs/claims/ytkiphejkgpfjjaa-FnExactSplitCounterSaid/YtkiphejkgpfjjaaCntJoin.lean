/- slices.Concat of two lists of numbers; spec.JoinCounters and impl.JoinCounters give the counter with the wheels of both, or the code, for all counters of at most 1048576 digits: contracts. -/
import Derived.Test.YtkiphejkgpfjjaaCntCompl
import Derived.Lib.AppendZerosOnto
import Derived.Maps.AppendAt
import Derived.Deep.AppendLies
namespace Go.Proofs.Ytkiphejkgpfjjaa
open Go.ChangeShapes Go.WideShapes Go.ChangeAt Go.RowKit

/-- the code of two counters -/
def joinKC (xs ys : List Int) : Int := if okK xs = false then 1 else if okK ys = false then 1 else if 12 < xs.length + ys.length then 5 else 0
def joinKA (xs ys : List Int) : List Int := if joinKC xs ys = 0 then xs ++ ys else []
theorem joinKC_cases (xs ys : List Int) : (joinKC xs ys = 1 ∧ okK xs = false) ∨ (joinKC xs ys = 1 ∧ okK xs = true ∧ okK ys = false) ∨ (joinKC xs ys = 5 ∧ okK xs = true ∧ okK ys = true ∧ 12 < xs.length + ys.length) ∨ (joinKC xs ys = 0 ∧ okK xs = true ∧ okK ys = true ∧ xs.length + ys.length ≤ 12) := by
  unfold joinKC
  cases okK xs <;> cases okK ys <;> by_cases h : 12 < xs.length + ys.length <;> simp [h] <;> omega
theorem joinKA_length (xs ys : List Int) : (joinKA xs ys).length ≤ 1048576 := by
  unfold joinKA
  split
  · rename_i h
    rcases joinKC_cases xs ys with ⟨e, _⟩ | ⟨e, _⟩ | ⟨e, _⟩ | ⟨_, _, _, hl⟩
    · omega
    · omega
    · omega
    · rw [List.length_append]; omega
  · simp

/-- a counter of new memory and OK, or no counter and a code -/
def GivesJ (L : List Int) (a : Int) (w : World) (e : Ending) (w' : World) : Prop := (a = 0 ∧ GivesCard L w e w') ∨ (a ≠ 0 ∧ GivesCode a w e w')
theorem GivesJ.kc {L : List Int} {a : Int} {w w' : World} {e : Ending} (h : GivesJ L a w e w') (h0 : a ≠ 0 → L = []) : GivesKC L a w e w' := by
  rcases h with ⟨rfl, h⟩ | ⟨hne, h⟩
  · exact h.kc
  · rw [h0 hne]; exact h.kc

/-- a list of the call's own, with its room -/
def GivesOwn (xs : List Int) (w : World) (e : Ending) (w' : World) : Prop :=
  ∃ v, e = .returned v ∧ Below w.heap.size w w' ∧ w'.ownsRow w.heap.size 2 1 v xs.length (xs.map (Value.int .i64))

theorem l00OwnR_any (A : Option Addr) (c : Nat) (xs : List Int) (B : Nat) (w : World) (h : Ints w B A xs) (hB : B ≤ w.heap.size) (h0 : 0 < xs.length) (hn : xs.length ≤ 1048576) :
    Calls Try.prog 43 #[.slice A xs.length c] w (GivesOwn xs w) := by
  obtain ⟨i0, hi0, hz0, hz1, hz2⟩ := info_parts info_int64
  obtain ⟨b, off, rfl, hb, hcell⟩ := h h0
  have HN := Lib.hid (news_of (fun i hi => (World.cell?_alloc_lt w (.cells #[] 2) ⟨b, off + i, none⟩ (Nat.lt_of_lt_of_le hb hB)).trans (hcell i hi)))
  have HM := Lib.hid (maps_length xs)
  have H1 := Lib.hid (maps_one xs)
  have HO := Lib.hid (empty_owned w)
  clear hcell h
  go_enter Try.func43, Try.ntmps43
  go_wp2_with (at_builtin; refine wpList_append_own _ rfl (.tmp 3) (.tmp 4) 22 rfl w.heap.size 2 i0 (.int .i64 0) 1 8 Try.underlying22 hi0 hz0 hz1 hz2 rfl (by decide) (.slice (some ⟨w.heap.size, 0, none⟩) 0 0) 0 [] rfl HO.out ⟨b, off, none⟩ xs.length c (xs.map (Value.int .i64)) rfl HM.out HN.out H1.out ?c3 ?c4 ?c5 ?_; rotate_left 3; intro v1 w1 hown hgrow hiff; simp only [Nat.zero_add, List.nil_append] at hown; have B1 := Lib.hid (Below.grown (below_box w _) hgrow (by simp) (fun k hk => by simp [Value.ownBlock] at hk; omega)); have HR := Lib.hid hown; clear hown hgrow hiff)
  case c3 => unfold maxLen; omega
  case c4 => omega
  case c5 => simp
  go_ret
  exact ⟨_, rfl, B1.out, HR.out⟩

theorem growInts_any (n : Nat) (w : World) (h0 : 0 < n) (hn : n ≤ 1048577) :
    Calls Try.prog 48 #[.slice none 0 0, .int .i64 n] w (GivesOwn [] w) := by
  obtain ⟨i0, hi0, hz0, hz1, hz2⟩ := info_parts info_int64
  have hs0 : 0 < i0.size := by omega
  have hge := grownCap_ge w n 0 2
  have hle := grownCap_le_maxLen w n 0 2 (by unfold maxLen; omega)
  have hrz : ∃ (G : Nat) (cs : Array Value), n ≤ G ∧ G ≤ maxLen ∧ cs.size = G * 1 ∧ ∀ ty, (Builtin.append_ #[22, 3] ty #[.slice none 0 0, .int .i64 (n : Int)]).run Try.prog w = .ok (.slice (some ⟨w.heap.size, 0, none⟩) n G) (w.drew.alloc (.cells cs 2)) := by
    have h := fun ty => Lib.run_append_grow_zeros w 22 3 ty 2 i0 _ .i64 .i64 Try.underlying22 Try.underlying3 hi0 hz0 none 0 0 [] (run_firstCells_none w.drew i0.size 0 0 0) n h0 hs0 (by omega) (by omega) (by rw [hz2]; omega) (growslice_fits (by omega) (by rw [hz2]; omega))
    simp only [Nat.zero_add] at h
    exact ⟨_, _, hge, hle, by simp [size_zeroCells, Value.cells]; omega, h⟩
  obtain ⟨G, cs, hG1, hG2, hcs, hrun⟩ := hrz
  unfold maxLen at hG2
  have hR := Lib.hid (show (w.drew.alloc (.cells cs 2)).ownsRow w.heap.size 2 1 (.slice (some ⟨w.heap.size, 0, none⟩) 0 G) 0 [] from ⟨rfl, Or.inr ⟨w.heap.size, G, cs, rfl, Nat.le_refl _, heap_alloc_new w.drew _, Nat.zero_le _, by unfold maxLen; omega, hcs, by simp⟩⟩)
  have h1 : ¬ ((n : Int) < 0) := by omega
  have h2 : (0 : Int) < (n : Int) := by omega
  clear hi0 hz0 hz1 hz2 hs0 hge hle hcs
  go_enter Try.func48, Try.ntmps48
  go_wp2_with (at_builtin; refine Lib.wpList_append_run _ rfl _ _ _ _ rfl _ _ rfl rfl _ _ (hrun _) ?_)
  go_ret
  exact ⟨_, rfl, (Below.drew (Below.refl _ _)).alloc (Nat.le_refl _) _, hR.out⟩

theorem own_cell2 {w w' : World} {base n size : Nat} {et : TypeId} {v : Value} {xs : List Value} (hgrow : w.grownBy w' v.ownBlock) (hown : w.ownsRow base et size v n xs) {p : Addr} {u : Value} (hc : w.cell? p = some u) (hp : p.block < base) : w'.cell? p = some u := by
  rw [hgrow.cell_far _ (World.block_lt_of_cell? _ _ hc) (fun e => by have := (hown.lt _ e.symm).1; omega)]
  exact hc
theorem own_frozen2 {w w' : World} {base n size : Nat} {et : TypeId} {v : Value} {xs : List Value} (hgrow : w.grownBy w' v.ownBlock) (hown : w.ownsRow base et size v n xs) {p : Addr} {u : Value} (hc : w.cell? p = some u) (hf : w.frozen? p = false) (hp : p.block < base) : w'.frozen? p = false := by
  rw [World.frozen?_of_block (hgrow.block p.block (World.block_lt_of_cell? _ _ hc) (fun e => by have := (hown.lt _ e.symm).1; omega))]
  exact hf

set_option maxHeartbeats 1000000 in
theorem concatInts_any (A A' : Option Addr) (c c' g3 : Nat) (xs ys : List Int) (B B' : Nat) (w : World) (h : Ints w B A xs) (h' : Ints w B' A' ys) (hB : B ≤ w.heap.size) (hB' : B' ≤ w.heap.size) (c0 : w.cell? ⟨g3, 0, none⟩ = some (.slice A xs.length c)) (c1 : w.cell? ⟨g3, 1, none⟩ = some (.slice A' ys.length c')) (h0 : 0 < xs.length) (h0' : 0 < ys.length) (hn : xs.length + ys.length ≤ 1048576) :
    Calls Try.prog 45 #[.slice (some ⟨g3, 0, none⟩) 2 2] w (GivesOwn (xs ++ ys) w) := by
  obtain ⟨i0, hi0, hz0, hz1, hz2⟩ := info_parts info_int64
  have hg := fun W => growInts_any (xs.length + ys.length) W (by omega) (by omega)
  have hl2 : (xs ++ ys).length = xs.length + ys.length := by simp
  have HLC := Lib.hid (maps_length xs)
  have HLD := Lib.hid (maps_length ys)
  obtain ⟨b, off, rfl, hb, hcell⟩ := h h0
  obtain ⟨b', off', rfl, hb', hcell'⟩ := h' h0'
  have HS1 : Hid (∀ W, Below w.heap.size w W → ∀ j u, (xs.map (Value.int .i64))[j]? = some u → W.cell? ((⟨b, off, none⟩ : Addr).add j) = some u) := fun W hW => news_of (fun i hi => (hW.cell (p := ⟨b, off + i, none⟩) (by show b < _; omega)).trans (hcell i hi))
  have HS2 : Hid (∀ W, Below w.heap.size w W → ∀ j u, (ys.map (Value.int .i64))[j]? = some u → W.cell? ((⟨b', off', none⟩ : Addr).add j) = some u) := fun W hW => news_of (fun i hi => (hW.cell (p := ⟨b', off' + i, none⟩) (by show b' < _; omega)).trans (hcell' i hi))
  have H1 := Lib.hid (maps_one xs)
  have H12 := Lib.hid (maps_one ys)
  obtain ⟨n, hN⟩ : ∃ n, xs.length = n := ⟨_, rfl⟩
  obtain ⟨m, hM⟩ : ∃ m, ys.length = m := ⟨_, rfl⟩
  rw [hN] at hg hl2 HLC hn c0 h0
  rw [hM] at hg hl2 HLD hn c1 h0'
  unfold GivesOwn at hg
  simp only [Int.natCast_add] at hg
  have HG := Lib.hid hg
  have HL2 := Lib.hid hl2
  clear h h' hg hl2 hN hM hcell hcell'
  go_enter Try.func45, Try.ntmps45
  go_wp2
  go_loop [3, 11] (fun s i => (i = .int .i64 0 ∧ s = .int .i64 0) ∨ (i = .int .i64 1 ∧ s = .int .i64 n) ∨ (i = .int .i64 2 ∧ s = .int .i64 ((n : Int) + m))) (fun _ i => 2 - (intOf i).toNat)
  case atStart => exact Or.inl ⟨rfl, rfl⟩
  case round =>
    rcases hrel with ⟨rfl, rfl⟩ | ⟨rfl, rfl⟩ | ⟨rfl, rfl⟩
    · have hn0 : ¬ ((n : Int) < 0) := by omega
      go_wp2
      go_round
      case rel => exact Or.inr (Or.inl ⟨rfl, by simp⟩)
      case measure => simp [intOf]
    · have hn0 : ¬ ((n : Int) + (m : Int) < 0) := by omega
      go_wp2
      go_round
      case rel => exact Or.inr (Or.inr ⟨rfl, rfl⟩)
      case measure => simp [intOf]
    · go_wp2_with fail
      refine (HG.out _).mono ?_
      rintro e w1 ⟨v, rfl, hb, hown⟩
      have B1 := Lib.hid hb
      have O1 := Lib.hid hown
      have x0 := cell_kept c0 hb
      have x1 := cell_kept c1 hb
      have L0 := Lib.hid (World.block_lt_of_cell? _ _ c0)
      have hg0 : g3 < w.heap.size := L0.out
      have hsz := hb.size
      clear hb hown
      go_wp2
      go_loopw [6, 27] (fun v6 i wr => Hid (Below w.heap.size w wr) ∧ Hid (w1.heap.size ≤ wr.heap.size) ∧ ((i = .int .i64 0 ∧ Hid (wr.ownsRow w.heap.size 2 1 v6 0 [])) ∨ (i = .int .i64 1 ∧ Hid (wr.ownsRow w.heap.size 2 1 v6 n (xs.map (Value.int .i64)))) ∨ (i = .int .i64 2 ∧ Hid (wr.ownsRow w.heap.size 2 1 v6 (n + m) (xs.map (Value.int .i64) ++ ys.map (Value.int .i64)))))) (fun _ i _ => 2 - (intOf i).toNat)
      case atStart => exact ⟨B1.out, Nat.le_refl _, Or.inl ⟨rfl, O1.out⟩⟩
      case round =>
        obtain ⟨HB, HS, hr⟩ := hrel
        have hss := HS.out
        have y0 := cell_kept c0 HB.out
        have y1 := cell_kept c1 HB.out
        have S1 := Lib.hid (HS1.out wr HB.out)
        have S2 := Lib.hid (HS2.out wr HB.out)
        rcases hr with ⟨rfl, HO⟩ | ⟨rfl, HO⟩ | ⟨rfl, HO⟩
        · go_wp2_with (at_builtin; refine wpList_append_own _ rfl _ _ 22 rfl w.heap.size 2 i0 _ 1 8 Try.underlying22 hi0 hz0 hz1 hz2 rfl (by decide) _ _ _ rfl HO.out ⟨b, off, none⟩ n c (xs.map (Value.int .i64)) rfl HLC.out S1.out H1.out ?c1 ?c2 ?c3 ?_; rotate_left 3; intro v' w9 hown hgrow _; have HO9 := Lib.hid hown; have HB9 := Lib.hid (HB.out.grown hgrow (by omega) (fun k hk => (HO.out.lt k hk).1)); have HS9 := hgrow.size; clear hown hgrow)
          case c1 => unfold maxLen; omega
          case c2 => omega
          case c3 => omega
          go_roundw
          case rel => exact ⟨HB9.out, Nat.le_trans hss HS9, Or.inr (Or.inl ⟨rfl, by simpa [Hid] using HO9.out⟩)⟩
          case measure => simp [intOf]
        · go_wp2_with (at_builtin; refine wpList_append_own _ rfl _ _ 22 rfl w.heap.size 2 i0 _ 1 8 Try.underlying22 hi0 hz0 hz1 hz2 rfl (by decide) _ _ _ rfl HO.out ⟨b', off', none⟩ m c' (ys.map (Value.int .i64)) rfl HLD.out S2.out H12.out ?c1 ?c2 ?c3 ?_; rotate_left 3; intro v' w9 hown hgrow _; have HO9 := Lib.hid hown; have HB9 := Lib.hid (HB.out.grown hgrow (by omega) (fun k hk => (HO.out.lt k hk).1)); have HS9 := hgrow.size; clear hown hgrow)
          case c1 => unfold maxLen; omega
          case c2 => omega
          case c3 => omega
          go_roundw
          case rel => exact ⟨HB9.out, Nat.le_trans hss HS9, Or.inr (Or.inr ⟨rfl, HO9.out⟩)⟩
          case measure => simp [intOf]
        · go_wp2
          go_ret
          exact ⟨_, rfl, HB.out, by rw [HL2.out, List.map_append]; exact HO.out⟩

set_option maxRecDepth 100000 in
set_option maxHeartbeats 2000000 in
theorem specJoinK_any (A A' : Option Addr) (c c' : Nat) (xs ys : List Int) (B B' : Nat) (w : World) (h : Ints w B A xs) (h' : Ints w B' A' ys) (hB : B ≤ w.heap.size) (hB' : B' ≤ w.heap.size) (hn : xs.length ≤ 1048576) (hn' : ys.length ≤ 1048576) :
    Calls Try.prog 24 #[.agg #[.slice A xs.length c], .agg #[.slice A' ys.length c']] w (GivesJ (joinKA xs ys) (joinKC xs ys) w) := by
  obtain ⟨i0, hi0, hz0, hz1, hz2⟩ := info_parts info_int
  have e3 := below_boxed (below_boxed (below_box w (.cells #[.slice A xs.length c] 27)) (.cells #[.slice A' ys.length c'] 27)) (.cells #[.slice none 0 0] 27)
  have i1 := h.below (e3.mono hB)
  have i2 := h'.below (e3.mono hB')
  have o1 := l11Ok_any A c xs B w.heap.size 0 _ (by simp [go_sem]) i1 hn
  have o2 := l11Ok_any A' c' ys B' (w.heap.size + 1) 0 _ (by simp [go_sem]) i2 hn'
  have hj := joinKC_cases xs ys
  have hA : joinKC xs ys = 0 → joinKA xs ys = xs ++ ys := fun e => by simp [joinKA, e]
  have hA' : joinKC xs ys ≠ 0 → joinKA xs ys = [] := fun e => by simp [joinKA, e]
  have tok : True := trivial
  rcases hj with ⟨e', hv⟩ | ⟨e', hv, hv'⟩ | ⟨e', hv, hv', hl⟩ | ⟨e', hv, hv', hl⟩
  · rw [hA' (by omega), e']
    rw [hv] at o1
    have H1 := Lib.hid o1
    have E3 := Lib.hid e3
    clear o1 o2 i1 i2 h h' e' hv hA hA' e3
    go_enter Try.func24, Try.ntmps24
    go_wp2_with (go_at_call 27; refine H1.out.mono ?_; rintro e w' ⟨rfl, rfl⟩)
    exact bodyPost_ret (v := .tuple #[.agg #[.slice none 0 0], .int .i64 1]) (by simp [results, Try.results24, go_sem]) rfl (Or.inr ⟨by decide, rfl, E3.out⟩)
  · rw [hA' (by omega), e']
    rw [hv] at o1
    rw [hv'] at o2
    have H1 := Lib.hid o1
    have H2 := Lib.hid o2
    have E3 := Lib.hid e3
    clear o1 o2 i1 i2 h h' e' hv hv' hA hA' e3
    go_enter Try.func24, Try.ntmps24
    go_wp2_with (first | (go_at_call 27; have _t := tok; refine H1.out.mono ?_; rintro e w' ⟨rfl, rfl⟩; clear tok _t) | (go_at_call 27; refine H2.out.mono ?_; rintro e w' ⟨rfl, rfl⟩))
    exact bodyPost_ret (v := .tuple #[.agg #[.slice none 0 0], .int .i64 1]) (by simp [results, Try.results24, go_sem]) rfl (Or.inr ⟨by decide, rfl, E3.out⟩)
  · rw [hA' (by omega), e']
    rw [hv] at o1
    rw [hv'] at o2
    have hw1 : IntKind.i64.wrap ((xs.length : Int) + ys.length) = (xs.length : Int) + ys.length := IntWalk.i64_in _ (by omega)
    have hgt : (12 : Int) < (xs.length : Int) + ys.length := by omega
    have H1 := Lib.hid o1
    have H2 := Lib.hid o2
    have E3 := Lib.hid e3
    obtain ⟨n, hN⟩ : ∃ n, xs.length = n := ⟨_, rfl⟩
    obtain ⟨m, hM⟩ : ∃ m, ys.length = m := ⟨_, rfl⟩
    rw [hN, hM] at H1 H2 hw1 hgt E3 ⊢
    clear o1 o2 i1 i2 h h' e' hv hv' hA hA' e3 hN hM hl hn hn'
    go_enter Try.func24, Try.ntmps24
    go_wp2_with (first | (go_at_call 27; have _t := tok; refine H1.out.mono ?_; rintro e w' ⟨rfl, rfl⟩; clear tok _t) | (go_at_call 27; refine H2.out.mono ?_; rintro e w' ⟨rfl, rfl⟩))
    exact bodyPost_ret (v := .tuple #[.agg #[.slice none 0 0], .int .i64 5]) (by simp [results, Try.results24, go_sem]) rfl (Or.inr ⟨by decide, rfl, E3.out⟩)
  · rw [hA e', e']
    rw [hv] at o1
    rw [hv'] at o2
    obtain ⟨_, h1, h12⟩ := okK_parts hv
    obtain ⟨_, h1', h12'⟩ := okK_parts hv'
    have hw1 : IntKind.i64.wrap ((xs.length : Int) + ys.length) = (xs.length : Int) + ys.length := IntWalk.i64_in _ (by omega)
    have hgt : ¬ (12 : Int) < (xs.length : Int) + ys.length := by omega
    have how := fun W (hW : Below w.heap.size w W) => l00OwnR_any A c xs B W (h.below (hW.mono hB)) (Nat.le_trans hB hW.size) (by omega) hn
    unfold GivesOwn at how
    have hln : (xs ++ ys).length = xs.length + ys.length := List.length_append
    obtain ⟨b', off', rfl, hb', hcell'⟩ := h' (by omega)
    have HS2 : Hid (∀ W, Below w.heap.size w W → ∀ j u, (ys.map (Value.int .i64))[j]? = some u → W.cell? ((⟨b', off', none⟩ : Addr).add j) = some u) := fun W hW => news_of (fun i hi => (hW.cell (p := ⟨b', off' + i, none⟩) (by show b' < _; omega)).trans (hcell' i hi))
    have HLD := Lib.hid (maps_length ys)
    have H12 := Lib.hid (maps_one ys)
    obtain ⟨n, hN⟩ : ∃ n, xs.length = n := ⟨_, rfl⟩
    obtain ⟨m, hM⟩ : ∃ m, ys.length = m := ⟨_, rfl⟩
    rw [hN, hM] at hw1 hgt hln e3
    rw [hN] at how o1 h1 ⊢
    rw [hM] at HLD o1 o2 h1' ⊢
    rw [hN] at o2
    obtain ⟨W3, hW3⟩ : ∃ W, ((w.alloc (.cells #[.slice A n c] 27)).alloc (.cells #[.slice (some ⟨b', off', none⟩) m c'] 27)).alloc (.cells #[.slice none 0 0] 27) = W := ⟨_, rfl⟩
    have c0 : W3.cell? ⟨w.heap.size, 0, none⟩ = some (.slice A n c) := by rw [← hW3]; simp [go_sem]
    have c1 : W3.cell? ⟨w.heap.size + 1, 0, none⟩ = some (.slice (some ⟨b', off', none⟩) m c') := by rw [← hW3]; simp [go_sem]
    have r0 : W3.cell? ⟨w.heap.size + 2, 0, none⟩ = some (.slice none 0 0) := by rw [← hW3]; simp [go_sem]
    have f0 : W3.frozen? ⟨w.heap.size + 2, 0, none⟩ = false := by rw [← hW3]; simp [go_sem]
    have sz3 : W3.heap.size = w.heap.size + 3 := by rw [← hW3]; simp
    rw [hW3] at o1 o2 e3
    have H1 := Lib.hid o1
    have H2 := Lib.hid o2
    have E3 := Lib.hid e3
    have HOW := Lib.hid (how W3.drew e3.drew)
    have C1 := Lib.hid c1
    have R0 := Lib.hid r0
    have F0 := Lib.hid f0
    have SZ := Lib.hid sz3
    have HLN := Lib.hid hln
    have h63 : n + m ≤ maxLen := by unfold maxLen; omega
    have h8 : (n + m) * 8 ≤ 140737488355328 := by omega
    have c0d : W3.drew.cell? ⟨w.heap.size, 0, none⟩ = some (.slice A n c) := c0
    have c1d : W3.drew.cell? ⟨w.heap.size + 1, 0, none⟩ = some (.slice (some ⟨b', off', none⟩) m c') := c1
    have hnm : 0 < n + m := by omega
    clear o1 o2 i1 i2 h h' e' hv hv' hA hA' e3 hN hM hl hn hn' how hln r0 f0 sz3 hcell' hb' hB hB' h1 h1' h12 h12'
    go_enter Try.func24, Try.ntmps24
    go_wp2_with (first | (go_at_call 27; have _t := tok; refine H1.out.mono ?_; rintro e w' ⟨rfl, rfl⟩; clear tok _t) | (go_at_call 27; refine H2.out.mono ?_; rintro e w' ⟨rfl, rfl⟩))
    go_region_law (first
      | (go_simp; go_at_call 43; refine HOW.out.mono ?_; rintro e w4 ⟨v, rfl, hb, ho⟩; have B4 := Lib.hid (below_step E3.out.drew hb); have c4 := cell_kept c1d hb; have r4 := Lib.hid (cell_kept (w := W3.drew) R0.out hb); have f4 := Lib.hid (frozen_kept (w := W3.drew) R0.out F0.out hb); have ZS := Lib.hid hb.size; have HO4 := Lib.hid ho; have NW := Lib.hid (HS2.out w4 B4.out); clear hb ho)
      | (refine step_append_own _ rfl _ _ 22 rfl W3.drew.heap.size 2 i0 (.int .i64 0) 1 8 Try.underlying22 hi0 hz0 hz1 hz2 rfl (by decide) _ _ _ rfl HO4.out ⟨b', off', none⟩ m c' (ys.map (Value.int .i64)) rfl HLD.out NW.out H12.out h63 h8 ZS.out ?_; intro v' w9 hown hgrow _; obtain ⟨gq, cq, rfl⟩ := int_shape hown hnm; have r9 := own_cell2 hgrow HO4.out r4.out (by show w.heap.size + 2 < W3.heap.size; rw [SZ.out]; omega); have f9 := own_frozen2 hgrow HO4.out r4.out f4.out (by show w.heap.size + 2 < W3.heap.size; rw [SZ.out]; omega); have B9 := Lib.hid (B4.out.grown hgrow (Nat.le_trans E3.out.size ZS.out) (fun k hk => Nat.le_trans E3.out.size (HO4.out.lt k hk).1)); have HO9 := Lib.hid hown; clear hown hgrow))
    all_goals
      go_wp2
      have ho9 := HO9.out
      rw [← List.map_append] at ho9
      obtain ⟨g, cap, ex, hv, hg, hr⟩ := owned_row ho9 hnm HLN.out
      obtain rfl : g = gq := by injection hv with hv1; injection hv1 with hv1; injection hv1 with hv1; exact hv1.symm
      obtain rfl : cap = cq := by injection hv with _ _ hv3; exact hv3.symm
      have hg' : w.heap.size + 3 ≤ g := by have h2 : W3.heap.size ≤ g := hg; rw [SZ.out] at h2; exact h2
      refine bodyPost_ret (v := .tuple #[.agg #[.slice (some ⟨g, 0, none⟩) (n + m) cap], .int .i64 0]) (by simp [results, Try.results24, go_sem, r9]) rfl (Or.inl ⟨rfl, g, cap, ex, by rw [HLN.out], by omega, B9.out.setCell (by show w.heap.size ≤ w.heap.size + 2; omega) _, ?_⟩)
      exact hr.far (by simp; omega) _

set_option maxRecDepth 100000 in
set_option maxHeartbeats 2000000 in
theorem implJoinK_any (A A' : Option Addr) (c c' : Nat) (xs ys : List Int) (B B' : Nat) (w : World) (h : Ints w B A xs) (h' : Ints w B' A' ys) (hB : B ≤ w.heap.size) (hB' : B' ≤ w.heap.size) (hn : xs.length ≤ 1048576) (hn' : ys.length ≤ 1048576) :
    Calls Try.prog 25 #[.agg #[.slice A xs.length c], .agg #[.slice A' ys.length c']] w (GivesJ (joinKA xs ys) (joinKC xs ys) w) := by
  have e3 := below_boxed (below_boxed (below_box w (.cells #[.slice A xs.length c] 27)) (.cells #[.slice A' ys.length c'] 27)) (.cells #[.slice none 0 0] 27)
  have o1 := fun W (hW : Below w.heap.size w W) => implValidCounter_any A c xs B W (h.below (hW.mono hB)) (Nat.le_trans hB hW.size) hn
  have o2 := fun W (hW : Below w.heap.size w W) => implValidCounter_any A' c' ys B' W (h'.below (hW.mono hB')) (Nat.le_trans hB' hW.size) hn'
  have hj := joinKC_cases xs ys
  have hA : joinKC xs ys = 0 → joinKA xs ys = xs ++ ys := fun e => by simp [joinKA, e]
  have hA' : joinKC xs ys ≠ 0 → joinKA xs ys = [] := fun e => by simp [joinKA, e]
  obtain ⟨W3, hW3⟩ : ∃ W, ((w.alloc (.cells #[.slice A xs.length c] 27)).alloc (.cells #[.slice A' ys.length c'] 27)).alloc (.cells #[.slice none 0 0] 27) = W := ⟨_, rfl⟩
  have c0 : W3.cell? ⟨w.heap.size, 0, none⟩ = some (.slice A xs.length c) := by rw [← hW3]; simp [go_sem]
  have c1 : W3.cell? ⟨w.heap.size + 1, 0, none⟩ = some (.slice A' ys.length c') := by rw [← hW3]; simp [go_sem]
  have r0 : W3.cell? ⟨w.heap.size + 2, 0, none⟩ = some (.slice none 0 0) := by rw [← hW3]; simp [go_sem]
  have f0 : W3.frozen? ⟨w.heap.size + 2, 0, none⟩ = false := by rw [← hW3]; simp [go_sem]
  rw [hW3] at e3
  have E3 := Lib.hid e3
  rcases hj with ⟨e', hv⟩ | ⟨e', hv, hv'⟩ | ⟨e', hv, hv', hl⟩ | ⟨e', hv, hv', hl⟩
  · rw [hA' (by omega), e']
    rw [hv] at o1
    obtain ⟨n, hN⟩ : ∃ n, xs.length = n := ⟨_, rfl⟩
    obtain ⟨m, hM⟩ : ∃ m, ys.length = m := ⟨_, rfl⟩
    rw [hN] at o1 c0
    rw [hM] at c1
    rw [hN, hM] at hW3 ⊢
    have H1 := Lib.hid o1
    have R0 := Lib.hid r0
    have F0 := Lib.hid f0
    clear o1 o2 h h' e' hv hA hA' e3 hN hM r0 f0
    go_enter Try.func25, Try.ntmps25
    go_wp2_with fail
    refine (H1.out _ E3.out).mono ?_
    rintro e w4 ⟨rfl, hb⟩
    have r4 := cell_kept R0.out hb
    have f4 := frozen_kept R0.out F0.out hb
    have B4 := Lib.hid (below_step E3.out hb)
    clear hb
    go_wp2
    exact bodyPost_ret (v := .tuple #[.agg #[.slice none 0 0], .int .i64 1]) (by simp [results, Try.results25, go_sem, r4]) rfl (Or.inr ⟨by decide, rfl, B4.out.setCell (by show w.heap.size ≤ w.heap.size + 2; omega) _⟩)
  · rw [hA' (by omega), e']
    rw [hv] at o1
    rw [hv'] at o2
    obtain ⟨n, hN⟩ : ∃ n, xs.length = n := ⟨_, rfl⟩
    obtain ⟨m, hM⟩ : ∃ m, ys.length = m := ⟨_, rfl⟩
    rw [hN] at o1 c0
    rw [hM] at o2 c1
    rw [hN, hM] at hW3 ⊢
    have H1 := Lib.hid o1
    have H2 := Lib.hid o2
    have R0 := Lib.hid r0
    have F0 := Lib.hid f0
    have C1 := Lib.hid c1
    clear o1 o2 h h' e' hv hv' hA hA' e3 hN hM r0 f0
    go_enter Try.func25, Try.ntmps25
    go_wp2_with fail
    refine (H1.out _ E3.out).mono ?_
    rintro e w4 ⟨rfl, hb⟩
    have r4 := Lib.hid (cell_kept R0.out hb)
    have f4 := Lib.hid (frozen_kept R0.out F0.out hb)
    have d4 := cell_kept C1.out hb
    have B4 := Lib.hid (below_step E3.out hb)
    clear hb
    go_wp2_with fail
    refine (H2.out _ B4.out).mono ?_
    rintro e w5 ⟨rfl, hb⟩
    have r5 := cell_kept r4.out hb
    have f5 := frozen_kept r4.out f4.out hb
    have B5 := Lib.hid (below_step B4.out hb)
    clear hb
    go_wp2
    exact bodyPost_ret (v := .tuple #[.agg #[.slice none 0 0], .int .i64 1]) (by simp [results, Try.results25, go_sem, r5]) rfl (Or.inr ⟨by decide, rfl, B5.out.setCell (by show w.heap.size ≤ w.heap.size + 2; omega) _⟩)
  all_goals
    rw [hv] at o1
    rw [hv'] at o2
    obtain ⟨_, h1, h12⟩ := okK_parts hv
    obtain ⟨_, h1', h12'⟩ := okK_parts hv'
    have hcc := fun (g3 : Nat) (W : World) (hW : Below w.heap.size w W) (q0 : W.cell? ⟨g3, 0, none⟩ = some (.slice A xs.length c)) (q1 : W.cell? ⟨g3, 1, none⟩ = some (.slice A' ys.length c')) => concatInts_any A A' c c' g3 xs ys B B' W (h.below (hW.mono hB)) (h'.below (hW.mono hB')) (Nat.le_trans hB hW.size) (Nat.le_trans hB' hW.size) q0 q1 (by omega) (by omega) (by omega)
    unfold GivesOwn at hcc
    have hln : (xs ++ ys).length = xs.length + ys.length := List.length_append
    have hiw := fun W => isWheels_any ((xs ++ ys).length : Int) W
  · rw [hA' (by omega), e']
    have hq : inB ((xs ++ ys).length : Int) 1 12 = false := by simp [inB]; omega
    rw [hq] at hiw
    obtain ⟨n, hN⟩ : ∃ n, xs.length = n := ⟨_, rfl⟩
    obtain ⟨m, hM⟩ : ∃ m, ys.length = m := ⟨_, rfl⟩
    obtain ⟨q, hQ⟩ : ∃ q, (xs ++ ys).length = q := ⟨_, rfl⟩
    rw [hQ] at hiw
    simp only [hN, hM, hQ] at hcc
    rw [hN] at o1 c0
    rw [hM] at o2 c1
    rw [hN, hM] at hW3 ⊢
    have hq0 : 0 < q := by omega
    have H1 := Lib.hid o1
    have H2 := Lib.hid o2
    have HCC := Lib.hid hcc
    have HIW := Lib.hid hiw
    have R0 := Lib.hid r0
    have F0 := Lib.hid f0
    have C0 := Lib.hid c0
    have C1 := Lib.hid c1
    clear o1 o2 h h' e' hv hv' hA hA' e3 hN hM r0 f0 hcc hiw hl hln hQ hq
    go_enter Try.func25, Try.ntmps25
    go_wp2_with fail
    refine (H1.out _ E3.out).mono ?_
    rintro e w4 ⟨rfl, hb⟩
    have r4 := Lib.hid (cell_kept R0.out hb)
    have f4 := Lib.hid (frozen_kept R0.out F0.out hb)
    have c4 := Lib.hid (cell_kept C0.out hb)
    have d4 := cell_kept C1.out hb
    have B4 := Lib.hid (below_step E3.out hb)
    clear hb
    go_wp2_with fail
    refine (H2.out _ B4.out).mono ?_
    rintro e w5 ⟨rfl, hb⟩
    have r5 := Lib.hid (cell_kept r4.out hb)
    have f5 := Lib.hid (frozen_kept r4.out f4.out hb)
    have c5 := cell_kept c4.out hb
    have d5 := cell_kept d4 hb
    have B5 := Lib.hid (below_step B4.out hb)
    clear hb d4
    go_wp2_with fail
    refine (HCC.out w5.heap.size _ (below_boxed B5.out _) (by simp [go_sem]) (by simp [go_sem])).mono ?_
    rintro e w6 ⟨v, rfl, hb, ho⟩
    have bx := below_box w5 (.cells #[.slice A n c, .slice A' m c'] 22)
    have r6 := cell_kept (cell_kept r5.out bx) hb
    have f6 := frozen_kept (cell_kept r5.out bx) (frozen_kept r5.out f5.out bx) hb
    obtain ⟨gq, cq, rfl⟩ := int_shape ho hq0
    have B6 := Lib.hid (below_step (below_step B5.out bx) hb)
    clear hb ho bx c5 d5
    go_wp2_with (go_at_call 29; refine (HIW.out _).mono ?_; rintro e w7 ⟨rfl, rfl⟩)
    exact bodyPost_ret (v := .tuple #[.agg #[.slice none 0 0], .int .i64 5]) (by simp [results, Try.results25, go_sem, r6]) rfl (Or.inr ⟨by decide, rfl, B6.out.setCell (by show w.heap.size ≤ w.heap.size + 2; omega) _⟩)
  · rw [hA e', e']
    have hq : inB ((xs ++ ys).length : Int) 1 12 = true := by simp [inB]; omega
    rw [hq] at hiw
    obtain ⟨n, hN⟩ : ∃ n, xs.length = n := ⟨_, rfl⟩
    obtain ⟨m, hM⟩ : ∃ m, ys.length = m := ⟨_, rfl⟩
    obtain ⟨q, hQ⟩ : ∃ q, (xs ++ ys).length = q := ⟨_, rfl⟩
    rw [hQ] at hiw
    simp only [hN, hM, hQ] at hcc
    rw [hN] at o1 c0
    rw [hM] at o2 c1
    rw [hN, hM] at hW3 ⊢
    have hq0 : 0 < q := by omega
    have H1 := Lib.hid o1
    have H2 := Lib.hid o2
    have HCC := Lib.hid hcc
    have HIW := Lib.hid hiw
    have R0 := Lib.hid r0
    have F0 := Lib.hid f0
    have C0 := Lib.hid c0
    have C1 := Lib.hid c1
    have HQ := Lib.hid hQ
    clear o1 o2 h h' e' hv hv' hA hA' e3 hN hM r0 f0 hcc hiw hl hln hQ hq
    go_enter Try.func25, Try.ntmps25
    go_wp2_with fail
    refine (H1.out _ E3.out).mono ?_
    rintro e w4 ⟨rfl, hb⟩
    have r4 := Lib.hid (cell_kept R0.out hb)
    have f4 := Lib.hid (frozen_kept R0.out F0.out hb)
    have c4 := Lib.hid (cell_kept C0.out hb)
    have d4 := cell_kept C1.out hb
    have B4 := Lib.hid (below_step E3.out hb)
    clear hb
    go_wp2_with fail
    refine (H2.out _ B4.out).mono ?_
    rintro e w5 ⟨rfl, hb⟩
    have r5 := Lib.hid (cell_kept r4.out hb)
    have f5 := Lib.hid (frozen_kept r4.out f4.out hb)
    have c5 := cell_kept c4.out hb
    have d5 := cell_kept d4 hb
    have B5 := Lib.hid (below_step B4.out hb)
    clear hb d4
    go_wp2_with fail
    refine (HCC.out w5.heap.size _ (below_boxed B5.out _) (by simp [go_sem]) (by simp [go_sem])).mono ?_
    rintro e w6 ⟨v, rfl, hb, ho⟩
    have bx := below_box w5 (.cells #[.slice A n c, .slice A' m c'] 22)
    have r6 := cell_kept (cell_kept r5.out bx) hb
    have f6 := frozen_kept (cell_kept r5.out bx) (frozen_kept r5.out f5.out bx) hb
    obtain ⟨g, cap, ex, rfl, hg, hr⟩ := owned_row ho hq0 HQ.out
    have HR := Lib.hid hr
    have B6 := Lib.hid (below_step (below_step B5.out bx) hb)
    have hg' : w.heap.size + 2 < g := by
      have t1 := World.block_lt_of_cell? _ _ r5.out
      have t2 : w.heap.size + 2 < w5.heap.size := t1
      simp at hg
      omega
    rw [HQ.out]
    clear hb ho bx c5 d5 hr hg
    go_wp2_with (go_at_call 29; refine (HIW.out _).mono ?_; rintro e w7 ⟨rfl, rfl⟩)
    refine bodyPost_ret (v := .tuple #[.agg #[.slice (some ⟨g, 0, none⟩) q cap], .int .i64 0]) (by simp [results, Try.results25, go_sem, r6]) rfl (Or.inl ⟨rfl, g, cap, ex, by rw [HQ.out], by omega, B6.out.setCell (by show w.heap.size ≤ w.heap.size + 2; omega) _, ?_⟩)
    exact HR.out.far (by simp; omega) _

end Go.Proofs.Ytkiphejkgpfjjaa
