/- spec.l07Draw and spec.A2Deck give a list of new cards of one width whose columns are characters: contracts. -/
import Derived.Test.YtdakbbgbglgioaaDoorDrawCard
import Derived.Test.YtdakbbgbglgioaaDoorCodesMath
import Derived.Test.YtdakbbgbglgioaaDoorDecks
namespace Go.Proofs.YtdakbbgbglgioaaDoor
open Go.ChangeShapes Go.WideShapes Go.ChangeAt Go.RowKit

theorem l00OwnC_any (A : Option Addr) (c : Nat) (xs : List Int) (B : Nat) (w : World) (h : Ints w B A xs) (hB : B ≤ w.heap.size) (h0 : 0 < xs.length) (hn : xs.length ≤ 1048576) :
    Calls Tryd.prog 51 #[.slice A xs.length c] w (GivesIntsC xs w) := by
  obtain ⟨i0, hi0, hz0, hz1, hz2⟩ := info_parts info_int64
  obtain ⟨b, off, rfl, hb, hcell⟩ := h h0
  have HN := Lib.hid (news_of (fun i hi => (World.cell?_alloc_lt w (.cells #[] 2) ⟨b, off + i, none⟩ (Nat.lt_of_lt_of_le hb hB)).trans (hcell i hi)))
  have HM := Lib.hid (maps_length xs)
  have H1 := Lib.hid (maps_one xs)
  have HO := Lib.hid (empty_owned w)
  clear hcell h
  go_enter Tryd.func51, Tryd.ntmps51
  go_wp2_with (at_builtin; refine wpList_append_own _ rfl (.tmp 3) (.tmp 4) 34 rfl w.heap.size 2 i0 (.int .i64 0) 1 8 Tryd.underlying34 hi0 hz0 hz1 hz2 rfl (by decide) (.slice (some ⟨w.heap.size, 0, none⟩) 0 0) 0 [] rfl HO.out ⟨b, off, none⟩ xs.length c (xs.map (Value.int .i64)) rfl HM.out HN.out H1.out ?c3 ?c4 ?c5 ?_; rotate_left 3; intro v1 w1 hown hgrow hiff; simp only [Nat.zero_add, List.nil_append] at hown; have B1 := Lib.hid (Below.grown (below_box w _) hgrow (by simp) (fun k hk => by simp [Value.ownBlock] at hk; omega)); obtain ⟨g, cap, ex, rfl, hcp, hcm, hg, hr⟩ := owned_rowC hown h0 rfl; have HCP := Lib.hid hcp; have HCM := Lib.hid hcm; have HR := Lib.hid hr; clear hown hgrow hiff hr hcp hcm)
  case c3 => unfold maxLen; omega
  case c4 => omega
  case c5 => simp
  go_ret
  exact ⟨g, cap, ex, rfl, HCP.out, HCM.out, hg, B1.out, HR.out⟩

theorem l02OwnD_any (A : Option Addr) (c : Nat) (xs : List Int) (B p o : Nat) (w : World) (hp : w.cell? ⟨p, o, none⟩ = some (.slice A xs.length c)) (h : Ints w B A xs) (hB : B ≤ w.heap.size) (h0 : 0 < xs.length) (hn : xs.length ≤ 1048576) :
    Calls Tryd.prog 34 #[.pointer (some ⟨p, o, none⟩)] w fun e w' => ∃ g cap ex, e = .returned (.agg #[.slice (some ⟨g, 0, none⟩) xs.length cap]) ∧ xs.length ≤ cap ∧ cap ≤ maxLen ∧ w.heap.size ≤ g ∧ Below w.heap.size w w' ∧ Row w' g xs ex := by
  have hc := l00OwnC_any A c xs B (w.alloc (.cells #[.slice none 0 0] 36)) (h.alloc hB _) (by simp; omega) h0 hn
  have HC := Lib.hid hc
  have hlt := World.block_lt_of_cell? _ _ hp
  have hp2 := cell_kept hp (below_box w (.cells #[.slice none 0 0] 36))
  clear hc h
  go_enter Tryd.func34, Tryd.ntmps34
  go_wp2_with fail
  refine HC.out.mono ?_
  rintro e w1 ⟨g, cap, ex, rfl, hcp, hcm, hg, hb, hr⟩
  have B1 := Lib.hid (below_step (below_box w _) hb)
  have c1 := cell_kept (p := ⟨w.heap.size, 0, none⟩) (v := .slice none 0 0) (by simp) hb
  have f1 : w1.frozen? ⟨w.heap.size, 0, none⟩ = false := by rw [hb.frozen (by simp)]; simp
  have HR := Lib.hid hr
  have hg' : w.heap.size + 1 ≤ g := by simpa using hg
  clear hb hr hg
  go_wp2
  refine bodyPost_ret (v := .agg #[.slice (some ⟨g, 0, none⟩) xs.length cap]) (by simp [results, Tryd.results34, go_sem, c1]) rfl ⟨g, cap, ex, rfl, hcp, hcm, by omega, ?_, ?_⟩
  · exact B1.out.setCell (by simp) _
  · exact HR.out.far (by simp; omega) _

/-- a card of m characters, in a block of its own at B0 or above -/
def CardAt (B0 m : Nat) (W : World) (d : CardV) : Prop :=
  ∃ b ex, d.at_ = some ⟨b, 0, none⟩ ∧ B0 ≤ b ∧ Row W b d.xs ex ∧ d.xs.length = m ∧ textOk d.xs = true ∧ okB d.xs = true ∧ m ≤ d.cap ∧ d.cap ≤ maxLen
def cardVs (D : List CardV) : List Value := D.map CardV.value
/-- a list of cards that the program owns -/
def DeckOwn (base m : Nat) (W : World) (v : Value) (D : List CardV) : Prop :=
  W.ownsRow base 36 1 v D.length (cardVs D) ∧ ∀ d ∈ D, CardAt base m W d


theorem CardAt.moved {B0 m : Nat} {W W' : World} {d : CardV} (h : CardAt B0 m W d) (hk : ∀ i, B0 ≤ i → i < W.heap.size → (∀ cur, W.heap[i]? ≠ some (.cells cur 36 (0, 0))) → W'.heap[i]? = W.heap[i]?) : CardAt B0 m W' d := by
  obtain ⟨b, ex, h1, h2, h3, rest⟩ := h
  refine ⟨b, ex, h1, h2, ?_, rest⟩
  have hr := h3
  unfold Row at hr ⊢
  rw [hk b h2 h3.lt (fun cur hc => by rw [hr] at hc; injection hc with hc; injection hc with _ hc; exact absurd hc (by decide))]
  exact hr
theorem DeckOwn.only {base m g : Nat} {W W' : World} {v : Value} {D : List CardV} (h : DeckOwn base m W v D) (hg : W.grownBy W' (some g)) (hlt : g < base) : DeckOwn base m W' v D :=
  ⟨own_only h.1 hg hlt, fun d hd => (h.2 d hd).moved fun i hi hiw _ => hg.block i hiw (fun e => by injection e with e; omega)⟩
theorem DeckOwn.below {base m : Nat} {W W' : World} {v : Value} {D : List CardV} (h : DeckOwn base m W v D) (hb : Below W.heap.size W W') : DeckOwn base m W' v D :=
  ⟨own_moved h.1 fun i _ hi => hb.block i hi, fun d hd => (h.2 d hd).moved fun i _ hi _ => hb.block i hi⟩
theorem CardAt.below {B0 m : Nat} {W W' : World} {d : CardV} (h : CardAt B0 m W d) (hb : Below W.heap.size W W') : CardAt B0 m W' d := h.moved fun i _ hi _ => hb.block i hi
theorem CardAt.grown {base m n : Nat} {W W' : World} {v : Value} {xs : List Value} {o : Obj} {d : CardV} (h : CardAt base m W d) (hgrow : (W.alloc o).grownBy W' v.ownBlock) (hown : W.ownsRow base 36 1 v n xs) : CardAt base m W' d :=
  h.moved fun i _ hi hc => by
    rw [hgrow.block i (by simp; omega) (fun e => ?_), Below.heap_alloc W o i hi]
    rcases hown.2 with ⟨rfl, _⟩ | ⟨g, cap, cur, rfl, hb, hh, _⟩
    · cases e
    · injection e with e
      have e' : i = g := e
      subst e'
      exact hc cur hh
theorem DeckOwn.add {base m : Nat} {W W' : World} {v v' : Value} {D : List CardV} {o : Obj} {d : CardV} (h : DeckOwn base m W v D) (hd : CardAt base m W d) (hgrow : (W.alloc o).grownBy W' v.ownBlock) (hown : W'.ownsRow base 36 1 v' (D.length + 1) (cardVs D ++ [d.value])) : DeckOwn base m W' v' (D ++ [d]) := by
  refine ⟨?_, fun x hx => ?_⟩
  · have e : cardVs (D ++ [d]) = cardVs D ++ [d.value] := by simp [cardVs]
    rw [e, List.length_append]
    exact hown
  · rcases List.mem_append.1 hx with hx | hx
    · exact (h.2 x hx).grown hgrow h.1
    · rw [List.mem_singleton.1 hx]
      exact hd.grown hgrow h.1
theorem one_card (W : World) (u : Value) : ∀ j y, [u][j]? = some y → (W.alloc (.cells #[u] 36)).cell? ((⟨W.heap.size, 0, none⟩ : Addr).add j) = some y := by
  intro j y hj
  match j, hj with
  | 0, hj => simp at hj; subst hj; simp [Addr.add]
theorem one_cardc (A : Option Addr) (n c : Nat) : ∀ u ∈ [Value.slice A n c], u.oneCell' = true := by
  intro u hu
  simp at hu
  subst hu
  rfl
theorem legal_codes {l : List Nat} (h : legalL l) (h1 : 1 ≤ l.length) (h20 : l.length ≤ 20) : textOk (textCodes (textN l)) = true ∧ okB (textCodes (textN l)) = true := by
  rw [textCodes_textN h]
  constructor
  · rw [textOk, List.all_eq_true]
    intro y hy
    obtain ⟨x, hx, rfl⟩ := List.mem_map.1 hy
    have := legalL_code h hx
    exact (code_back x this.1 this.2).1
  · simp only [okB, legalB, inB, maskB, Bool.and_eq_true, decide_eq_true_eq, List.all_eq_true, List.length_map]
    refine ⟨fun y hy => ?_, by omega, by omega⟩
    obtain ⟨x, hx, rfl⟩ := List.mem_map.1 hy
    have := legalL_code h hx
    have h3 := code_back x this.1 this.2
    exact ⟨by omega, by omega⟩

theorem CardAt.less {B0 B1 m : Nat} {W : World} {d : CardV} (h : CardAt B1 m W d) (hB : B0 ≤ B1) : CardAt B0 m W d := by
  obtain ⟨b, ex, h1, h2, rest⟩ := h
  exact ⟨b, ex, h1, Nat.le_trans hB h2, rest⟩
/-- A new card of m characters. -/
def GivesWide (m : Nat) (w : World) (e : Ending) (w' : World) : Prop :=
  ∃ A cap xs, e = .returned (.agg #[.slice A m cap]) ∧ xs.length = m ∧ Below w.heap.size w w' ∧ CardAt w.heap.size m w' ⟨A, cap, xs⟩
theorem textCard_any (m : Nat) (l : List Nat) (hl : l.length = m) (hok : legalL l) (h1 : 1 ≤ m) (h20 : m ≤ 20) (w : World) :
    Calls Tryd.prog 66 #[.string ⟨(l.map UInt8.ofNat).toArray⟩] w (GivesWide m w) := by
  have hs := textN_size l
  have hx := legal_codes hok (by omega) (by omega)
  refine (l03Card_any (textN l) (by omega) (by omega) w).mono ?_
  rintro e w' ⟨g, cap, ex, rfl, hcp, hcm, hg, hb, hrow⟩
  have hn := textCodes_length (textN l)
  refine ⟨some ⟨g, 0, none⟩, cap, textCodes (textN l), by rw [hs, hl], by omega, hb, g, ex, rfl, hg, hrow, by show (textCodes (textN l)).length = m; omega, hx.1, hx.2, by show m ≤ cap; omega, hcm⟩
theorem ownCard_any (m : Nat) (p o B0 : Nat) (d : CardV) (w : World) (hp : w.cell? ⟨p, o, none⟩ = some (.slice d.at_ m d.cap)) (h : CardAt B0 m w d) (h1 : 1 ≤ m) (h20 : m ≤ 20) :
    Calls Tryd.prog 34 #[.pointer (some ⟨p, o, none⟩)] w (GivesWide m w) := by
  obtain ⟨b, ex, e1, h2, hrow, hl, ht, hv, hc, hcm⟩ := h
  have hi : Ints w w.heap.size d.at_ d.xs := by
    rw [e1]
    exact hrow.ints.more hrow.lt
  refine (l02OwnD_any d.at_ d.cap d.xs w.heap.size p o w (by rw [hl]; exact hp) hi (Nat.le_refl _) (by omega) (by omega)).mono ?_
  rintro e w' ⟨g, cap, ex, rfl, hcp, hcm, hg, hb, hrow⟩
  exact ⟨some ⟨g, 0, none⟩, cap, d.xs, by rw [hl], hl, hb, g, ex, rfl, hg, hrow, hl, ht, hv, by show m ≤ cap; omega, hcm⟩
theorem DeckOwn.card {base m gq n cq : Nat} {W : World} {D : List CardV} (h : DeckOwn base m W (.slice (some ⟨gq, 0, none⟩) n cq) D) {k : Nat} (hk : k < D.length) : W.cell? ⟨gq, k, none⟩ = some (.slice (D[k]'hk).at_ m (D[k]'hk).cap) ∧ CardAt base m W (D[k]'hk) := by
  have hca := h.2 _ (List.getElem_mem hk)
  refine ⟨?_, hca⟩
  have hc := h.1.cells (g := gq) rfl k (D[k]'hk).value (by simp [cardVs, hk])
  obtain ⟨b, ex, e1, h2, hrow, hl, _⟩ := hca
  have e : (⟨gq, 0, none⟩ : Addr).add k = ⟨gq, k, none⟩ := by
    by_cases hk0 : k = 0
    · subst hk0
      simp [Addr.add]
    · simp [Addr.add, hk0]
  rw [e] at hc
  rw [hc, CardV.value, hl]
theorem only_below {w0 w w' : World} {g : Nat} (h : w0.grownBy w (some g)) (hb : Below w.heap.size w w') : w0.grownBy w' (some g) :=
  ⟨hb.os.trans h.os, hb.tape.trans h.tape, hb.output.trans h.output, Nat.le_trans h.size hb.size, fun i hi hne => (hb.block i (Nat.lt_of_lt_of_le hi h.size)).trans (h.block i hi hne)⟩
theorem DeckOwn.push {base m : Nat} {W W' : World} {v v' : Value} {D : List CardV} {o : Obj} {A : Option Addr} {cap : Nat} {xs : List Int} (h : DeckOwn base m W v D) (hd : CardAt base m W ⟨A, cap, xs⟩) (hx : xs.length = m) (hgrow : (W.alloc o).grownBy W' v.ownBlock) (hown : W'.ownsRow base 36 1 v' (D.length + 1) (cardVs D ++ [.slice A m cap])) : DeckOwn base m W' v' (D ++ [⟨A, cap, xs⟩]) := by
  refine h.add hd hgrow ?_
  have e : (CardV.mk A cap xs).value = .slice A m cap := by rw [← hx]; rfl
  rw [e]
  exact hown

/-- What a drawn list of cards leaves. -/
def DrawsDeck (m r B g K : Nat) (w : World) (e : Ending) (w' : World) : Prop :=
  ∃ gq cq D, e = .returned (.slice (some ⟨gq, 0, none⟩) D.length cq) ∧ D.length ≤ r ∧ w.grownBy w' (some g) ∧ DeckOwn w.heap.size m w' (.slice (some ⟨gq, 0, none⟩) D.length cq) D ∧ Src w' B g K

set_option maxRecDepth 100000 in
set_option maxHeartbeats 4000000 in
theorem l07Draw_any (m r B g k0 : Nat) (w : World) (h : Src w B g k0) (h1 : 1 ≤ m) (h20 : m ≤ 20) (hr : r ≤ 100) (hk : k0 ≤ 10000) :
    Calls Tryd.prog 30 #[.pointer (some ⟨g, 0, none⟩), .int .i64 m, .int .i64 r] w (DrawsDeck m r B g (k0 + 2 + 600 * r) w) := by
  obtain ⟨i0, hi0, hz0, hz1, hz2⟩ := info_parts info_card
  have hglt := h.lt
  have HP := Lib.hid (pick_any (w.alloc (.cells #[] 36)) B g k0 ((r : Int) + 1) (h.boxed _) (by omega) (by omega) (by omega))
  clear h
  go_enter Tryd.func30, Tryd.ntmps30
  go_wp2_with fail
  refine HP.out.mono ?_
  rintro e w1 ⟨q, rfl, hq0, hq1, hg, hs⟩
  obtain ⟨k1, rfl⟩ : ∃ k1 : Nat, q = k1 := ⟨q.toNat, by omega⟩
  have HG1 := Lib.hid (only_step (only_box w _ g) hg)
  have HD1 : Hid (DeckOwn w.heap.size m w1 (.slice (some ⟨w.heap.size, 0, none⟩) 0 0) []) := DeckOwn.only ⟨⟨rfl, Or.inr ⟨w.heap.size, 0, #[], rfl, Nat.le_refl _, heap_alloc_new w _, Nat.le_refl _, Nat.zero_le _, rfl, rfl⟩⟩, fun d hd => by cases hd⟩ hg hglt
  have HS1 := Lib.hid hs
  clear hg hs HP
  go_wp2
  go_loopw [7, 8] (fun o i wr => ∃ k : Nat, ∃ D : List CardV, ∃ gq cq : Nat, D.length + k = k1 ∧ i = .int .i64 k ∧ o = .slice (some ⟨gq, 0, none⟩) D.length cq ∧ Hid (w.grownBy wr (some g)) ∧ Hid (Src wr B g (k0 + 2 + 600 * D.length)) ∧ Hid (DeckOwn w.heap.size m wr (.slice (some ⟨gq, 0, none⟩) D.length cq) D)) (fun _ i _ => (intOf i).toNat)
  case atStart => exact ⟨k1, [], w.heap.size, 0, by simp, rfl, rfl, HG1.out, HS1.out, HD1.out⟩
  case round =>
    clear HG1 HD1 HS1
    obtain ⟨k, D, gq, cq, hjk, rfl, rfl, HG, HS, HD⟩ := hrel
    by_cases hlt : 0 < k
    · have hk1 : (0 : Int) < (k : Int) := by omega
      by_cases hj : D.length = 0
      · have hj1 : ¬ (0 : Int) < (D.length : Int) := by omega
        clear hj
        have HP := Lib.hid (l03DrawText_any m B g (k0 + 2 + 600 * D.length) wr HS.out (by omega) (by omega))
        go_wp2_with fail
        refine HP.out.mono ?_
        rintro e w2 ⟨l, rfl, hl, hok, hg, hs⟩
        have HG2 := Lib.hid (only_step HG.out hg)
        have HD2 := Lib.hid (HD.out.only hg hglt)
        have HS2 := Lib.hid (hs.more (k' := k0 + 2 + 600 * (D.length + 1)) (by omega))
        clear hg hs HP HG HD HS
        have hsz2 : w.heap.size ≤ w2.heap.size := HG2.out.size
        have HC := Lib.hid (textCard_any m l hl hok h1 h20 w2)
        clear hok
        go_wp2_with fail
        refine HC.out.mono ?_
        rintro e w3 ⟨A, cap, xs, rfl, hxm, hb, hca⟩
        have HCA := Lib.hid (hca.less hsz2)
        have HG3 := Lib.hid (only_below HG2.out hb)
        have HD3 := Lib.hid (HD2.out.below hb)
        have HS3 := Lib.hid (HS2.out.below hb)
        have hsz3 : w.heap.size ≤ w3.heap.size := HG3.out.size
        clear hb hca HC HG2 HD2 HS2
        go_wp2_with (at_builtin; (refine wpList_append_own _ rfl _ _ 24 rfl w.heap.size 36 i0 (.agg #[.slice none 0 0]) 1 24 Tryd.underlying24 hi0 hz0 hz1 hz2 rfl (by decide) _ _ _ rfl (HD3.out.1.alloc _) ⟨w3.heap.size, 0, none⟩ 1 1 [.slice A m cap] rfl rfl ?c1 ?c2 ?c3 ?c4 ?c5 ?_; rotate_left 5; intro v' w9 hown hgrow _; obtain ⟨gq', cq', rfl⟩ := int_shape hown (Nat.succ_pos _); have HG9 := Lib.hid (only_append HG3.out hgrow HD3.out.1 (Nat.le_refl _)); have HS9 := Lib.hid (HS3.out.keep (fun i hi => append_block hgrow HD3.out.1 (by omega) (by omega))); have HD9 := Lib.hid (HD3.out.push HCA.out hxm hgrow hown); clear hown hgrow))
        case c1 => exact one_card _ _
        case c2 => exact one_cardc _ _ _
        case c3 => unfold maxLen; omega
        case c4 => omega
        case c5 => first | omega | (simp; omega)
        go_roundw
        case rel =>
          have hL : (D ++ [(⟨A, cap, xs⟩ : CardV)]).length = D.length + 1 := by simp
          refine ⟨k - 1, D ++ [⟨A, cap, xs⟩], gq', cq', by omega, by go_num, by rw [hL], HG9.out, by rw [hL]; exact HS9.out, by rw [hL]; exact HD9.out⟩
        case measure => simp [intOf]; omega
      · have hj1 : (0 : Int) < (D.length : Int) := by omega
        have HP := Lib.hid (one_any wr B g (k0 + 2 + 600 * D.length) 4 HS.out (by omega) (by omega) (by omega))
        go_wp2_with fail
        refine HP.out.mono ?_
        rintro e w1 ⟨b, rfl, hg, hs⟩
        have HG1 := Lib.hid (only_step HG.out hg)
        have HD1 := Lib.hid (HD.out.only hg hglt)
        have HS1 := Lib.hid hs
        clear hg hs HP HG HD HS
        cases b
        · have HP := Lib.hid (l03DrawText_any m B g (k0 + 2 + 600 * D.length + 2) w1 HS1.out (by omega) (by omega))
          go_wp2_with fail
          refine HP.out.mono ?_
          rintro e w2 ⟨l, rfl, hl, hok, hg, hs⟩
          have HG2 := Lib.hid (only_step HG1.out hg)
          have HD2 := Lib.hid (HD1.out.only hg hglt)
          have HS2 := Lib.hid (hs.more (k' := k0 + 2 + 600 * (D.length + 1)) (by omega))
          clear hg hs HP HG1 HD1 HS1
          have hsz2 : w.heap.size ≤ w2.heap.size := HG2.out.size
          have HC := Lib.hid (textCard_any m l hl hok h1 h20 w2)
          clear hok
          go_wp2_with fail
          refine HC.out.mono ?_
          rintro e w3 ⟨A, cap, xs, rfl, hxm, hb, hca⟩
          have HCA := Lib.hid (hca.less hsz2)
          have HG3 := Lib.hid (only_below HG2.out hb)
          have HD3 := Lib.hid (HD2.out.below hb)
          have HS3 := Lib.hid (HS2.out.below hb)
          have hsz3 : w.heap.size ≤ w3.heap.size := HG3.out.size
          clear hb hca HC HG2 HD2 HS2
          go_wp2_with (at_builtin; (refine wpList_append_own _ rfl _ _ 24 rfl w.heap.size 36 i0 (.agg #[.slice none 0 0]) 1 24 Tryd.underlying24 hi0 hz0 hz1 hz2 rfl (by decide) _ _ _ rfl (HD3.out.1.alloc _) ⟨w3.heap.size, 0, none⟩ 1 1 [.slice A m cap] rfl rfl ?c1 ?c2 ?c3 ?c4 ?c5 ?_; rotate_left 5; intro v' w9 hown hgrow _; obtain ⟨gq', cq', rfl⟩ := int_shape hown (Nat.succ_pos _); have HG9 := Lib.hid (only_append HG3.out hgrow HD3.out.1 (Nat.le_refl _)); have HS9 := Lib.hid (HS3.out.keep (fun i hi => append_block hgrow HD3.out.1 (by omega) (by omega))); have HD9 := Lib.hid (HD3.out.push HCA.out hxm hgrow hown); clear hown hgrow))
          case c1 => exact one_card _ _
          case c2 => exact one_cardc _ _ _
          case c3 => unfold maxLen; omega
          case c4 => omega
          case c5 => first | omega | (simp; omega)
          go_roundw
          case rel =>
            have hL : (D ++ [(⟨A, cap, xs⟩ : CardV)]).length = D.length + 1 := by simp
            refine ⟨k - 1, D ++ [⟨A, cap, xs⟩], gq', cq', by omega, by go_num, by rw [hL], HG9.out, by rw [hL]; exact HS9.out, by rw [hL]; exact HD9.out⟩
          case measure => simp [intOf]; omega
        · have HP := Lib.hid (pick_any w1 B g (k0 + 2 + 600 * D.length + 2) (D.length : Int) HS1.out (by omega) (by omega) (by omega))
          go_wp2_with fail
          refine HP.out.mono ?_
          rintro e w2 ⟨q, rfl, hq0, hq1, hg, hs⟩
          obtain ⟨qn, rfl⟩ : ∃ qn : Nat, q = qn := ⟨q.toNat, by omega⟩
          have hqn : qn < D.length := by omega
          have HG2 := Lib.hid (only_step HG1.out hg)
          have HD2 := Lib.hid (HD1.out.only hg hglt)
          have HS2 := Lib.hid (hs.more (k' := k0 + 2 + 600 * (D.length + 1)) (by omega))
          clear hg hs HP HG1 HD1 HS1
          have hsz2 : w.heap.size ≤ w2.heap.size := HG2.out.size
          have HC := Lib.hid (ownCard_any m gq qn w.heap.size (D[qn]'hqn) w2 (HD2.out.card hqn).1 (HD2.out.card hqn).2 h1 h20)
          go_wp2_with fail
          refine HC.out.mono ?_
          rintro e w3 ⟨A, cap, xs, rfl, hxm, hb, hca⟩
          have HCA := Lib.hid (hca.less hsz2)
          have HG3 := Lib.hid (only_below HG2.out hb)
          have HD3 := Lib.hid (HD2.out.below hb)
          have HS3 := Lib.hid (HS2.out.below hb)
          have hsz3 : w.heap.size ≤ w3.heap.size := HG3.out.size
          clear hb hca HC HG2 HD2 HS2
          go_wp2_with (at_builtin; (refine wpList_append_own _ rfl _ _ 24 rfl w.heap.size 36 i0 (.agg #[.slice none 0 0]) 1 24 Tryd.underlying24 hi0 hz0 hz1 hz2 rfl (by decide) _ _ _ rfl (HD3.out.1.alloc _) ⟨w3.heap.size, 0, none⟩ 1 1 [.slice A m cap] rfl rfl ?c1 ?c2 ?c3 ?c4 ?c5 ?_; rotate_left 5; intro v' w9 hown hgrow _; obtain ⟨gq', cq', rfl⟩ := int_shape hown (Nat.succ_pos _); have HG9 := Lib.hid (only_append HG3.out hgrow HD3.out.1 (Nat.le_refl _)); have HS9 := Lib.hid (HS3.out.keep (fun i hi => append_block hgrow HD3.out.1 (by omega) (by omega))); have HD9 := Lib.hid (HD3.out.push HCA.out hxm hgrow hown); clear hown hgrow))
          case c1 => exact one_card _ _
          case c2 => exact one_cardc _ _ _
          case c3 => unfold maxLen; omega
          case c4 => omega
          case c5 => first | omega | (simp; omega)
          go_roundw
          case rel =>
            have hL : (D ++ [(⟨A, cap, xs⟩ : CardV)]).length = D.length + 1 := by simp
            refine ⟨k - 1, D ++ [⟨A, cap, xs⟩], gq', cq', by omega, by go_num, by rw [hL], HG9.out, by rw [hL]; exact HS9.out, by rw [hL]; exact HD9.out⟩
          case measure => simp [intOf]; omega
    · have hk1 : ¬ (0 : Int) < (k : Int) := by omega
      go_wp2
      go_ret
      exact ⟨gq, cq, D, rfl, by omega, HG.out, HD.out, HS.out.more (by omega)⟩

/-- A list of at most 8 cards of one width of 1 to 3 columns, in new memory. -/
def DeckDrawn (w : World) (e : Ending) (w' : World) : Prop :=
  ∃ m gq cq D, 1 ≤ m ∧ m ≤ 3 ∧ e = .returned (.slice (some ⟨gq, 0, none⟩) D.length cq) ∧ D.length ≤ 8 ∧ Below w.heap.size w w' ∧ DeckOwn w.heap.size m w' (.slice (some ⟨gq, 0, none⟩) D.length cq) D
theorem DeckOwn.less {base base' m : Nat} {W : World} {v : Value} {D : List CardV} (h : DeckOwn base m W v D) (hb : base' ≤ base) : DeckOwn base' m W v D := by
  refine ⟨⟨h.1.1, ?_⟩, fun d hd => (h.2 d hd).less hb⟩
  rcases h.1.2 with h0 | ⟨g, cap, cur, hv, hb', rest⟩
  · exact Or.inl h0
  · exact Or.inr ⟨g, cap, cur, hv, Nat.le_trans hb hb', rest⟩
set_option maxHeartbeats 2000000 in
theorem A2Deck_any (A : Option Addr) (n c B : Nat) (w : World) (h : BytesAt w B A n) (hB : B ≤ w.heap.size) (hn : n ≤ 3000) :
    Calls Tryd.prog 24 #[.slice A n c] w (DeckDrawn w) := by
  have HC := Lib.hid (l00From_any A n c B w h hB (by omega))
  clear h
  go_enter Tryd.func24, Tryd.ntmps24
  go_wp2_with fail
  refine HC.out.mono ?_
  rintro e w1 ⟨rfl, hb, hs⟩
  have HP := Lib.hid (pick_any w1 B w.heap.size 0 3 hs (by omega) (by omega) (by omega))
  have B1 := Lib.hid hb
  have s1 := hb.size
  clear hb hs HC
  go_wp2_with fail
  refine HP.out.mono ?_
  rintro e w2 ⟨r, rfl, hr0, hr1, hg, hs⟩
  obtain ⟨m, rfl⟩ : ∃ m : Nat, r = m := ⟨r.toNat, by omega⟩
  have HD := Lib.hid (l07Draw_any (1 + m) 8 B w.heap.size (0 + 2) w2 hs (by omega) (by omega) (by omega) (by omega))
  rw [show ((1 + m : Nat) : Int) = 1 + (m : Int) by omega, show ((8 : Nat) : Int) = 8 from rfl] at HD
  have B2 := Lib.hid (below_only B1.out hg (Nat.le_refl _))
  have s2 : w.heap.size ≤ w2.heap.size := Nat.le_trans s1 hg.size
  clear hg hs HP B1
  go_wp2_with fail
  refine HD.out.mono ?_
  rintro e w3 ⟨gq, cq, D, rfl, hl, hg, hd, _⟩
  have B3 := Lib.hid (below_only B2.out hg (Nat.le_refl _))
  have HD3 := Lib.hid (hd.less s2)
  clear hg HD B2 hd
  go_wp2
  go_ret
  exact ⟨1 + m, gq, cq, D, by omega, by omega, rfl, hl, B3.out, HD3.out⟩
end Go.Proofs.YtdakbbgbglgioaaDoor
