/- What spec.l02DrawDeck gives: a list of new cards of at most 64 columns; nothing but the source's block turns, and new blocks. -/
import Derived.Test.YtjfogadcedgndaaBentDraw
import Derived.Test.YtjfogadcedgndaaDecks
namespace Go.Proofs.Ytjfogadcedgndaa
open Go.ChangeShapes Go.WideShapes Go.ChangeAt Go.RowKit

/-- a card of 1 to 64 columns, in a block of its own at B0 or above -/
def CardIn (B0 : Nat) (W : World) (d : CardV) : Prop := CardFrom B0 W d.at_ d.xs ∧ 1 ≤ d.xs.length ∧ d.xs.length ≤ 64
def cardVals (D : List CardV) : List Value := D.map CardV.value
/-- a list of cards that the program owns, no two in one block -/
def DeckIn (base : Nat) (W : World) (v : Value) (D : List CardV) : Prop :=
  W.ownsRow base 26 1 v D.length (cardVals D) ∧ (∀ d ∈ D, CardIn base W d) ∧ D.Pairwise (fun d e => d.at_ ≠ e.at_)

theorem CardIn.moved {B0 : Nat} {W W' : World} {d : CardV} (h : CardIn B0 W d) (hk : ∀ i, B0 ≤ i → i < W.heap.size → (∀ cur, W.heap[i]? ≠ some (.cells cur 26 (0, 0))) → W'.heap[i]? = W.heap[i]?) : CardIn B0 W' d := by
  refine ⟨fun h0 => ?_, h.2⟩
  obtain ⟨b, ex, h1, h2, h3⟩ := h.1 h0
  refine ⟨b, ex, h1, h2, ?_⟩
  have hr := h3
  unfold Row at hr ⊢
  rw [hk b h2 h3.lt (fun cur hc => by rw [hr] at hc; injection hc with hc; injection hc with _ hc; exact absurd hc (by decide))]
  exact hr
theorem DeckIn.only {base g : Nat} {W W' : World} {v : Value} {D : List CardV} (h : DeckIn base W v D) (hg : W.grownBy W' (some g)) (hlt : g < base) : DeckIn base W' v D :=
  ⟨own_only h.1 hg hlt, fun d hd => (h.2.1 d hd).moved fun i hi hiw _ => hg.block i hiw (fun e => by injection e with e; omega), h.2.2⟩
theorem DeckIn.below {base : Nat} {W W' : World} {v : Value} {D : List CardV} (h : DeckIn base W v D) (hb : Below W.heap.size W W') : DeckIn base W' v D :=
  ⟨own_moved h.1 fun i _ hi => hb.block i hi, fun d hd => (h.2.1 d hd).moved fun i _ hi _ => hb.block i hi, h.2.2⟩
theorem CardIn.below {B0 : Nat} {W W' : World} {d : CardV} (h : CardIn B0 W d) (hb : Below W.heap.size W W') : CardIn B0 W' d := h.moved fun i _ hi _ => hb.block i hi
theorem CardIn.grown {base n : Nat} {W W' : World} {v : Value} {xs : List Value} {o : Obj} {d : CardV} (h : CardIn base W d) (hgrow : (W.alloc o).grownBy W' v.ownBlock) (hown : W.ownsRow base 26 1 v n xs) : CardIn base W' d :=
  h.moved fun i _ hi hc => by
    rw [hgrow.block i (by simp; omega) (fun e => ?_), Below.heap_alloc W o i hi]
    rcases hown.2 with ⟨rfl, _⟩ | ⟨g, cap, cur, rfl, hb, hh, _⟩
    · cases e
    · injection e with e
      have e' : i = g := e
      subst e'
      exact hc cur hh
theorem DeckIn.fresh {base gr : Nat} {W : World} {v : Value} {D : List CardV} (h : DeckIn base W v D) (hg : W.heap.size ≤ gr) : ∀ x ∈ D, x.at_ ≠ some ⟨gr, 0, none⟩ := fun x hx e => by
  obtain ⟨b, ex, h1, _, h3⟩ := (h.2.1 x hx).1 (by have := (h.2.1 x hx).2.1; omega)
  have := h3.lt
  rw [h1] at e
  injection e with e
  injection e with e
  omega
theorem DeckIn.push {base : Nat} {W W' : World} {v v' : Value} {D : List CardV} {o : Obj} {d : CardV} (h : DeckIn base W v D) (hd : CardIn base W d) (hnew : ∀ x ∈ D, x.at_ ≠ d.at_) (hgrow : (W.alloc o).grownBy W' v.ownBlock) (hown : W'.ownsRow base 26 1 v' (D.length + 1) (cardVals D ++ [d.value])) : DeckIn base W' v' (D ++ [d]) := by
  refine ⟨?_, fun x hx => ?_, List.pairwise_append.2 ⟨h.2.2, List.pairwise_singleton _ _, fun x hx y hy => by rw [List.mem_singleton.1 hy]; exact hnew x hx⟩⟩
  · have e : cardVals (D ++ [d]) = cardVals D ++ [d.value] := by simp [cardVals]
    rw [e, List.length_append]
    exact hown
  · rcases List.mem_append.1 hx with hx | hx
    · exact (h.2.1 x hx).grown hgrow h.1
    · rw [List.mem_singleton.1 hx]
      exact hd.grown hgrow h.1
theorem one_cardD (W : World) (u : Value) : ∀ j y, [u][j]? = some y → (W.alloc (.cells #[u] 26)).cell? ((⟨W.heap.size, 0, none⟩ : Addr).add j) = some y := by
  intro j y hj
  match j, hj with
  | 0, hj => simp at hj; subst hj; simp [Addr.add]
theorem one_cardDc (A : Option Addr) (n c : Nat) : ∀ u ∈ [Value.slice A n c], u.oneCell' = true := by
  intro u hu
  simp at hu
  subst hu
  rfl

theorem DeckIn.cell {base gq n cq : Nat} {W : World} {D : List CardV} (h : DeckIn base W (.slice (some ⟨gq, 0, none⟩) n cq) D) {k : Nat} (hk : k < D.length) : W.cell? ⟨gq, k, none⟩ = some (D[k]'hk).value := by
  have hc := h.1.cells (g := gq) rfl k (D[k]'hk).value (by simp [cardVals, hk])
  have e : (⟨gq, 0, none⟩ : Addr).add k = ⟨gq, k, none⟩ := by
    by_cases hk0 : k = 0
    · subst hk0
      simp [Addr.add]
    · simp [Addr.add, hk0]
  rw [e] at hc
  exact hc
/-- The list as the contracts of decks want it. -/
theorem DeckIn.deck {base gq n cq : Nat} {W : World} {D : List CardV} (h : DeckIn base W (.slice (some ⟨gq, 0, none⟩) n cq) D) : Deck W W.heap.size (some ⟨gq, 0, none⟩) D := fun _ =>
  ⟨gq, 0, rfl, (h.1.lt gq rfl).2, fun i d hd => by
    obtain ⟨hi, rfl⟩ := List.getElem?_eq_some_iff.1 hd
    rw [Nat.zero_add]
    exact ⟨h.cell hi, (h.2.1 _ (List.getElem_mem hi)).1.ints⟩⟩

/-- What a drawn list of cards leaves. -/
def DrawsDeckIn (r B g K : Nat) (w : World) (e : Ending) (w' : World) : Prop :=
  ∃ gq cq D, e = .returned (.slice (some ⟨gq, 0, none⟩) D.length cq) ∧ D.length ≤ r ∧ w.grownBy w' (some g) ∧ DeckIn w.heap.size w' (.slice (some ⟨gq, 0, none⟩) D.length cq) D ∧ Src w' B g K

set_option maxRecDepth 100000 in
set_option maxHeartbeats 4000000 in
theorem l02DrawDeck_any (m r B g k0 : Nat) (w : World) (h : Src w B g k0) (h1 : 1 ≤ m) (h64 : m ≤ 64) (hr : r ≤ 100) (hk : k0 ≤ 10000) :
    Calls Try.prog 119 #[.pointer (some ⟨g, 0, none⟩), .int .i64 m, .int .i64 r] w (DrawsDeckIn r B g (k0 + 2 + 600 * r) w) := by
  obtain ⟨i0, hi0, hz0, hz1, hz2⟩ := info_parts info_card
  have hglt := h.lt
  have HP := Lib.hid (pick_any (w.alloc (.cells #[] 26)) B g k0 ((r : Int) + 1) (h.boxed _) (by omega) (by omega) (by omega))
  clear h
  go_enter Try.func119, Try.ntmps119
  go_wp2_with fail
  refine HP.out.mono ?_
  rintro e w1 ⟨q, rfl, hq0, hq1, hg, hs⟩
  obtain ⟨k1, rfl⟩ : ∃ k1 : Nat, q = k1 := ⟨q.toNat, by omega⟩
  have HG1 := Lib.hid (only_step (only_box w _ g) hg)
  have HD1 : Hid (DeckIn w.heap.size w1 (.slice (some ⟨w.heap.size, 0, none⟩) 0 0) []) := DeckIn.only ⟨⟨rfl, Or.inr ⟨w.heap.size, 0, #[], rfl, Nat.le_refl _, heap_alloc_new w _, Nat.le_refl _, Nat.zero_le _, rfl, rfl⟩⟩, (fun d hd => by cases hd), List.Pairwise.nil⟩ hg hglt
  have HS1 := Lib.hid hs
  clear hg hs HP
  go_wp2
  go_loopw [7, 8] (fun o i wr => ∃ k : Nat, ∃ D : List CardV, ∃ gq cq : Nat, D.length + k = k1 ∧ i = .int .i64 k ∧ o = .slice (some ⟨gq, 0, none⟩) D.length cq ∧ Hid (w.grownBy wr (some g)) ∧ Hid (Src wr B g (k0 + 2 + 600 * D.length)) ∧ Hid (DeckIn w.heap.size wr (.slice (some ⟨gq, 0, none⟩) D.length cq) D)) (fun _ i _ => (intOf i).toNat)
  case atStart => exact ⟨k1, [], w.heap.size, 0, by simp, rfl, rfl, HG1.out, HS1.out, HD1.out⟩
  case round =>
    clear HG1 HD1 HS1
    obtain ⟨k, D, gq, cq, hjk, rfl, rfl, HG, HS, HD⟩ := hrel
    by_cases hlt : 0 < k
    · have hk1 : (0 : Int) < (k : Int) := by omega
      have HP := Lib.hid (l02Draw_any m B g (k0 + 2 + 600 * D.length) wr HS.out h1 h64 (by omega))
      go_wp2_with fail
      refine HP.out.mono ?_
      rintro e w3 ⟨gr, cap, l, ex, rfl, hl, _, _, _, hgr, hg, hs, hrow⟩
      have HG3 := Lib.hid (only_step HG.out hg)
      have HD3 := Lib.hid (HD.out.only hg hglt)
      have HS3 := Lib.hid (hs.more (k' := k0 + 2 + 600 * (D.length + 1)) (by omega))
      have hszr : w.heap.size ≤ wr.heap.size := HG.out.size
      have HCA : Hid (CardIn w.heap.size w3 ⟨some ⟨gr, 0, none⟩, cap, l⟩) := ⟨fun _ => ⟨gr, ex, rfl, by omega, hrow⟩, by show 1 ≤ l.length; omega, by show l.length ≤ 64; omega⟩
      have HNEW := Lib.hid (HD.out.fresh hgr)
      have hsz3 : w.heap.size ≤ w3.heap.size := HG3.out.size
      clear hg hs hrow HP HG HD HS hl
      go_wp2_with (at_builtin; (refine wpList_append_own _ rfl _ _ 43 rfl w.heap.size 26 i0 (.agg #[.slice none 0 0]) 1 24 Try.underlying43 hi0 hz0 hz1 hz2 rfl (by decide) _ _ _ rfl (HD3.out.1.alloc _) ⟨w3.heap.size, 0, none⟩ 1 1 [.slice (some ⟨gr, 0, none⟩) l.length cap] rfl rfl ?c1 ?c2 ?c3 ?c4 ?c5 ?_; rotate_left 5; intro v' w9 hown hgrow _; obtain ⟨gq', cq', rfl⟩ := int_shape hown (Nat.succ_pos _); have HG9 := Lib.hid (only_append HG3.out hgrow HD3.out.1 (Nat.le_refl _)); have HS9 := Lib.hid (HS3.out.keep (fun i hi => append_block hgrow HD3.out.1 (by omega) (by omega))); have HD9 := Lib.hid (HD3.out.push HCA.out HNEW.out hgrow hown); clear hown hgrow))
      case c1 => exact one_cardD _ _
      case c2 => exact one_cardDc _ _ _
      case c3 => unfold maxLen; omega
      case c4 => omega
      case c5 => first | omega | (simp; omega)
      go_roundw
      case rel =>
        have hL : (D ++ [(⟨some ⟨gr, 0, none⟩, cap, l⟩ : CardV)]).length = D.length + 1 := by simp
        refine ⟨k - 1, D ++ [⟨some ⟨gr, 0, none⟩, cap, l⟩], gq', cq', by omega, by go_num, by rw [hL], HG9.out, by rw [hL]; exact HS9.out, by rw [hL]; exact HD9.out⟩
      case measure => simp [intOf]; omega
    · obtain rfl : k = 0 := by omega
      have hk1 : ¬ (0 : Int) < ((0 : Nat) : Int) := by omega
      go_wp2
      go_ret
      exact ⟨gq, cq, D, rfl, by omega, HG.out, HD.out, HS.out.more (by omega)⟩
end Go.Proofs.Ytjfogadcedgndaa
