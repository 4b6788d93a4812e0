/- For every list of cards, the law FnExactValidDeck returns true: impl.ValidDeck answers as spec.ValidDeck and leaves its argument as it was. Conditions: none. -/
import Derived.Test.YtfjokjdfekkbiaaDeckValid
import Derived.Test.YtfjokjdfekkbiaaLawDeck
namespace Go.Proofs.Ytfjokjdfekkbiaa.fnExactValidDeck
open Go.ChangeShapes Go.WideShapes Go.ChangeAt Go.RowKit

theorem walk_big (A : Option Addr) (c : Nat) (D : List CardV) (w : World) (h : Deck w w.heap.size A D) (hn : D.length ≤ 9223372036854775807) (hl : ∀ d ∈ D, d.xs.length ≤ 9223372036854775807) (hbig : (1048576 : Int) < (szTo D D.length : Int)) :
    Calls Try.prog 5 #[.slice A D.length c] w fun e w' => e = .returned (.bool true) ∧ Below w.heap.size w w' := by
  have HS := Lib.hid (szCards_big A c D 1048576 w.heap.size w h (Nat.le_refl _) (by omega) (by omega) hn hl hbig)
  obtain ⟨n, hN⟩ : ∃ n, D.length = n := ⟨_, rfl⟩
  rw [hN] at HS
  rw [hN]
  clear h hn hl hbig hN
  go_enter Try.func5, Try.ntmps5
  go_wp2_with fail
  refine HS.out.mono ?_
  rintro e w1 ⟨rfl, hb1⟩
  have B1 := Lib.hid hb1
  clear hb1
  go_wp2
  go_ret
  exact ⟨rfl, B1.out⟩

theorem walk_small (A : Option Addr) (c : Nat) (D : List CardV) (w : World) (h : Deck w w.heap.size A D) (hs : (szTo D D.length : Int) ≤ 1048576) :
    Calls Try.prog 5 #[.slice A D.length c] w fun e w' => e = .returned (.bool true) ∧ Below w.heap.size w w' := by
  have HS := Lib.hid (szCards_small A c D 1048576 w.heap.size w h (Nat.le_refl _) (by omega) hs)
  obtain ⟨r, hr⟩ : ∃ r, deckB (holes D) = r := ⟨_, rfl⟩
  obtain ⟨n, hN⟩ : ∃ n, D.length = n := ⟨_, rfl⟩
  obtain ⟨t, ht⟩ : ∃ t, szTo D D.length = t := ⟨_, rfl⟩
  have hn : n ≤ 1048576 := by have := szTo_len D; omega
  have hl : ∀ d ∈ D, d.xs.length ≤ 1048576 := fun d hd => by have := szTo_each D d hd; omega
  have HT : Hid (∀ W : World, w.heap.size ≤ W.heap.size → Deck W w.heap.size A D → Calls Try.prog 24 #[.slice A n c] W fun e w' => e = .returned (.slice (some ⟨W.heap.size, 0, none⟩) n n) ∧ ∃ E, holes E = holes D ∧ E.length = n ∧ Below W.heap.size W w' ∧ OwnDeck w' W.heap.size E n) := fun W hW hD => by
    have := toCards_any A c D w.heap.size W hD hW (by omega) hl
    rwa [hN] at this
  have HV : Hid (∀ (W : World) (E : List CardV) (g : Nat), holes E = holes D → OwnDeck W g E n → Calls Try.prog 23 #[.slice (some ⟨g, 0, none⟩) n n] W fun e w' => e = .returned (.bool r) ∧ Below W.heap.size W w') := fun W E g hE hO => by
    have hEn : E.length = n := (holes_length hE).trans hN
    have := specValidDeck_any (some ⟨g, 0, none⟩) n E W.heap.size W (hO.deck' hEn) (Nat.le_refl _) (by omega) (holes_each hE hl)
    rwa [hE, hr, hEn] at this
  have HI : Hid (∀ (W : World) (E : List CardV) (g : Nat), holes E = holes D → OwnDeck W g E n → Calls Try.prog 25 #[.slice (some ⟨g, 0, none⟩) n n] W fun e w' => e = .returned (.bool r) ∧ Below W.heap.size W w') := fun W E g hE hO => by
    have hEn : E.length = n := (holes_length hE).trans hN
    have := implValidDeck_any (some ⟨g, 0, none⟩) n E W.heap.size W (hO.deck' hEn) (Nat.le_refl _) (by omega) (holes_each hE hl)
    rwa [hE, hr, hEn] at this
  have HE : Hid (∀ (W : World) (E F : List CardV) (g f : Nat), holes E = holes D → holes F = holes D → OwnDeck W g E n → OwnDeck W f F n → Calls Try.prog 26 #[.slice (some ⟨g, 0, none⟩) n n, .slice (some ⟨f, 0, none⟩) n n] W fun e w' => e = .returned (.bool true) ∧ Below W.heap.size W w') := fun W E F g f hE hF hO hP => by
    have hEn : E.length = n := (holes_length hE).trans hN
    have hFn : F.length = n := (holes_length hF).trans hN
    have := eqCards_any (some ⟨g, 0, none⟩) (some ⟨f, 0, none⟩) n n E F W.heap.size W.heap.size W (hO.deck' hEn) (hP.deck' hFn) (Nat.le_refl _) (Nat.le_refl _) (by omega) (by omega) (holes_each hE hl) (holes_each hF hl)
    rw [hE, hF, hEn, hFn] at this
    simpa using this
  rw [ht] at HS hs
  rw [hN] at HS
  rw [hN]
  have H := Lib.hid h
  clear h hN hr ht hl hn
  go_enter Try.func5, Try.ntmps5
  go_wp2_with fail
  refine HS.out.mono ?_
  rintro e w1 ⟨rfl, hb⟩
  have B1 := Lib.hid hb
  have hge : ¬ (1048576 - (t : Int)) < 0 := by omega
  clear hb HS
  go_wp2_with fail
  refine (HT.out _ B1.out.size (H.out.below B1.out)).mono ?_
  rintro e w2 ⟨rfl, E1, hE1, _, hb, hO⟩
  have X1 := Lib.hid hE1
  have B2 := Lib.hid (below_step B1.out hb)
  have O1 := Lib.hid hO
  clear hE1 hb hO B1
  go_wp2_with fail
  refine (HV.out _ E1 _ X1.out O1.out).mono ?_
  rintro e w3 ⟨rfl, hb⟩
  have B3 := Lib.hid (below_step B2.out hb)
  clear hb B2 O1 X1 HV
  go_wp2_with fail
  refine (HT.out _ B3.out.size (H.out.below B3.out)).mono ?_
  rintro e w4 ⟨rfl, E2, hE2, _, hb, hO⟩
  have X2 := Lib.hid hE2
  have B4 := Lib.hid (below_step B3.out hb)
  have O2 := Lib.hid hO
  clear hE2 hb hO B3
  go_wp2_with fail
  refine (HI.out _ E2 _ X2.out O2.out).mono ?_
  rintro e w5 ⟨rfl, hb⟩
  have B5 := Lib.hid (below_step B4.out hb)
  have O3 := Lib.hid (O2.out.later hb)
  clear hb B4 O2 HI
  cases r
  all_goals
    go_wp2_with fail
    refine (HT.out _ B5.out.size (H.out.below B5.out)).mono ?_
    rintro e w6 ⟨rfl, E3, hE3, _, hb, hO⟩
    have X3 := Lib.hid hE3
    have B6 := Lib.hid (below_step B5.out hb)
    have O4 := Lib.hid (O3.out.later hb)
    have O5 := Lib.hid hO
    clear hE3 hb hO
    go_wp2_with fail
    refine (HE.out _ E2 E3 _ _ X2.out X3.out O4.out O5.out).mono ?_
    rintro e w7 ⟨rfl, hb⟩
    have B7 := Lib.hid (below_step B6.out hb)
    clear hb
    go_wp2
    go_ret
    exact ⟨rfl, B7.out⟩

theorem walk (A : Option Addr) (c : Nat) (D : List CardV) {w : World} (h : Deck w w.heap.size A D) (hl : D.length ≤ 9223372036854775807 ∧ ∀ d ∈ D, d.xs.length ≤ 9223372036854775807) (w1 : World) (e1 : w = w1) :
    Calls Try.prog 5 #[.slice A D.length c] w1 fun e w' => e = .returned (.bool true) ∧ Below w1.heap.size w1 w' := by
  subst e1
  by_cases hn : (szTo D D.length : Int) ≤ 1048576
  · exact walk_small A c D w h hn
  · exact walk_big A c D w h hl.1 hl.2 (by omega)

set_option maxRecDepth 100000 in
theorem lifted (os : Os) (started : os.Started) (H : Type) (enc : TypeId × Value → H) :
    ReturnsInHanded {} Try.checked os 5 .any (Rows.fnExactValidDeckSpec.pre6 enc Try.prog Try.f5 Rows.fnExactValidDeckRow.domain false) (Rows.fnExactValidDeckSpec.post enc Try.prog Try.f5 false true false false) := by
  refine returnsInHanded_of_change (C := Try.checked) own started (by kernel_rfl) Try.func5
    (ChangeSpec.witness6 (enc := enc) (C := Try.checked) false ⟨#[], #[.slice none 0 0], []⟩ 8 (by kernel_rfl) (by kernel_rfl) (by kernel_rfl) (by kernel_rfl)) ?_
  intro W base args ds gs before hval0 hW _ _
  have hval : ∀ (j : Nat) t v, Try.f5.params[j]? = some t → args[j]? = some v → Value.okWide Try.prog W .any base t v := hval0
  have hW' := hW
  obtain ⟨p, q, hA0, hV, rfl, _, _⟩ := hW
  have hA : DataW.TrodAll enc Try.prog W 0 (fun _ => true) true Try.f5.params.toList args.toList ds p := hA0
  rw [Try.params5] at hA hval
  obtain ⟨v0, vs0, d0, ds0, p0, q0, hargs, rfl, rfl, h0, r0⟩ := trodAll_cons hA
  obtain ⟨rfl, rfl, rfl⟩ := trodAll_nil r0
  obtain rfl : args = #[v0] := by cases args; simp_all
  obtain ⟨rfl, rfl⟩ := trodVars_none hV
  obtain ⟨A0, c0, D0, rfl, i0, l0⟩ := open_deck (hval 0 32 v0 rfl rfl) h0
  refine (walk A0 c0 D0 i0 l0 W rfl).mono fun e W' ⟨he, hb⟩ => ?_
  subst he
  refine ⟨_, rfl, law_post hW' rfl rfl ?_ rfl rfl rfl hb⟩
  intro t ht
  rw [Try.params5] at ht
  obtain rfl : t = 32 := by simpa using ht
  exact ⟨by kernel_rfl, of_decide_eq_true (by kernel_rfl)⟩

theorem over : Rows.fnExactValidDeckRow.holds Try.pinned (OpenSpec.ofChange Rows.fnExactValidDeckSpec) :=
  OpenClaim.holds_of_wide 5 Try.f5 rfl rfl rfl rfl rfl rfl rfl ⟨rfl, rfl, rfl, rfl, rfl⟩ rfl rfl rfl rfl rfl (by kernel_rfl) Try.func5 (by kernel_rfl)
    (of_decide_eq_true (by kernel_rfl)) (by unfold Func.isWrapper; first | (rw [if_pos (by decide +kernel)]; kernel_rfl) | (rw [if_neg (by decide +kernel)]; exact ⟨rfl, rfl⟩))
    (fun os started H enc _ => lifted os started H enc)

theorem proved : Rows.FnExactValidDeckSaid :=
  over
end Go.Proofs.Ytfjokjdfekkbiaa.fnExactValidDeck
