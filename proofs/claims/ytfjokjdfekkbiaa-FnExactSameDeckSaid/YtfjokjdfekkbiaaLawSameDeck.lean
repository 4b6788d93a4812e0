/- For every two lists of cards, the law FnExactSameDeck returns true: impl.SameDeck answers as spec.SameDeck and leaves its arguments as they were. Conditions: none. -/
import Derived.Test.YtfjokjdfekkbiaaDeckSame
import Derived.Test.YtfjokjdfekkbiaaLawDeck
namespace Go.Proofs.Ytfjokjdfekkbiaa.fnExactSameDeck
open Go.ChangeShapes Go.WideShapes Go.ChangeAt Go.RowKit

theorem walk_big (A A' : Option Addr) (c c' : Nat) (D : List CardV) (m : Nat) (w : World) (h : Deck w w.heap.size A D) (hn : D.length ≤ 9223372036854775807) (hl : ∀ d ∈ D, d.xs.length ≤ 9223372036854775807) (hbig : (1048576 : Int) < (szTo D D.length : Int)) :
    Calls Try.prog 6 #[.slice A D.length c, .slice A' m c'] w fun e w' => e = .returned (.bool true) ∧ Below w.heap.size w w' := by
  have HS := Lib.hid (szCards_big A c D 1048576 w.heap.size w h (Nat.le_refl _) (by omega) (by omega) hn hl hbig)
  obtain ⟨n, hN⟩ : ∃ n, D.length = n := ⟨_, rfl⟩
  rw [hN] at HS
  rw [hN]
  clear h hn hl hbig hN
  go_enter Try.func6, Try.ntmps6
  go_wp2_with fail
  refine HS.out.mono ?_
  rintro e w1 ⟨rfl, hb1⟩
  have B1 := Lib.hid hb1
  clear hb1
  go_wp2
  go_ret
  exact ⟨rfl, B1.out⟩

theorem walk_big2 (A A' : Option Addr) (c c' : Nat) (D E : List CardV) (w : World) (h : Deck w w.heap.size A D) (h' : Deck w w.heap.size A' E) (hs : (szTo D D.length : Int) ≤ 1048576) (hn : E.length ≤ 9223372036854775807) (hl : ∀ d ∈ E, d.xs.length ≤ 9223372036854775807)
    (hbig : (1048576 : Int) - (szTo D D.length : Int) < (szTo E E.length : Int)) :
    Calls Try.prog 6 #[.slice A D.length c, .slice A' E.length c'] w fun e w' => e = .returned (.bool true) ∧ Below w.heap.size w w' := by
  have HS := Lib.hid (szCards_small A c D 1048576 w.heap.size w h (Nat.le_refl _) (by omega) hs)
  have HS' := Lib.hid (fun (W : World) (hW : w.heap.size ≤ W.heap.size) (hD : Deck W w.heap.size A' E) => szCards_big A' c' E (1048576 - szTo D D.length) w.heap.size W hD hW (by omega) (by omega) hn hl hbig)
  have H' := Lib.hid h'
  obtain ⟨n, hN⟩ : ∃ n, D.length = n := ⟨_, rfl⟩
  obtain ⟨m, hM⟩ : ∃ m, E.length = m := ⟨_, rfl⟩
  obtain ⟨t, ht⟩ : ∃ t, szTo D D.length = t := ⟨_, rfl⟩
  rw [ht] at HS HS' hs
  rw [hN] at HS
  rw [hM] at HS'
  rw [hN, hM]
  have hge : ¬ (1048576 - (t : Int)) < 0 := by omega
  clear h h' hn hl hbig hN hM ht
  go_enter Try.func6, Try.ntmps6
  go_wp2_with fail
  refine HS.out.mono ?_
  rintro e w1 ⟨rfl, hb⟩
  have B1 := Lib.hid hb
  clear hb HS
  go_wp2_with fail
  refine (HS'.out _ B1.out.size (H'.out.below B1.out)).mono ?_
  rintro e w2 ⟨rfl, hb⟩
  have B2 := Lib.hid (below_step B1.out hb)
  clear hb HS' B1
  go_wp2
  go_ret
  exact ⟨rfl, B2.out⟩

theorem walk_small (A A' : Option Addr) (c c' : Nat) (D D' : List CardV) (w : World) (h : Deck w w.heap.size A D) (h' : Deck w w.heap.size A' D') (hs : (szTo D D.length : Int) ≤ 1048576) (hs' : (szTo D' D'.length : Int) ≤ 1048576 - (szTo D D.length : Int)) :
    Calls Try.prog 6 #[.slice A D.length c, .slice A' D'.length c'] w fun e w' => e = .returned (.bool true) ∧ Below w.heap.size w w' := by
  have HS := Lib.hid (szCards_small A c D 1048576 w.heap.size w h (Nat.le_refl _) (by omega) hs)
  have HS' := Lib.hid (fun (W : World) (hW : w.heap.size ≤ W.heap.size) (hD : Deck W w.heap.size A' D') => szCards_small A' c' D' (1048576 - szTo D D.length) w.heap.size W hD hW (by omega) hs')
  obtain ⟨r, hr⟩ : ∃ r, decide (holes D = holes D') = r := ⟨_, rfl⟩
  obtain ⟨n, hN⟩ : ∃ n, D.length = n := ⟨_, rfl⟩
  obtain ⟨m, hM⟩ : ∃ m, D'.length = m := ⟨_, rfl⟩
  obtain ⟨t, ht⟩ : ∃ t, szTo D D.length = t := ⟨_, rfl⟩
  obtain ⟨u, hu⟩ : ∃ u, szTo D' D'.length = u := ⟨_, rfl⟩
  have hn : n ≤ 1048576 := by have := szTo_len D; omega
  have hm : m ≤ 1048576 := by have := szTo_len D'; omega
  have hl : ∀ d ∈ D, d.xs.length ≤ 1048576 := fun d hd => by have := szTo_each D d hd; omega
  have hl' : ∀ d ∈ D', d.xs.length ≤ 1048576 := fun d hd => by have := szTo_each D' d hd; omega
  have HT : Hid (∀ W : World, w.heap.size ≤ W.heap.size → Deck W w.heap.size A D → Calls Try.prog 24 #[.slice A n c] W fun e w' => e = .returned (.slice (some ⟨W.heap.size, 0, none⟩) n n) ∧ ∃ E, holes E = holes D ∧ E.length = n ∧ Below W.heap.size W w' ∧ OwnDeck w' W.heap.size E n) := fun W hW hD => by
    have := toCards_any A c D w.heap.size W hD hW (by omega) hl
    rwa [hN] at this
  have HT' : Hid (∀ W : World, w.heap.size ≤ W.heap.size → Deck W w.heap.size A' D' → Calls Try.prog 24 #[.slice A' m c'] W fun e w' => e = .returned (.slice (some ⟨W.heap.size, 0, none⟩) m m) ∧ ∃ E, holes E = holes D' ∧ E.length = m ∧ Below W.heap.size W w' ∧ OwnDeck w' W.heap.size E m) := fun W hW hD => by
    have := toCards_any A' c' D' w.heap.size W hD hW (by omega) hl'
    rwa [hM] at this
  have HV : Hid (∀ (W : World) (E F : List CardV) (g f : Nat), holes E = holes D → holes F = holes D' → OwnDeck W g E n → OwnDeck W f F m → Calls Try.prog 27 #[.slice (some ⟨g, 0, none⟩) n n, .slice (some ⟨f, 0, none⟩) m m] W fun e w' => e = .returned (.bool r) ∧ Below W.heap.size W w') := fun W E F g f hE hF hO hP => by
    have hEn : E.length = n := (holes_length hE).trans hN
    have hFn : F.length = m := (holes_length hF).trans hM
    have := specSameDeck_any (some ⟨g, 0, none⟩) (some ⟨f, 0, none⟩) n m E F W.heap.size W.heap.size W (hO.deck' hEn) (hP.deck' hFn) (Nat.le_refl _) (Nat.le_refl _) (by omega) (by omega) (holes_each hE hl) (holes_each hF hl')
    rwa [hE, hF, hEn, hFn, hr] at this
  have HI : Hid (∀ (W : World) (E F : List CardV) (g f : Nat), holes E = holes D → holes F = holes D' → OwnDeck W g E n → OwnDeck W f F m → Calls Try.prog 28 #[.slice (some ⟨g, 0, none⟩) n n, .slice (some ⟨f, 0, none⟩) m m] W fun e w' => e = .returned (.bool r) ∧ Below W.heap.size W w') := fun W E F g f hE hF hO hP => by
    have hEn : E.length = n := (holes_length hE).trans hN
    have hFn : F.length = m := (holes_length hF).trans hM
    have := implSameDeck_any (some ⟨g, 0, none⟩) (some ⟨f, 0, none⟩) n m E F W.heap.size W.heap.size W (hO.deck' hEn) (hP.deck' hFn) (Nat.le_refl _) (Nat.le_refl _) (by omega) (by omega) (holes_each hE hl) (holes_each hF hl')
    rwa [hE, hF, hEn, hFn, hr] at this
  have HE : Hid (∀ (W : World) (C E F : List CardV) (k g f : Nat), (∀ d ∈ C, d.xs.length ≤ 1048576) → C.length = k → k ≤ 1048576 → holes E = holes C → holes F = holes C → OwnDeck W g E k → OwnDeck W f F k → Calls Try.prog 26 #[.slice (some ⟨g, 0, none⟩) k k, .slice (some ⟨f, 0, none⟩) k k] W fun e w' => e = .returned (.bool true) ∧ Below W.heap.size W w') := fun W C E F k g f hC hK hk hE hF hO hP => by
    have hEn : E.length = k := (holes_length hE).trans hK
    have hFn : F.length = k := (holes_length hF).trans hK
    have := eqCards_any (some ⟨g, 0, none⟩) (some ⟨f, 0, none⟩) k k E F W.heap.size W.heap.size W (hO.deck' hEn) (hP.deck' hFn) (Nat.le_refl _) (Nat.le_refl _) (by omega) (by omega) (holes_each hE hC) (holes_each hF hC)
    rw [hE, hF, hEn, hFn] at this
    simpa using this
  have HE1 := Lib.hid (fun W E F g f => HE.out W D E F n g f hl hN hn)
  have HE2 := Lib.hid (fun W E F g f => HE.out W D' E F m g f hl' hM hm)
  rw [ht] at HS HS' hs hs'
  rw [hu] at HS' hs'
  rw [hN] at HS
  rw [hM] at HS'
  rw [hN, hM]
  have H := Lib.hid h
  have H' := Lib.hid h'
  have hge : ¬ (1048576 - (t : Int)) < 0 := by omega
  have hge' : ¬ (1048576 - (t : Int) - (u : Int)) < 0 := by omega
  clear h h' hN hM hr ht hu hl hl' hn hm HE
  go_enter Try.func6, Try.ntmps6
  go_wp2_with fail
  refine HS.out.mono ?_
  rintro e w1 ⟨rfl, hb⟩
  have B0 := Lib.hid hb
  clear hb HS
  go_wp2_with fail
  refine (HS'.out _ B0.out.size (H'.out.below B0.out)).mono ?_
  rintro e w1 ⟨rfl, hb⟩
  have B1 := Lib.hid (below_step B0.out hb)
  clear hb HS' B0
  go_wp2_with fail
  refine (HT.out _ B1.out.size (H.out.below B1.out)).mono ?_
  rintro e w2 ⟨rfl, E1, hE1, _, hb, hO⟩
  have X1 := Lib.hid hE1
  have B2 := Lib.hid (below_step B1.out hb)
  have O1 := Lib.hid hO
  clear hE1 hb hO B1
  go_wp2_with fail
  refine (HT'.out _ B2.out.size (H'.out.below B2.out)).mono ?_
  rintro e w3 ⟨rfl, E2, hE2, _, hb, hO⟩
  have X2 := Lib.hid hE2
  have B3 := Lib.hid (below_step B2.out hb)
  have O2 := Lib.hid (O1.out.later hb)
  have P2 := Lib.hid hO
  clear hE2 hb hO B2 O1
  go_wp2_with fail
  refine (HV.out _ E1 E2 _ _ X1.out X2.out O2.out P2.out).mono ?_
  rintro e w4 ⟨rfl, hb⟩
  have B4 := Lib.hid (below_step B3.out hb)
  clear hb B3 O2 P2 X1 X2 HV
  go_wp2_with fail
  refine (HT.out _ B4.out.size (H.out.below B4.out)).mono ?_
  rintro e w5 ⟨rfl, E3, hE3, _, hb, hO⟩
  have X3 := Lib.hid hE3
  have B5 := Lib.hid (below_step B4.out hb)
  have O5 := Lib.hid hO
  clear hE3 hb hO B4
  go_wp2_with fail
  refine (HT'.out _ B5.out.size (H'.out.below B5.out)).mono ?_
  rintro e w6 ⟨rfl, E4, hE4, _, hb, hO⟩
  have X4 := Lib.hid hE4
  have B6 := Lib.hid (below_step B5.out hb)
  have O6 := Lib.hid (O5.out.later hb)
  have P6 := Lib.hid hO
  clear hE4 hb hO B5 O5
  go_wp2_with fail
  refine (HI.out _ E3 E4 _ _ X3.out X4.out O6.out P6.out).mono ?_
  rintro e w7 ⟨rfl, hb⟩
  have B7 := Lib.hid (below_step B6.out hb)
  have O7 := Lib.hid (O6.out.later hb)
  have P7 := Lib.hid (P6.out.later hb)
  clear hb B6 O6 P6 HI
  cases r
  all_goals
    go_wp2_with fail
    refine (HT.out _ B7.out.size (H.out.below B7.out)).mono ?_
    rintro e w8 ⟨rfl, E5, hE5, _, hb, hO⟩
    have X5 := Lib.hid hE5
    have B8 := Lib.hid (below_step B7.out hb)
    have O8 := Lib.hid (O7.out.later hb)
    have P8 := Lib.hid (P7.out.later hb)
    have Q8 := Lib.hid hO
    clear hE5 hb hO
    go_wp2_with fail
    refine (HE1.out _ E3 E5 _ _ X3.out X5.out O8.out Q8.out).mono ?_
    rintro e w9 ⟨rfl, hb⟩
    have B9 := Lib.hid (below_step B8.out hb)
    have P9 := Lib.hid (P8.out.later hb)
    clear hb
    go_wp2_with fail
    refine (HT'.out _ B9.out.size (H'.out.below B9.out)).mono ?_
    rintro e w10 ⟨rfl, E6, hE6, _, hb, hO⟩
    have X6 := Lib.hid hE6
    have B10 := Lib.hid (below_step B9.out hb)
    have P10 := Lib.hid (P9.out.later hb)
    have Q10 := Lib.hid hO
    clear hE6 hb hO
    go_wp2_with fail
    refine (HE2.out _ E4 E6 _ _ X4.out X6.out P10.out Q10.out).mono ?_
    rintro e w11 ⟨rfl, hb⟩
    have B11 := Lib.hid (below_step B10.out hb)
    clear hb
    go_wp2
    go_ret
    exact ⟨rfl, B11.out⟩

theorem walk (A : Option Addr) (c : Nat) (D : List CardV) {w : World} (h : Deck w w.heap.size A D) (hl : D.length ≤ 9223372036854775807 ∧ ∀ d ∈ D, d.xs.length ≤ 9223372036854775807)
    (A' : Option Addr) (c' : Nat) (E : List CardV) {w0 : World} (h' : Deck w0 w0.heap.size A' E) (hl' : E.length ≤ 9223372036854775807 ∧ ∀ d ∈ E, d.xs.length ≤ 9223372036854775807) (w1 : World) (e1 : w = w1) (e0 : w0 = w1) :
    Calls Try.prog 6 #[.slice A D.length c, .slice A' E.length c'] w1 fun e w' => e = .returned (.bool true) ∧ Below w1.heap.size w1 w' := by
  subst e1
  subst e0
  by_cases hn : (szTo D D.length : Int) ≤ 1048576
  · by_cases hm : (szTo E E.length : Int) ≤ 1048576 - (szTo D D.length : Int)
    · exact walk_small A A' c c' D E _ h h' hn hm
    · exact walk_big2 A A' c c' D E _ h h' hn hl'.1 hl'.2 (by omega)
  · exact walk_big A A' c c' D E.length _ h hl.1 hl.2 (by omega)

set_option maxRecDepth 100000 in
theorem lifted (os : Os) (started : os.Started) (H : Type) (enc : TypeId × Value → H) :
    ReturnsInHanded {} Try.checked os 6 .any (Rows.fnExactSameDeckSpec.pre6 enc Try.prog Try.f6 Rows.fnExactSameDeckRow.domain false) (Rows.fnExactSameDeckSpec.post enc Try.prog Try.f6 false true false false) := by
  refine returnsInHanded_of_change (C := Try.checked) own started (by kernel_rfl) Try.func6
    (ChangeSpec.witness6 (enc := enc) (C := Try.checked) false ⟨#[], #[.slice none 0 0, .slice none 0 0], []⟩ 8 (by kernel_rfl) (by kernel_rfl) (by kernel_rfl) (by kernel_rfl)) ?_
  intro W base args ds gs before hval0 hW _ _
  have hval : ∀ (j : Nat) t v, Try.f6.params[j]? = some t → args[j]? = some v → Value.okWide Try.prog W .any base t v := hval0
  have hW' := hW
  obtain ⟨p, q, hA0, hV, rfl, _, _⟩ := hW
  have hA : DataW.TrodAll enc Try.prog W 0 (fun _ => true) true Try.f6.params.toList args.toList ds p := hA0
  rw [Try.params6] at hA hval
  obtain ⟨v0, vs0, d0, ds0, p0, q0, hargs, rfl, rfl, h0, r0⟩ := trodAll_cons hA
  obtain ⟨v1, vs1, d1, ds1, p1, q1, rfl, rfl, rfl, h1, r1⟩ := trodAll_cons r0
  obtain ⟨rfl, rfl, rfl⟩ := trodAll_nil r1
  obtain rfl : args = #[v0, v1] := by cases args; simp_all
  obtain ⟨rfl, rfl⟩ := trodVars_none hV
  obtain ⟨A0, c0, D0, rfl, i0, l0⟩ := open_deck (hval 0 32 v0 rfl rfl) h0
  obtain ⟨A1, c1, D1, rfl, i1, l1⟩ := open_deck (hval 1 32 v1 rfl rfl) h1
  refine (walk A0 c0 D0 i0 l0 A1 c1 D1 i1 l1 W rfl rfl).mono fun e W' ⟨he, hb⟩ => ?_
  subst he
  refine ⟨_, rfl, law_post hW' rfl rfl ?_ rfl rfl rfl hb⟩
  intro t ht
  rw [Try.params6] at ht
  obtain rfl : t = 32 := by simpa using ht
  exact ⟨by kernel_rfl, of_decide_eq_true (by kernel_rfl)⟩

theorem over : Rows.fnExactSameDeckRow.holds Try.pinned (OpenSpec.ofChange Rows.fnExactSameDeckSpec) :=
  OpenClaim.holds_of_wide 6 Try.f6 rfl rfl rfl rfl rfl rfl rfl ⟨rfl, rfl, rfl, rfl, rfl⟩ rfl rfl rfl rfl rfl (by kernel_rfl) Try.func6 (by kernel_rfl)
    (of_decide_eq_true (by kernel_rfl)) (by unfold Func.isWrapper; first | (rw [if_pos (by decide +kernel)]; kernel_rfl) | (rw [if_neg (by decide +kernel)]; exact ⟨rfl, rfl⟩))
    (fun os started H enc _ => lifted os started H enc)

theorem proved : Rows.FnExactSameDeckSaid :=
  over
end Go.Proofs.Ytfjokjdfekkbiaa.fnExactSameDeck
