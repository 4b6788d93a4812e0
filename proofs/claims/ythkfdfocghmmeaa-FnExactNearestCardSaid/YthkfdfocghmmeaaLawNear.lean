/- For every deck and card, the law FnExactNearestCard returns true: impl.NearestCard answers as spec.NearestCard and leaves its arguments as they were. Conditions: none. -/
import Derived.Test.YthkfdfocghmmeaaNear3
import Derived.Test.YthkfdfocghmmeaaLawDeck
import Derived.Test.YthkfdfocghmmeaaLaw
import Derived.Test.YthkfdfocghmmeaaBoxed
import Derived.Deep.RegionHeld3
import Derived.Deep.DeepCutAuto
namespace Go.Proofs.Ythkfdfocghmmeaa.fnExactNearestCard
open Go.ChangeShapes Go.WideShapes Go.ChangeAt Go.RowKit

theorem nearCode_same {D E : List CardV} (ys : List Int) (h : holes E = holes D) : nearCode E ys = nearCode D ys := by
  unfold nearCode
  rw [h, holes_length h]
theorem near_same {D E : List CardV} {ys : List Int} {W : World} {F : Nat} {args : Array Value} (h : holes E = holes D) (hc : Calls Try.prog F args W (NearIs E ys W)) :
    Calls Try.prog F args W fun e w' => e = .returned (.tuple #[.int .i64 (if nearCode D ys = 0 then (bestTo (distL (holes D) ys) (D.length - 1) : Int) else 0), .int .i64 (if nearCode D ys = 0 then minTo (distL (holes D) ys) (D.length - 1) else 0), .int .i64 (nearCode D ys)]) ∧ Below W.heap.size W w' := by
  unfold NearIs at hc
  rw [nearCode_same ys h, h, holes_length h] at hc
  exact hc

theorem walk_big (A A' : Option Addr) (c c' n' : Nat) (D : List CardV) (w : World) (h : Deck w w.heap.size A D) (hn : D.length ≤ 9223372036854775807) (hl : ∀ d ∈ D, d.xs.length ≤ 9223372036854775807) (hbig : (1048576 : Int) < (szTo D D.length : Int)) :
    Calls Try.prog 10 #[.slice A D.length c, .agg #[.slice A' n' c']] w fun e w' => e = .returned (.bool true) ∧ Below w.heap.size w w' := by
  have HS := Lib.hid (szCards_big A c D 1048576 w.heap.size _ (h.alloc (Nat.le_refl _) (.cells #[.slice A' n' c'] 24)) (by simp) (by omega) (by omega) hn hl hbig)
  obtain ⟨n, hN⟩ : ∃ n, D.length = n := ⟨_, rfl⟩
  rw [hN] at HS
  rw [hN]
  clear h hn hl hbig hN
  go_enter Try.func10, Try.ntmps10
  go_wp2_with fail
  refine HS.out.mono ?_
  rintro e w1 ⟨rfl, hb1⟩
  have B1 := Lib.hid (below_step (below_box w _) hb1)
  clear hb1
  go_wp2
  go_ret
  exact ⟨rfl, B1.out⟩

theorem walk_sum (A A' : Option Addr) (c c' n' : Nat) (D : List CardV) (w : World) (h : Deck w w.heap.size A D) (hs : (szTo D D.length : Int) ≤ 1048576) (hn' : n' ≤ 9223372036854775807) (hbig : (1048576 : Int) < (szTo D D.length : Int) + n') :
    Calls Try.prog 10 #[.slice A D.length c, .agg #[.slice A' n' c']] w fun e w' => e = .returned (.bool true) ∧ Below w.heap.size w w' := by
  have HS := Lib.hid (szCards_small A c D 1048576 w.heap.size _ (h.alloc (Nat.le_refl _) (.cells #[.slice A' n' c'] 24)) (by simp) (by omega) hs)
  obtain ⟨n, hN⟩ : ∃ n, D.length = n := ⟨_, rfl⟩
  obtain ⟨t, ht⟩ : ∃ t, szTo D D.length = t := ⟨_, rfl⟩
  rw [ht] at HS hs hbig
  have hs' := fun W => szCard_any A' n' c' (1048576 - t) W (by omega) (by omega) (by omega)
  have e' : (if (1048576 - t : Int) < (n' : Int) then (-1 : Int) else 1048576 - t - n') = -1 := if_pos (by omega)
  rw [e'] at hs'
  have HS' := Lib.hid hs'
  have hge : ¬ (1048576 - (t : Int)) < 0 := by omega
  rw [hN] at HS
  rw [hN]
  clear h hN ht hs' e'
  go_enter Try.func10, Try.ntmps10
  go_wp2_with fail
  refine HS.out.mono ?_
  rintro e w1 ⟨rfl, hb⟩
  have B1 := Lib.hid (below_step (below_box w _) hb)
  have d1 := cell_kept (p := ⟨w.heap.size, 0, none⟩) (v := .slice A' n' c') (by simp [go_sem]) hb
  clear hb
  go_wp2_with fail
  refine (HS'.out _).mono ?_
  rintro e w2 ⟨rfl, hb⟩
  have B2 := Lib.hid (below_step B1.out hb)
  clear hb
  go_wp2
  go_ret
  exact ⟨rfl, B2.out⟩

set_option maxRecDepth 100000 in
set_option maxHeartbeats 4000000 in
theorem walk_small (A A' : Option Addr) (c c' : Nat) (D : List CardV) (ys : List Int) (v1 v2 v3 : Int) (w : World) (h : Deck w w.heap.size A D) (h' : Ints w w.heap.size A' ys) (hs : (szTo D D.length : Int) + ys.length ≤ 1048576)
    (hv : ∀ (W : World) (E : List CardV) (A A' : Option Addr) (B B' : Nat), holes E = holes D → Deck W B A E → Ints W B' A' ys → B ≤ W.heap.size → B' ≤ W.heap.size → Calls Try.prog 36 #[.slice A E.length E.length, .agg #[.slice A' ys.length ys.length]] W fun e w' => e = .returned (.tuple #[.int .i64 v1, .int .i64 v2, .int .i64 v3]) ∧ Below W.heap.size W w')
    (hi : ∀ (W : World) (E : List CardV) (A A' : Option Addr) (B B' : Nat), holes E = holes D → Deck W B A E → Ints W B' A' ys → B ≤ W.heap.size → B' ≤ W.heap.size → Calls Try.prog 38 #[.slice A E.length E.length, .agg #[.slice A' ys.length ys.length]] W fun e w' => e = .returned (.tuple #[.int .i64 v1, .int .i64 v2, .int .i64 v3]) ∧ Below W.heap.size W w') :
    Calls Try.prog 10 #[.slice A D.length c, .agg #[.slice A' ys.length c']] w fun e w' => e = .returned (.bool true) ∧ Below w.heap.size w w' := by
  have HS := Lib.hid (szCards_small A c D 1048576 w.heap.size _ (h.alloc (Nat.le_refl _) (.cells #[.slice A' ys.length c'] 24)) (by simp) (by omega) (by omega))
  obtain ⟨n, hN⟩ : ∃ n, D.length = n := ⟨_, rfl⟩
  obtain ⟨t, ht⟩ : ∃ t, szTo D D.length = t := ⟨_, rfl⟩
  have hn : n ≤ 1048576 := by have := szTo_len D; omega
  have hl : ∀ d ∈ D, d.xs.length ≤ 1048576 := fun d hd => by have := szTo_each D d hd; omega
  rw [ht] at HS hs
  have hs' := fun W => szCard_any A' ys.length c' (1048576 - t) W (by omega) (by omega) (by omega)
  have e' : (if (1048576 - t : Int) < (ys.length : Int) then (-1 : Int) else 1048576 - t - ys.length) = 1048576 - t - ys.length := if_neg (by omega)
  rw [e'] at hs'
  have HS' := Lib.hid hs'
  have hge : ¬ (1048576 - (t : Int)) < 0 := by omega
  have hge2 : ¬ (1048576 - (t : Int) - ys.length) < 0 := by omega
  have HT : Hid (∀ W : World, w.heap.size ≤ W.heap.size → Deck W w.heap.size A D → Calls Try.prog 37 #[.slice A n c] W fun e w' => ∃ g E, holes E = holes D ∧ e = .returned (.slice (some ⟨g, 0, none⟩) n n) ∧ W.heap.size ≤ g ∧ Below W.heap.size W w' ∧ OwnDeck w' g E n) := fun W hW hD => by
    have := toCards_any A c D w.heap.size W hD hW (by omega) hl
    rw [hN] at this
    refine this.mono ?_
    rintro e w' ⟨he, E, hE, _, hb, ho⟩
    exact ⟨_, E, hE, he, Nat.le_refl _, hb, ho⟩
  have HV : Hid (∀ (W : World) (E : List CardV) (g f : Nat), holes E = holes D → OwnDeck W g E n → Row W f ys [] → Calls Try.prog 36 #[.slice (some ⟨g, 0, none⟩) n n, .agg #[.slice (some ⟨f, 0, none⟩) ys.length ys.length]] W fun e w' => e = .returned (.tuple #[.int .i64 v1, .int .i64 v2, .int .i64 v3]) ∧ Below W.heap.size W w') := fun W E g f hE hO hR => by
    have hEn : E.length = n := (holes_length hE).trans hN
    have := hv W E (some ⟨g, 0, none⟩) (some ⟨f, 0, none⟩) W.heap.size (f + 1) hE (hO.deck' hEn) hR.ints (Nat.le_refl _) hR.lt
    rwa [hEn] at this
  have HI : Hid (∀ (W : World) (E : List CardV) (g f : Nat), holes E = holes D → OwnDeck W g E n → Row W f ys [] → Calls Try.prog 38 #[.slice (some ⟨g, 0, none⟩) n n, .agg #[.slice (some ⟨f, 0, none⟩) ys.length ys.length]] W fun e w' => e = .returned (.tuple #[.int .i64 v1, .int .i64 v2, .int .i64 v3]) ∧ Below W.heap.size W w') := fun W E g f hE hO hR => by
    have hEn : E.length = n := (holes_length hE).trans hN
    have := hi W E (some ⟨g, 0, none⟩) (some ⟨f, 0, none⟩) W.heap.size (f + 1) hE (hO.deck' hEn) hR.ints (Nat.le_refl _) hR.lt
    rwa [hEn] at this
  have HE : Hid (∀ (W : World) (E F : List CardV) (g f : Nat), holes E = holes D → holes F = holes D → OwnDeck W g E n → OwnDeck W f F n → Calls Try.prog 39 #[.slice (some ⟨g, 0, none⟩) n n, .slice (some ⟨f, 0, none⟩) n n] W fun e w' => e = .returned (.bool true) ∧ Below W.heap.size W w') := fun W E F g f hE hF hO hP => by
    have hEn : E.length = n := (holes_length hE).trans hN
    have hFn : F.length = n := (holes_length hF).trans hN
    have := eqCards_any (some ⟨g, 0, none⟩) (some ⟨f, 0, none⟩) n n E F W.heap.size W.heap.size W (hO.deck' hEn) (hP.deck' hFn) (Nat.le_refl _) (Nat.le_refl _) (by omega) (by omega) (holes_each hE hl) (holes_each hF hl)
    rw [hE, hF, hEn, hFn] at this
    simpa using this
  rw [hN] at HS
  rw [hN]
  have H := Lib.hid h
  have H' := Lib.hid h'
  have hy1 : ys.length ≤ 1048576 := by omega
  have hy2 : ys.length ≤ 140737488355328 := by omega
  clear h h' hN ht hl hn hs' e' hv hi
  go_enter Try.func10, Try.ntmps10
  go_wp2_with fail
  refine (HS.out).mono ?_
  rintro e w1 ⟨rfl, hb⟩
  have B_1 := Lib.hid (below_step (below_box w _) hb)
  have cb_1 := cell_kept (p := ⟨w.heap.size, 0, none⟩) (v := .slice A' ys.length c') (by simp [go_sem]) hb
  clear hb
  go_wp2_with fail
  refine (HS'.out _).mono ?_
  rintro e w2 ⟨rfl, hb⟩
  have B_2 := Lib.hid (below_step B_1.out hb)
  have cb_2 := cell_kept cb_1 hb
  clear hb cb_1 B_1
  go_upto_region 8 with fail
  go_cut [6, 7, 8] (fun s0 s1 s2 wx => s0 = .int .i64 v1 ∧ s1 = .int .i64 v2 ∧ s2 = .int .i64 v3 ∧ Below w2.heap.size w2 wx)
  case first =>
    have K0 := Lib.hid (below_drew (Below.refl w2.heap.size w2))
    go_region_held3 (fun W => W.cell? ⟨w.heap.size, 0, none⟩ = some (.slice A' ys.length c'))
      (first | exact cb_2 | exact cell_kept cb_2 K0.out | exact cell_kept cb_2 K1.out | exact cell_kept cb_2 K2.out | exact cell_kept cb_2 K3.out | go_keep)
      (first
        | (go_at_call 37
           refine (HT.out _ ?_ ?_).mono ?_
           · first | exact B_2.out.drew.size
           · first | exact H.out.below B_2.out.drew
           rintro e w2_1 ⟨ga, Ea, hE, rfl, hg, hb, hrow⟩
           have X_Da := Lib.hid hE
           clear hE
           have K1 : Hid (Below w2.heap.size w2 w2_1) := below_step K0.out hb
           have Da_r1 := Lib.hid hrow
           clear hb hrow hg)
        | (go_at_call 15
           refine (toCard_any A' c' ys w.heap.size _ ?_ ?_ hy1).mono ?_
           · first | exact H'.out.below (below_step B_2.out K1.out)
           · first | exact (below_step B_2.out K1.out).size
           rintro e w2_2 ⟨gra, rfl, hg, hb, hrow⟩
           have K2 : Hid (Below w2.heap.size w2 w2_2) := below_step K1.out hb
           have Da_r2 := Lib.hid (Da_r1.out.later hb)
           have Ra_r2 := Lib.hid hrow
           clear hb hrow hg)
        | (go_at_call 36
           refine (HV.out _ Ea _ _ X_Da.out ?_ ?_).mono ?_
           · first | exact Da_r2.out
           · first | exact Ra_r2.out
           rintro e w2_3 ⟨rfl, hb⟩
           have K3 : Hid (Below w2.heap.size w2 w2_3) := below_step K2.out hb
           clear hb))
    all_goals (go_wp2_with fail; go_meet; exact ⟨rfl, rfl, rfl, K3.out⟩)
  case rest =>
    obtain ⟨rfl, rfl, rfl, hb⟩ := hcut
    rename World => w3
    have B_3 := Lib.hid (below_step B_2.out hb)
    have cb_3 := cell_kept cb_2 hb
    clear hb cb_2 B_2
    go_wp2_with fail
    refine (HT.out _ B_3.out.size (H.out.below B_3.out)).mono ?_
    rintro e w4 ⟨gx, Ex, hE, rfl, hg, hb, hrow⟩
    have B_4 := Lib.hid (below_step B_3.out hb)
    have cb_4 := cell_kept cb_3 hb
    have Dx_4 := Lib.hid hrow
    clear hb hrow hg cb_3 B_3
    have X_Dx := Lib.hid hE
    clear hE
    go_wp2_with fail
    refine (toCard_any A' c' ys w.heap.size _ (H'.out.below B_4.out) B_4.out.size hy1).mono ?_
    rintro e w5 ⟨gy, rfl, hg, hb, hrow⟩
    have B_5 := Lib.hid (below_step B_4.out hb)
    have cb_5 := cell_kept cb_4 hb
    have Dx_5 := Lib.hid (Dx_4.out.later hb)
    have Ry_5 := Lib.hid hrow
    clear hb hrow hg cb_4 Dx_4 B_4
    have hb := below_box w5 (.cells #[.slice (some ⟨gy, 0, none⟩) ys.length ys.length] 28)
    have B_6 := Lib.hid (below_step B_5.out hb)
    have cb_6 := cell_kept cb_5 hb
    have Dx_6 := Lib.hid (Dx_5.out.later hb)
    have Ry_6 := Lib.hid (Ry_5.out.later hb)
    have by__6 : (w5.alloc (.cells #[.slice (some ⟨gy, 0, none⟩) ys.length ys.length] 28)).cell? ⟨w5.heap.size, 0, none⟩ = some (.slice (some ⟨gy, 0, none⟩) ys.length ys.length) := by simp
    clear hb cb_5 Dx_5 Ry_5 B_5
    go_wp2_with fail
    refine (HI.out _ Ex _ _ X_Dx.out Dx_6.out Ry_6.out).mono ?_
    rintro e w7 ⟨rfl, hb⟩
    have B_7 := Lib.hid (below_step B_6.out hb)
    have cb_7 := cell_kept cb_6 hb
    have by__7 := cell_kept by__6 hb
    have Dx_7 := Lib.hid (Dx_6.out.later hb)
    have Ry_7 := Lib.hid (Ry_6.out.later hb)
    clear hb cb_6 by__6 Dx_6 Ry_6 B_6
    go_wp2_with fail
    refine (HT.out _ B_7.out.size (H.out.below B_7.out)).mono ?_
    rintro e w8 ⟨gz, Ez, hE, rfl, hg, hb, hrow⟩
    have B_8 := Lib.hid (below_step B_7.out hb)
    have cb_8 := cell_kept cb_7 hb
    have by__8 := cell_kept by__7 hb
    have Dx_8 := Lib.hid (Dx_7.out.later hb)
    have Ry_8 := Lib.hid (Ry_7.out.later hb)
    have Dz_8 := Lib.hid hrow
    clear hb hrow hg cb_7 by__7 Dx_7 Ry_7 B_7
    have X_Dz := Lib.hid hE
    clear hE
    go_wp2_with fail
    refine (HE.out _ Ex Ez _ _ X_Dx.out X_Dz.out Dx_8.out Dz_8.out).mono ?_
    rintro e w9 ⟨rfl, hb⟩
    have B_9 := Lib.hid (below_step B_8.out hb)
    have cb_9 := cell_kept cb_8 hb
    have by__9 := cell_kept by__8 hb
    have Dx_9 := Lib.hid (Dx_8.out.later hb)
    have Ry_9 := Lib.hid (Ry_8.out.later hb)
    have Dz_9 := Lib.hid (Dz_8.out.later hb)
    clear hb cb_8 by__8 Dx_8 Ry_8 Dz_8 B_8
    clear Dx_9
    clear Dz_9
    go_wp2
    go_region_held3 (fun W => W.cell? ⟨w.heap.size, 0, none⟩ = some (.slice A' ys.length c') ∧ W.cell? ⟨w5.heap.size, 0, none⟩ = some (.slice (some ⟨gy, 0, none⟩) ys.length ys.length))
      (first | exact ⟨cb_9, by__9⟩ | exact ⟨cb_10, by__10⟩ | exact ⟨cb_11, by__11⟩)
      (first
        | (go_at_call 15
           refine (toCard_any A' c' ys w.heap.size _ ?_ ?_ hy1).mono ?_
           · exact H'.out.below B_9.out.drew
           · exact B_9.out.drew.size
           rintro e w10 ⟨ge, rfl, hg, hb, hrow⟩
           have B_10 := Lib.hid (below_step B_9.out.drew hb)
           have cb_10 := cell_kept (w := w9.drew) cb_9 hb
           have by__10 := cell_kept (w := w9.drew) by__9 hb
           have Ry_10 := Lib.hid (Ry_9.out.drew.later hb)
           have Re_10 := Lib.hid hrow
           clear hb hrow hg)
        | (go_at_call 17
           refine (eqCard_any (some ⟨gy, 0, none⟩) (some ⟨ge, 0, none⟩) _ _ ys ys (gy + 1) (ge + 1) _ ?_ ?_ ?_ ?_ hy1 hy2).mono ?_
           · exact Ry_10.out.ints
           · exact Re_10.out.ints
           · exact Ry_10.out.lt
           · exact Re_10.out.lt
           rintro e w11 ⟨rfl, hb⟩
           have B_11 := Lib.hid (below_step B_10.out hb)
           have cb_11 := cell_kept cb_10 hb
           have by__11 := cell_kept by__10 hb
           have Ry_11 := Lib.hid (Ry_10.out.later hb)
           have Re_11 := Lib.hid (Re_10.out.later hb)
           clear hb))
    clear cb_9 by__9 Ry_9 B_9 cb_10 by__10 Ry_10 Re_10 B_10
    go_wp2
    go_ret
    exact ⟨rfl, B_11.out⟩

theorem walk (A : Option Addr) (c : Nat) (D : List CardV) {w : World} (h : Deck w w.heap.size A D) (hl : D.length ≤ 9223372036854775807 ∧ ∀ d ∈ D, d.xs.length ≤ 9223372036854775807)
    (A' : Option Addr) (c' : Nat) (ys : List Int) {w0 : World} (h' : Ints w0 w0.heap.size A' ys) (hl' : ys.length ≤ 9223372036854775807) (_ : ∀ n ∈ ys, (Lit.int .i64 n).wf = true) (w1 : World) (e1 : w = w1) (e0 : w0 = w1) :
    Calls Try.prog 10 #[.slice A D.length c, .agg #[.slice A' ys.length c']] w1 fun e w' => e = .returned (.bool true) ∧ Below w1.heap.size w1 w' := by
  subst e1
  subst e0
  by_cases hn : (szTo D D.length : Int) ≤ 1048576
  · by_cases hs : (szTo D D.length : Int) + ys.length ≤ 1048576
    · have hD : D.length ≤ 1048576 := by have := szTo_len D; omega
      have hd : ∀ d ∈ D, d.xs.length ≤ 1048576 := fun d hd => by have := szTo_each D d hd; omega
      refine walk_small A A' c c' D ys (if nearCode D ys = 0 then (bestTo (distL (holes D) ys) (D.length - 1) : Int) else 0) (if nearCode D ys = 0 then minTo (distL (holes D) ys) (D.length - 1) else 0) (nearCode D ys) w0 h h' hs (fun W E A A' B B' hE hK hI hB hB' => ?_) (fun W E A A' B B' hE hK hI hB hB' => ?_)
      · have := specNear_any A A' E.length ys.length E ys B B' W hK hI hB hB' (by rw [holes_length hE]; exact hD) (holes_each hE hd) (by omega)
        exact near_same hE this
      · have := implNear_any A A' E.length ys.length E ys B B' W hK hI hB hB' (by rw [holes_length hE]; exact hD) (holes_each hE hd) (by omega)
        exact near_same hE this
    · exact walk_sum A A' c c' ys.length D w0 h hn hl' (by omega)
  · exact walk_big A A' c c' ys.length D w0 h hl.1 hl.2 (by omega)

set_option maxRecDepth 100000 in
theorem lifted (os : Os) (started : os.Started) (H : Type) (enc : TypeId × Value → H) :
    ReturnsInHanded {} Try.checked os 10 .any (Rows.fnExactNearestCardSpec.pre6 enc Try.prog Try.f10 Rows.fnExactNearestCardRow.domain false) (Rows.fnExactNearestCardSpec.post enc Try.prog Try.f10 false true false false) := by
  refine returnsInHanded_of_change (C := Try.checked) own started (by kernel_rfl) Try.func10
    (ChangeSpec.witness6 (enc := enc) (C := Try.checked) false ⟨#[], #[.slice none 0 0, .agg #[.slice none 0 0]], []⟩ 8 (by kernel_rfl) (by kernel_rfl) (by kernel_rfl) (by kernel_rfl)) ?_
  intro W base args ds gs before hval0 hW _ _
  have hval : ∀ (j : Nat) t v, Try.f10.params[j]? = some t → args[j]? = some v → Value.okWide Try.prog W .any base t v := hval0
  have hW' := hW
  obtain ⟨p, q, hA0, hV, rfl, _, _⟩ := hW
  have hA : DataW.TrodAll enc Try.prog W 0 (fun _ => true) true Try.f10.params.toList args.toList ds p := hA0
  rw [Try.params10] at hA hval
  obtain ⟨v0, vs0, d0, ds0, p0, q0, hargs, rfl, rfl, h0, r0⟩ := trodAll_cons hA
  obtain ⟨v1, vs1, d1, ds1, p1, q1, rfl, rfl, rfl, h1, r1⟩ := trodAll_cons r0
  obtain ⟨rfl, rfl, rfl⟩ := trodAll_nil r1
  obtain rfl : args = #[v0, v1] := by cases args; simp_all
  obtain ⟨rfl, rfl⟩ := trodVars_none hV
  obtain ⟨A0, c0, D0, rfl, i0, l0⟩ := open_deck (hval 0 42 v0 rfl rfl) h0
  obtain ⟨A1, c1, xs1, rfl, i1, l1, w1⟩ := open_card (hval 1 24 v1 rfl rfl) h1
  refine (walk A0 c0 D0 i0 l0 A1 c1 xs1 i1 l1 w1 W rfl rfl).mono fun e W' ⟨he, hb⟩ => ?_
  subst he
  refine ⟨_, rfl, law_post hW' rfl rfl ?_ rfl rfl rfl hb⟩
  intro t ht
  rw [Try.params10] at ht
  have ht' : t = 42 ∨ t = 24 := by simpa using ht
  rcases ht' with rfl | rfl <;> exact ⟨by kernel_rfl, of_decide_eq_true (by kernel_rfl)⟩

theorem over : Rows.fnExactNearestCardRow.holds Try.pinned (OpenSpec.ofChange Rows.fnExactNearestCardSpec) :=
  OpenClaim.holds_of_wide 10 Try.f10 rfl rfl rfl rfl rfl rfl rfl ⟨rfl, rfl, rfl, rfl, rfl⟩ rfl rfl rfl rfl rfl (by kernel_rfl) Try.func10 (by kernel_rfl)
    (of_decide_eq_true (by kernel_rfl)) (by unfold Func.isWrapper; first | (rw [if_pos (by decide +kernel)]; kernel_rfl) | (rw [if_neg (by decide +kernel)]; exact ⟨rfl, rfl⟩))
    (fun os started H enc _ => lifted os started H enc)

theorem proved : Rows.FnExactNearestCardSaid :=
  over
end Go.Proofs.Ythkfdfocghmmeaa.fnExactNearestCard
