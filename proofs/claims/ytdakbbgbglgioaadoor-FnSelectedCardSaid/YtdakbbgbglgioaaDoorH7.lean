/- spec.SameCard and impl.SameCard answer whether two cards have the same numbers, for cards of at most 1048576 columns: contracts, of spec.l00Same and slices.Equal too. -/
import Derived.Test.YtdakbbgbglgioaaDoorValid
import Derived.Test.YtdakbbgbglgioaaDoorDecks
import Derived.Deep.QuietTactic
import Derived.BigQuiet
import Derived.Test.YtdakbbgbglgioaaDoorRows
import Derived.WalkKit
import Derived.ProofKit
import Derived.OpenShut
import Derived.Carry
import Derived.Test.YtdakbbgbglgioaaDoorSrc
import Derived.ChangeSlices
namespace Go.Proofs.YtdakbbgbglgioaaDoor
open Go.ChangeShapes Go.WideShapes Go.ChangeAt Go.RowKit

theorem l00Same_any (A A' : Option Addr) (c c' : Nat) (xs ys : List Int) (B B' : Nat) (w : World) (h : Ints w B A xs) (h' : Ints w B' A' ys) (hn : xs.length ≤ 1048576) (hn' : ys.length ≤ 140737488355328) :
    Calls Tryd.prog 40 #[.slice A xs.length c, .slice A' ys.length c'] w fun e w' => e = .returned (.bool (decide (xs = ys))) ∧ ∃ n, w' = w.drewN n := by
  by_cases hl : xs.length = ys.length
  · obtain ⟨n, hN⟩ : ∃ n, xs.length = n := ⟨_, rfl⟩
    obtain ⟨r, hr⟩ : ∃ r, decide (xs = ys) = r := ⟨_, rfl⟩
    rw [hr]
    rw [hN] at hn ⊢
    rw [← hl, hN]
    have H := Lib.hid h
    have H' := Lib.hid h'
    have HN := Lib.hid hN
    have HL := Lib.hid hl
    have HR := Lib.hid hr
    clear h h' hN hl hr
    go_enter Tryd.func40, Tryd.ntmps40
    go_wp2
    go_loopw [5] (fun i wr => ∃ k m : Nat, k ≤ n ∧ i = .int .i64 k ∧ wr = w.drewN m ∧ Hid (xs.take k = ys.take k)) (fun i _ => n - (intOf i).toNat)
    case atStart => exact ⟨0, 0, Nat.zero_le _, rfl, rfl, by simp [Hid]⟩
    case round =>
      obtain ⟨k, m, hk, rfl, rfl, HK⟩ := hrel
      by_cases hlt : k < n
      · have hx : k < xs.length := by rw [HN.out]; exact hlt
        have hy : k < ys.length := by rw [← HL.out, HN.out]; exact hlt
        obtain ⟨b, off, rfl, hb, hcell⟩ := H.out (by omega)
        obtain ⟨b', off', rfl, hb', hcell'⟩ := H'.out (by omega)
        have h1 := hcell k hx
        have h2 := hcell' k hy
        obtain ⟨x, hxx⟩ : ∃ x, xs[k]?.getD 0 = x := ⟨_, rfl⟩
        obtain ⟨y, hyy⟩ : ∃ y, ys[k]?.getD 0 = y := ⟨_, rfl⟩
        rw [hxx] at h1
        rw [hyy] at h2
        have Hx := Lib.hid hxx
        have Hy := Lib.hid hyy
        have hx' := Lib.hid hx
        have hy' := Lib.hid hy
        have hk0 : (0 : Int) ≤ (k : Int) := Int.natCast_nonneg _
        have hk1 : (k : Int) < (n : Int) := by omega
        clear hcell hcell' hxx hyy hx hy H H'
        by_cases hxy : x = y
        · have HK1 : Hid (xs.take (k + 1) = ys.take (k + 1)) := take_more xs ys k hx'.out hy'.out HK.out (by rw [Hx.out, Hy.out, hxy])
          subst hxy
          go_wp2
          go_quiet (fail)
          go_wp2
          go_roundw
          case rel => exact ⟨k + 1, _, by omega, by go_num, rfl, HK1⟩
          case measure => simp [intOf]; omega
        · obtain rfl : r = false := by rw [← HR.out]; exact parts_at xs ys k (by rw [Hx.out, Hy.out]; exact hxy)
          go_wp2
          go_quiet (fail)
          go_wp2
          go_ret
          exact ⟨rfl, _, World.drewN_drewN _ _ _⟩
      · obtain rfl : k = n := by omega
        obtain rfl : r = true := by
          rw [← HR.out]
          have := HK.out
          rw [List.take_of_length_le (by rw [HN.out]; omega), List.take_of_length_le (by rw [← HL.out, HN.out]; omega)] at this
          simpa using this
        go_wp2
        go_ret
        exact ⟨rfl, _, rfl⟩
  · have e : decide (xs = ys) = false := by
      simp only [decide_eq_false_iff_not]
      rintro rfl
      exact hl rfl
    rw [e]
    clear e
    go_enter Tryd.func40, Tryd.ntmps40
    go_wp2
    go_ret
    exact ⟨rfl, 0, rfl⟩

theorem specSameCard_any (A A' : Option Addr) (c c' : Nat) (xs ys : List Int) (B B' : Nat) (w : World) (h : Ints w B A xs) (h' : Ints w B' A' ys) (hB : B ≤ w.heap.size) (hB' : B' ≤ w.heap.size) (hn : xs.length ≤ 1048576) (hn' : ys.length ≤ 140737488355328) :
    Calls Tryd.prog 23 #[.agg #[.slice A xs.length c], .agg #[.slice A' ys.length c']] w fun e w' => e = .returned (.bool (decide (xs = ys))) ∧ Below w.heap.size w w' := by
  have hc := l00Same_any A A' c c' xs ys B B' _ ((h.alloc hB (.cells #[.slice A xs.length c] 36)).alloc (by simp; omega) (.cells #[.slice A' ys.length c'] 36)) ((h'.alloc hB' _).alloc (by simp; omega) _) hn hn'
  obtain ⟨r, hr⟩ : ∃ r, decide (xs = ys) = r := ⟨_, rfl⟩
  rw [hr] at hc ⊢
  have HC := Lib.hid hc
  clear hc hr h h'
  go_enter Tryd.func23, Tryd.ntmps23
  go_wp2_with fail
  refine HC.out.mono ?_
  rintro e w' ⟨rfl, n, rfl⟩
  go_wp2
  go_ret
  exact ⟨rfl, below_drewN (((Below.refl _ _).alloc (Nat.le_refl _) _).alloc (by simp) _) _⟩

end Go.Proofs.YtdakbbgbglgioaaDoor
/- spec.SameDeck and impl.SameDeck (slices.EqualFunc with impl.SameCard) answer whether two lists of cards have the same holes, for every two lists of at most 1048576 cards of at most 1048576 columns: contracts. -/
namespace Go.Proofs.YtdakbbgbglgioaaDoor
open Go.ChangeShapes Go.WideShapes Go.ChangeAt Go.RowKit

theorem specSameDeck_any (A A' : Option Addr) (c c' : Nat) (D E : List CardV) (B B' : Nat) (w : World) (h : Deck w B A D) (h' : Deck w B' A' E) (hB : B ≤ w.heap.size) (hB' : B' ≤ w.heap.size) (hn : D.length ≤ 1048576) (_ : E.length ≤ 140737488355328)
    (hl : ∀ d ∈ D, d.xs.length ≤ 1048576) (hl' : ∀ d ∈ E, d.xs.length ≤ 1048576) :
    Calls Tryd.prog 11 #[.slice A D.length c, .slice A' E.length c'] w fun e w' => e = .returned (.bool (decide (holes D = holes E))) ∧ Below w.heap.size w w' := by
  by_cases hll : D.length = E.length
  · obtain ⟨n, hN⟩ : ∃ n, D.length = n := ⟨_, rfl⟩
    obtain ⟨r, hr⟩ : ∃ r, decide (holes D = holes E) = r := ⟨_, rfl⟩
    rw [hr]
    rw [hN] at hn ⊢
    rw [← hll, hN]
    have H := Lib.hid h
    have H' := Lib.hid h'
    have HN := Lib.hid hN
    have HE := Lib.hid (hll.symm.trans hN)
    have HR := Lib.hid hr
    have HL := Lib.hid hl
    have HL' := Lib.hid hl'
    clear h h' hN hll hr hl hl'
    go_enter Tryd.func11, Tryd.ntmps11
    go_wp2
    go_loopw [5] (fun i wr => ∃ k : Nat, k ≤ n ∧ i = .int .i64 k ∧ Hid (Below w.heap.size w wr) ∧ Hid ((holes D).take k = (holes E).take k)) (fun i _ => n - (intOf i).toNat)
    case atStart => exact ⟨0, Nat.zero_le _, rfl, Below.refl _ _, by show _ = _; simp⟩
    case round =>
      obtain ⟨k, hk, rfl, HB, HK⟩ := hrel
      by_cases hlt : k < n
      · obtain ⟨d, hd⟩ : ∃ d, D[k]? = some d := ⟨D[k]'(by rw [HN.out]; exact hlt), List.getElem?_eq_getElem _⟩
        obtain ⟨e, he⟩ : ∃ e, E[k]? = some e := ⟨E[k]'(by rw [HE.out]; exact hlt), List.getElem?_eq_getElem _⟩
        obtain ⟨b, off, rfl, hb, hcell⟩ := (H.out.below (HB.out.mono hB)) (by rw [HN.out]; omega)
        obtain ⟨b', off', rfl, hb', hcell'⟩ := (H'.out.below (HB.out.mono hB')) (by rw [HE.out]; omega)
        obtain ⟨hc, hi⟩ := hcell k d hd
        obtain ⟨hc', hi'⟩ := hcell' k e he
        have hm := HL.out d (List.mem_of_getElem? hd)
        have hm' := HL'.out e (List.mem_of_getElem? he)
        have HC := Lib.hid (fun m => l00Same_any d.at_ e.at_ d.cap e.cap d.xs e.xs B B' (wr.drewN m) (hi.drewN m) (hi'.drewN m) hm (by omega))
        have hdx : (holes D)[k]? = some d.xs := by simp [holes, hd]
        have hex : (holes E)[k]? = some e.xs := by simp [holes, he]
        have HX := Lib.hid hdx
        have HY := Lib.hid hex
        have hk0 : (0 : Int) ≤ (k : Int) := Int.natCast_nonneg _
        have hk1 : (k : Int) < (n : Int) := by omega
        unfold CardV.value at hc hc'
        obtain ⟨q, hq⟩ : ∃ q, decide (d.xs = e.xs) = q := ⟨_, rfl⟩
        have HQ := Lib.hid hq
        rw [hq] at HC
        clear hcell hcell' hd he hi hi' hm hm' hdx hex hq H H'
        cases q
        · obtain rfl : r = false := by
            rw [← HR.out]
            simp only [decide_eq_false_iff_not]
            intro ee
            have := HX.out
            rw [ee, HY.out] at this
            injection this with this
            have hq := HQ.out
            rw [this] at hq
            simp at hq
          go_wp2
          go_quiet ((go_at_call 40; exact Calls.quiet_of (HC.out _)))
          go_wp2
          go_ret
          exact ⟨rfl, below_drewN HB.out _⟩
        · have HK1 : Hid ((holes D).take (k + 1) = (holes E).take (k + 1)) := takeL_more _ _ k d.xs e.xs HX.out HY.out HK.out (by simpa using HQ.out)
          go_wp2
          go_quiet ((go_at_call 40; exact Calls.quiet_of (HC.out _)))
          go_wp2
          go_roundw
          case rel => exact ⟨k + 1, by omega, by go_num, below_drewN HB.out _, HK1⟩
          case measure => simp [intOf]; omega
      · have hkn : k = n := by omega
        obtain rfl : r = true := by
          rw [← HR.out]
          have := HK.out
          rw [List.take_of_length_le (by simp [holes]; rw [HN.out]; omega), List.take_of_length_le (by simp [holes]; rw [HE.out]; omega)] at this
          simpa using this
        have hk1 : ¬ (k : Int) < (n : Int) := by omega
        clear hkn H H'
        go_wp2
        go_ret
        exact ⟨rfl, HB.out⟩
  · have e : decide (holes D = holes E) = false := by
      simp only [decide_eq_false_iff_not]
      intro ee
      apply hll
      have := congrArg List.length ee
      simpa [holes] using this
    rw [e]
    have hne : ((D.length : Int) != (E.length : Int)) = true := by rw [bne_iff_ne]; omega
    clear e h h' hl hl'
    go_enter Tryd.func11, Tryd.ntmps11
    go_wp2
    go_ret
    exact ⟨rfl, Below.refl _ _⟩

end Go.Proofs.YtdakbbgbglgioaaDoor
/- What closes a law's row: where a call has turned nothing below the old heap's end and returned true, the row's post holds. No condition. -/
namespace Go.Proofs.YtdakbbgbglgioaaDoor
open Go.ChangeShapes Go.WideShapes Go.ChangeAt Go.RowKit

theorem own : ownKnob Tryd.prog.godebug = none := by kernel_rfl
theorem laidOut : laidOutB Tryd.prog = true := by kernel_rfl

section
variable {H : Type} {enc : TypeId × Value → H}

/-- Arguments of readable types read as they did, in a world that agrees where they lie. -/
theorem args_stay {W W' : World} {sp : Nat → Bool} : ∀ {ts : List TypeId} {vs : List Value} {ds : List (DataW H)} {ps : List MemPlace}, (∀ t ∈ ts, Tryd.prog.readableRec t = true ∧ t < Tryd.prog.types.size) →
    DataW.TrodAll enc Tryd.prog W 0 (fun _ => true) true ts vs ds ps → (∀ x ∈ ps, W.sameAt W' x) → (∀ x ∈ ps, sp x.block = true) → DataW.TrodAll enc Tryd.prog W' 0 sp true ts vs ds ps
  | [], _, _, _, _, h, _, _ => by
    obtain ⟨rfl, rfl, rfl⟩ := trodAll_nil h
    exact trodAll_mk0
  | t :: _, _, _, _, ht, h, hs, hp => by
    obtain ⟨v, vs', d, ds', p, q, rfl, rfl, rfl, h1, h2⟩ := trodAll_cons h
    refine ⟨p, q, ?_, args_stay (fun u hu => ht u (by simp [hu])) h2 (fun x hx => hs x (by simp [hx])) (fun x hx => hp x (by simp [hx])), rfl⟩
    exact WideElems.Trod_stays laidOut (ht t (by simp)).1 (ht t (by simp)).2 h1 (fun x hx => hs x (by simp [hx])) (fun x hx => hp x (by simp [hx]))

theorem law_post {f : Func} {s : ChangeSpec} {W W' : World} {args : Array Value} {ds gs : List (DataW H)} {before : List MemPlace}
    (hW : DataW.Whole enc Tryd.prog f.params.toList s.vars false W args.toList ds gs before) (hvars : s.vars = []) (hr : f.resultTypes = #[4])
    (hread : ∀ t ∈ f.params.toList, Tryd.prog.readableRec t = true ∧ t < Tryd.prog.types.size)
    (hres : (s.fn H (ds ++ gs)).results = [.lit (.bool true)]) (hargs : (s.fn H (ds ++ gs)).args = ds) (hv : (s.fn H (ds ++ gs)).vars = [])
    (hb : Below W.heap.size W W') : s.post enc Tryd.prog f false true false false W args (.bool true) W' := by
  have hlt : ∀ p ∈ before, p.block < W.heap.size := fun p hp => hW.lt p hp
  have hW0 := hW
  obtain ⟨p, q, hA, hV, rfl, hz, hn⟩ := hW
  rw [hvars] at hV
  obtain ⟨rfl, rfl⟩ := trodVars_none hV
  simp only [List.append_nil] at hW0 hlt hres hargs hv
  refine ⟨ds, [], p, [], p, [], hW0, ?_, ?_, ?_, ?_, fun h => by cases h⟩
  · rw [List.append_nil, hres, hr]
    exact trodAll_mk1 (shut_bool Tryd.underlying4 true)
  · rw [List.append_nil, hargs]
    exact args_stay hread hA (fun x hx => hb.same (hlt x hx)) (fun x hx => by simpa using hlt x hx)
  · rw [List.append_nil, hv, hvars]
    rfl
  · exact World.keptBut_mono (fun x hx => ⟨hx, Or.inr (Or.inl hx)⟩) (hb.frame (· ∈ p))


end
end Go.Proofs.YtdakbbgbglgioaaDoor

/- A list of bytes that comes in: what lies in memory. No function of the program is spoken of. -/
namespace Go.Proofs.YtdakbbgbglgioaaDoor
open Go.ChangeShapes Go.WideShapes Go.ChangeAt Go.RowKit

section
variable {H : Type} {enc : TypeId × Value → H}
set_option maxRecDepth 100000 in
theorem open_bytes {W : World} {b : Nat} {r : Reach} {v : Value} {d : DataW H} {p : List MemPlace} (hv : Value.okWide Tryd.prog W r b 22 v) (h : DataW.Trod enc Tryd.prog W 0 (fun _ => true) true 22 v d p) :
    ∃ A n c, v = .slice A n c ∧ BytesAt W W.heap.size A n ∧ n ≤ 9223372036854775807 := by
  obtain ⟨a1, len, cap, rfl⟩ := okWide_slice Tryd.underlying22 hv
  obtain ⟨fuel, hf⟩ := h
  rcases open_ints Tryd.underlying22 Tryd.underlying5 (by kernel_rfl) hf with ⟨hcs, _⟩ | ⟨a, len', cap', zs, hcs, _, hl, hm, hz, _, hcell, hwf⟩
  · simp [Value.cells] at hcs
    obtain ⟨rfl, rfl, rfl⟩ := hcs
    exact ⟨none, 0, 0, rfl, fun h => absurd h (by omega), by omega⟩
  · simp [Value.cells] at hcs
    obtain ⟨rfl, rfl, rfl⟩ := hcs
    simp only [if_true] at hz
    unfold maxLen at hm
    refine ⟨some a, len, cap, rfl, ?_, by omega⟩
    intro h0
    obtain ⟨ab, ao, spot⟩ := a
    have hspot : spot = none := by simpa [Addr.add] using World.cell?_spot (hcell 0 (by omega))
    subst hspot
    refine ⟨ab, ao, rfl, ?_, fun i hi => ?_⟩
    · have h1 := hcell 0 (by omega)
      rw [Addr.add_lit] at h1
      exact World.block_lt_of_cell? _ _ h1
    · have h1 := hcell i (by omega)
      rw [Addr.add_lit] at h1
      have hr := range_u8 hwf i
      rw [List.getD_eq_getElem?_getD] at h1
      refine ⟨(zs[i]?.getD 0).toNat, by omega, ?_⟩
      rw [h1, Int.toNat_of_nonneg hr.1]
end
end Go.Proofs.YtdakbbgbglgioaaDoor
