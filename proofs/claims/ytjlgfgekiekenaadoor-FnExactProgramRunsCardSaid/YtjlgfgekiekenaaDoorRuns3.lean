/- impl.ProgramRuns joins the words of all runs of a program card, for every text of at most 1048576 bytes: a contract. Conditions: the library's table of powers of ten holds what its text lays in it. -/
import Derived.Test.YtjlgfgekiekenaaDoorRuns2
import Derived.Test.YtjlgfgekiekenaaDoorDecimal
import Derived.Test.YtjlgfgekiekenaaDoorStepOwn
import Derived.Deep.RegionHeld3
import Derived.Deep.RegionLaw
namespace Go.Proofs.YtjlgfgekiekenaaDoor
open Go.ChangeShapes Go.WideShapes Go.ChangeAt Go.RowKit

theorem info_txt : (Tryd.prog.info? 9).map (fun i => (i.zero, i.size, i.bytes)) = some (some (.string ⟨#[]⟩), 1, 16) := by kernel_rfl
theorem pr_news (W : World) (x : ByteArray) : ∀ j u, [Value.string x][j]? = some u → (W.alloc (.cells #[.string x] 9)).cell? ((⟨W.heap.size, 0, none⟩ : Addr).add j) = some u := by
  intro j u hj
  match j, hj with
  | 0, hj => simp at hj; subst hj; simp [Addr.add]
theorem pr_cell (x : ByteArray) : ∀ u ∈ [Value.string x], u.oneCell' = true := by
  intro u hu
  simp at hu
  subst hu
  rfl
theorem pr_moved {w w' : World} {base n size : Nat} {e : TypeId} {v : Value} {xs : List Value} (h : w.ownsRow base e size v n xs) (hk : ∀ i, base ≤ i → i < w.heap.size → w'.heap[i]? = w.heap[i]?) : w'.ownsRow base e size v n xs := by
  refine ⟨h.1, ?_⟩
  rcases h.2 with h0 | ⟨g, cap, cur, hv, hb, hh, rest⟩
  · exact Or.inl h0
  · refine Or.inr ⟨g, cap, cur, hv, hb, ?_, rest⟩
    rw [hk g hb ?_]
    · exact hh
    · rcases Nat.lt_or_ge g w.heap.size with hlt | hge
      · exact hlt
      · rw [Array.getElem?_eq_none hge] at hh
        cases hh

/-- What the loop over runs keeps: the scanner's box, and the words. -/
structure Scan (w1 wr : World) (s : ByteArray) (ws : List ByteArray) (i : Nat) (v : Value) : Prop where
  below : Below w1.heap.size w1 wr
  c0 : ∃ R, wr.cell? ⟨w1.heap.size, 0, none⟩ = some (.string R)
  c1 : wr.cell? ⟨w1.heap.size, 1, none⟩ = some (.string (sufB s i))
  fz : ∀ j, wr.frozen? ⟨w1.heap.size, j, none⟩ = false
  own : wr.ownsRow (w1.heap.size + 1) 9 1 v ws.length (ws.map Value.string)
  room : w1.heap.size + 1 ≤ wr.heap.size
section
variable {w1 wr w' : World} {s : ByteArray} {ws : List ByteArray} {i : Nat} {v : Value}
theorem Scan.later (h : Scan w1 wr s ws i v) (hb : Below wr.heap.size wr w') : Scan w1 w' s ws i v := by
  have hr := h.room
  refine ⟨below_step h.below hb, ?_, cell_kept h.c1 hb, fun j => by rw [hb.frozen (by simp; omega)]; exact h.fz j, pr_moved h.own (fun i _ hi => hb.block i hi), Nat.le_trans hr hb.size⟩
  obtain ⟨R, hR⟩ := h.c0
  exact ⟨R, cell_kept hR hb⟩
theorem Scan.scanned (h : Scan w1 wr s ws i v) (q : Nat) (X : ByteArray) (i' : Nat) : Scan w1 (((wr.drewN q).setCell ⟨w1.heap.size, 0, none⟩ (.string X)).setCell ⟨w1.heap.size, 1, none⟩ (.string (sufB s i'))) s ws i' v ∧ (((wr.drewN q).setCell ⟨w1.heap.size, 0, none⟩ (.string X)).setCell ⟨w1.heap.size, 1, none⟩ (.string (sufB s i'))).cell? ⟨w1.heap.size, 0, none⟩ = some (.string X) := by
  obtain ⟨R, hR⟩ := h.c0
  have k0 : (((wr.drewN q).setCell ⟨w1.heap.size, 0, none⟩ (.string X)).setCell ⟨w1.heap.size, 1, none⟩ (.string (sufB s i'))).cell? ⟨w1.heap.size, 0, none⟩ = some (.string X) := by
    rw [World.cell?_setCell_other _ _ _ _ (by intro e; injection e with e1 e2; omega)]
    exact World.cell?_setCell_same (wr.drewN q) _ _ hR
  have k1 : ((wr.drewN q).setCell ⟨w1.heap.size, 0, none⟩ (.string X)).cell? ⟨w1.heap.size, 1, none⟩ = some (.string (sufB s i)) := by
    rw [World.cell?_setCell_other _ _ _ _ (by intro e; injection e with e1 e2; omega)]
    exact h.c1
  refine ⟨⟨((below_drewN h.below q).setCell (Nat.le_refl _) _).setCell (Nat.le_refl _) _, ⟨X, k0⟩, World.cell?_setCell_same _ _ _ k1, fun j => by simpa using h.fz j, pr_moved h.own (fun k hk _ => ?_), by simpa [World.setCell] using h.room⟩, k0⟩
  rw [Below.heap_setCell _ _ _ _ (by simp; omega), Below.heap_setCell _ _ _ _ (by simp; omega)]
  rfl
theorem Scan.put {Z : ByteArray} {v' : Value} (h : Scan w1 wr s ws i v) (hgrow : (wr.alloc (.cells #[.string Z] 9)).grownBy w' v.ownBlock)
    (hown : w'.ownsRow (w1.heap.size + 1) 9 1 v' (ws.length + 1) (ws.map Value.string ++ [.string Z])) : Scan w1 w' s (ws ++ [Z]) i v' := by
  have hr := h.room
  have hk : ∀ k, k < w1.heap.size + 1 → w'.heap[k]? = wr.heap[k]? := fun k hk => by
    rw [hgrow.block k (by simp; omega) (fun e => by have := (h.own.lt k e.symm).1; omega), Below.heap_alloc wr _ k (by omega)]
  obtain ⟨R, hR⟩ := h.c0
  refine ⟨(h.below.alloc (by omega) _).grown hgrow (by simp; omega) (fun k hk => Nat.le_trans (by omega) (h.own.lt k hk).1), ⟨R, ?_⟩, ?_, fun j => ?_, by simpa using hown, by have := hgrow.size; simp at this; omega⟩
  · rw [World.cell?_of_block (hk _ (by simp))]; exact hR
  · rw [World.cell?_of_block (hk _ (by simp))]; exact h.c1
  · have hf := h.fz j
    unfold World.frozen? at hf ⊢
    rw [hk _ (by simp)]
    exact hf
end
/-- the length of a slice -/
def lenOf : Value → Nat
  | .slice _ n _ => n
  | _ => 0
theorem lenOf_own {w : World} {base n size : Nat} {e : TypeId} {v : Value} {xs : List Value} (h : w.ownsRow base e size v n xs) : lenOf v = n := by
  rcases h.2 with ⟨rfl, hz⟩ | ⟨g, cap, cur, rfl, _⟩
  · simp [lenOf, hz]
  · rfl

set_option maxHeartbeats 4000000 in
set_option maxRecDepth 100000 in
theorem programRuns_any (s : ByteArray) (hs : s.size ≤ 1048576) (w : World) (hP : Pow10 w) :
    Calls Tryd.prog 35 #[.string s] w fun e w' => e = .returned (.string (if progB s = true then joinB (chops s 0) else ⟨#[]⟩)) ∧ Below w.heap.size w w' := by
  obtain ⟨i0, hi0, hz0, hz1, hz2⟩ := info_parts info_txt
  have HV := Lib.hid (validProgram_any s w)
  cases hp : progB s
  · rw [hp] at HV
    rw [if_neg (by simp)]
    clear hp
    go_enter Tryd.func35, Tryd.ntmps35
    go_wp2_with fail
    refine HV.out.mono ?_
    rintro e w1 ⟨rfl, hb⟩
    have HB := Lib.hid hb
    clear hb
    go_wp2
    go_ret
    exact ⟨rfl, HB.out⟩
  · rw [hp] at HV
    rw [if_pos rfl]
    have HL := Lib.hid (prog_letters s hp)
    have hsz := prog_size s hp
    have HPow := Lib.hid hP
    clear hp hP
    go_enter Tryd.func35, Tryd.ntmps35
    go_wp2_with fail
    refine HV.out.mono ?_
    rintro e w1 ⟨rfl, hb⟩
    have B1 := Lib.hid hb
    have P1 := Lib.hid (HPow.out.below hb)
    clear hb HV HPow
    go_wp2
    go_loopw [3] (fun v wr => ∃ i : Nat, ∃ ws : List ByteArray, i ≤ s.size ∧ ws.length ≤ i ∧ Hid (Scan w1 wr s ws i v) ∧ Hid ((joinB ws).size ≤ 64 * i) ∧ Hid (ws ++ chops s i = chops s 0)) (fun v _ => s.size + 1 - lenOf v)
    case atStart =>
      refine ⟨0, [], Nat.zero_le _, Nat.zero_le _, ⟨below_box w1 _, ⟨⟨#[]⟩, by simp [go_sem]⟩, by rw [sufB_zero]; simp [go_sem], fun j => by simp [go_sem], ⟨rfl, Or.inl ⟨rfl, rfl⟩⟩, by simp⟩, (Nat.le_refl _ : (joinB []).size ≤ 64 * 0), rfl⟩
    case round =>
      obtain ⟨i, ws, hi, hwl, HS, HJ, HC⟩ := hrel
      by_cases hlt : i < s.size
      · obtain ⟨R, hR⟩ := HS.out.c0
        have HSC := Lib.hid (scan_more s i w1.heap.size R wr hlt hs HL.out hR HS.out.c1 (HS.out.fz 0) (HS.out.fz 1))
        have hn1 := runLen_pos s i hlt
        have hn2 := runLen_le s i hlt
        have hcs := chops_step s i hlt
        obtain ⟨n, hn⟩ : ∃ n, runLen s i = n := ⟨_, rfl⟩
        rw [hn] at HSC hn1 hn2 hcs
        have hXs : (s.extract i (i + n)).size = n := by simp; omega
        have hXe : (s.extract i (i + n)).extract 0 1 = s.extract i (i + 1) := by
          apply ByteArray.ext
          have e3 : min (i + 1) (i + n) = i + 1 := by omega
          simp [ByteArray.extract_extract, e3]
        have hXz : (s.extract i (i + 1)).size = 1 := by simp; omega
        obtain ⟨X, hX⟩ : ∃ X, s.extract i (i + n) = X := ⟨_, rfl⟩
        rw [hX] at HSC hXs hXe
        clear hR hn hX
        go_wp2_with fail
        refine HSC.out.mono ?_
        rintro e w4' ⟨rfl, q, rfl⟩
        obtain ⟨hs4, d0⟩ := HS.out.scanned q X (i + n)
        generalize ((wr.drewN q).setCell ⟨w1.heap.size, 0, none⟩ (.string X)).setCell ⟨w1.heap.size, 1, none⟩ (.string (sufB s (i + n))) = w4 at *
        have HS4 : Hid (Scan w1 w4.drew s ws (i + n) _) := ⟨hs4.below.drew, hs4.c0, hs4.c1, hs4.fz, hs4.own, hs4.room⟩
        have d0d : Hid (w4.drew.cell? ⟨w1.heap.size, 0, none⟩ = some (.string X)) := d0
        have HP4 : Hid (Pow10 w4.drew) := P1.out.below hs4.below.drew
        have HD := Lib.hid (fun W hW => implDecimal_any (n : Int) (by omega) (by omega) W hW)
        obtain ⟨D, hDD⟩ : ∃ D : ByteArray, (⟨(Lib.itoa (n : Int)).toArray⟩ : ByteArray) = D := ⟨_, rfl⟩
        have hDz : D.size ≤ 21 := by rw [← hDD]; show (Lib.itoa (n : Int)).toArray.size ≤ 21; rw [List.size_toArray]; exact Lib.itoa_length_le (n : Int) (by omega) (by omega)
        have hDn : ¬ 9223372036854775807 < 1 + D.size := by omega
        have hZ : wordR s i n = X.extract 0 1 ++ D := by rw [hXe, ← hDD]; rfl
        rw [hDD] at HD
        have hX1 : (X.extract 0 1).size = 1 := by rw [hXe]; exact hXz
        have hx1 : 1 ≤ X.size := by omega
        have hn1' : (1 : Int) ≤ (n : Int) := by omega
        have hxi : (X.size : Int) = (n : Int) := by omega
        have HZ := Lib.hid hZ
        have h63 : ws.length + 1 ≤ maxLen := by unfold maxLen; omega
        have h8 : (ws.length + 1) * 16 ≤ 140737488355328 := by omega
        have HC1 : Hid ((ws ++ [wordR s i n]) ++ chops s (i + n) = chops s 0) := by
          show _ = _
          rw [← HC.out, hcs, List.append_assoc]
          rfl
        have HJ1 : Hid ((joinB (ws ++ [wordR s i n])).size ≤ 64 * (i + n)) := by
          show _ ≤ _
          have hj0 := HJ.out
          have hwz : (wordR s i n).size = 1 + D.size := by rw [hZ, ByteArray.size_append, hX1]
          by_cases hw : ws = []
          · rw [hw, List.nil_append, joinB_one, hwz]
            omega
          · rw [joinB_snoc _ _ hw, ByteArray.size_append, ByteArray.size_append, hwz]
            show (joinB ws).size + 1 + (1 + D.size) ≤ _
            omega
        clear hs4 hDD hZ hcs hXe hXz HS HC HSC HJ
        go_wp2
        go_region_law (first
          | (refine step_append_own _ rfl _ _ 39 rfl (w1.heap.size + 1) 9 i0 (.string ⟨#[]⟩) 1 16 Tryd.underlying39 hi0 hz0 hz1 hz2 rfl (by decide) _ _ _ rfl (HO5.out.alloc _) ⟨w5.heap.size, 0, none⟩ 1 1 [.string (X.extract 0 1 ++ D)] rfl rfl (pr_news _ _) (pr_cell _) h63 h8 (by first | omega | (simp; omega)) ?_; intro v' w9 hown hgrow _; have HG9 := Lib.hid hgrow; have HO9 := Lib.hid hown; clear hown hgrow)
          | (go_simp; go_at_call 63; refine (HD.out _ (HP4.out)).mono ?_; rintro e w5 ⟨rfl, hb5⟩; have c5 := cell_kept d0d.out hb5; have HS5 := Lib.hid (HS4.out.later hb5); have HO5 := Lib.hid (HS4.out.later hb5).own; have hsz5 := (HS4.out.later hb5).room; have HB5 := Lib.hid hb5; clear hb5))
        all_goals
          have hput := HS5.out.put HG9.out HO9.out
          rw [← HZ.out] at hput
          have l1 := lenOf_own HO5.out
          have l2 := lenOf_own HO9.out
          have HPut := Lib.hid hput
          clear hput
          refine ⟨⟨v', _, _, _, _, _, _, _, _, _, _, _, _, ⟨i + n, ws ++ [wordR s i n], by omega, by simp; omega, HPut.out, HJ1, HC1⟩, rfl⟩, ?_⟩
          show s.size + 1 - lenOf v' < s.size + 1 - lenOf _
          have l3 := l1
          first
            | (rw [l2]; show s.size + 1 - (ws.length + 1) < s.size + 1 - lenOf _; erw [l1]; omega)
            | (trace_state; omega)
      · obtain rfl : i = s.size := by omega
        have hce : sufB s s.size = ⟨#[]⟩ := by
          apply ByteArray.ext
          simp [sufB]
        have hc1 := HS.out.c1
        rw [hce] at hc1
        have HSC := Lib.hid (scan_none w1.heap.size wr hc1)
        have hws : ws = chops s 0 := by
          have := HC.out
          rwa [chops_end, List.append_nil] at this
        have hpos : 0 < ws.length := by
          rw [hws, chops_step s 0 (by omega)]
          simp
        have BB := Lib.hid (below_step B1.out HS.out.below)
        have how := HS.out.own
        rcases how.2 with ⟨_, hz⟩ | ⟨g, cap, cur, hv, hgb, hh, hc1', hc2', hc3', ht⟩
        · omega
        · subst hv
          have hlt2 : g < wr.heap.size := by
            rcases Nat.lt_or_ge g wr.heap.size with h | h
            · exact h
            · rw [Array.getElem?_eq_none h] at hh
              cases hh
          have hj := Tryd.strings_Join g 0 cap ws ⟨#[32]⟩ wr (fun j x hx => by
            have := how.cells (g := g) rfl j (.string x) (by simp [hx])
            cases j with
            | zero => simpa [Addr.add] using this
            | succ j => simpa [Addr.add] using this) hlt2 (by omega) hc1' (by
            have hsz3 := HJ.out
            have e : (joinB ws).size = (Lib.join (ws.map (·.data.toList)) (ByteArray.mk #[32]).data.toList).length := by
              show (Lib.join (ws.map (·.data.toList)) (ByteArray.mk #[32]).data.toList).toArray.size = _
              rw [List.size_toArray]
            rw [← e]
            omega)
          have hj' : Calls Tryd.prog 64 #[.slice (some ⟨g, 0, none⟩) ws.length cap, .string ⟨#[32]⟩] wr fun e w' => e = .returned (.string (joinB ws)) ∧ Below wr.heap.size wr w' := hj
          rw [hws] at hj'
          obtain ⟨J, hJ⟩ : ∃ J, joinB (chops s 0) = J := ⟨_, rfl⟩
          have HJN := Lib.hid hj'
          have hwl2 : (chops s 0).length = ws.length := by rw [hws]
          clear hj hj' hJ hc1 hce hh ht how HS HC HJ
          rw [hwl2] at HJN
          go_wp2_with (go_at_call 62; refine HSC.out.mono ?_; rintro e w' ⟨rfl, rfl⟩)
          refine HJN.out.mono ?_
          rintro e w2 ⟨rfl, hb⟩
          have B2 := Lib.hid (below_step BB.out hb)
          clear hb
          go_wp2
          go_ret
          exact ⟨rfl, B2.out⟩
end Go.Proofs.YtjlgfgekiekenaaDoor
