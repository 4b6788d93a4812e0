/- Whether all cards of a deck have the same pocket in a pass: spec.l08Idle, l07Code, IsIdlePass and impl.isIdle, IsIdlePass: contracts. -/
import Derived.Test.YtfffdlmpiglojaaDoorPasses
import Derived.Test.YtfffdlmpiglojaaDoorSortWidth
namespace Go.Proofs.YtfffdlmpiglojaaDoor
open Go.ChangeShapes Go.WideShapes Go.ChangeAt Go.RowKit

/-- the pocket of the first card -/
def firstP (H : List (List Int)) (a m : Int) : Int := pocketP (H[0]?.getD []) a m
/-- whether all cards have the same pocket -/
def idleV (H : List (List Int)) (a m : Int) : Bool := H.all fun xs => pocketP xs a m == firstP H a m
theorem idle_one (H : List (List Int)) (a m : Int) : (H.take 1).all (fun xs => pocketP xs a m == firstP H a m) = true := by
  cases H with
  | nil => rfl
  | cons x H => simp [firstP]
theorem hole_at {D : List CardV} {k : Nat} {d : CardV} (h : D[k]? = some d) : (holes D)[k]? = some d.xs := by simp [holes, h]

section
variable (A : Option Addr) (c : Nat) (D : List CardV) (B : Nat) (k : Nat) (m : Int) (w : World) (h : Deck w B A D) (hB : B ≤ w.heap.size) (hv : deckB (holes D) = true) (hk : k < widthH (holes D))
include h hB hv hk

theorem pocketAt {b off : Nat} (hA : A = some ⟨b, off, none⟩) (o : Nat) (h1 : off ≤ o) (h2 : o < off + D.length) (W : World) (hW : Below w.heap.size w W) :
    Calls Tryd.prog 64 #[.pointer (some ⟨b, o, none⟩), .agg #[.int .i64 k, .int .i64 m]] W fun e w' => e = .returned (.int .i64 (pocketP ((holes D)[o - off]?.getD []) k m)) ∧ Below W.heap.size W w' := by
  subst hA
  obtain ⟨d, hd⟩ : ∃ d, D[o - off]? = some d := ⟨D[o - off]'(by omega), List.getElem?_eq_getElem _⟩
  obtain ⟨b', off', e, hb, hc⟩ := (h.below (hW.mono hB)) (by omega)
  injection e with e
  injection e with e1 e2
  subst e1 e2
  obtain ⟨x1, x2⟩ := hc (o - off) d hd
  rw [show off + (o - off) = o by omega] at x1
  obtain ⟨y1, y2⟩ := deck_width hv (hole_at hd)
  rw [hole_at hd]
  exact l07Pocket_any d.at_ d.cap d.xs B b o k m W x1 x2 (by rw [y2]; exact hk) y1

set_option maxHeartbeats 1000000 in
theorem l08Idle_any :
    Calls Tryd.prog 35 #[.slice A D.length c, .agg #[.int .i64 k, .int .i64 m]] w fun e w' => e = .returned (.bool (idleV (holes D) k m)) ∧ Below w.heap.size w w' := by
  have hp := fun b off hA o h1 h2 W hW => pocketAt A D B k m w h hB hv hk (b := b) (off := off) hA o h1 h2 W hW
  have hn40 : D.length ≤ 40 := by
    have := deck_len hv
    simpa [holes] using this
  obtain ⟨n, hN⟩ : ∃ n, D.length = n := ⟨_, rfl⟩
  obtain ⟨r, hr⟩ : ∃ r, idleV (holes D) k m = r := ⟨_, rfl⟩
  have hl : (holes D).length = n := by simp [holes, hN]
  rw [hN] at hn40
  rw [hN, hr]
  simp only [hN] at hp
  have hA : 0 < n → ∃ b off, A = some ⟨b, off, none⟩ := fun h0 => by
    obtain ⟨b, off, e, _⟩ := h (by omega)
    exact ⟨b, off, e⟩
  have h1 := idle_one (holes D) k m
  obtain ⟨H, hH⟩ : ∃ H, holes D = H := ⟨_, rfl⟩
  rw [hH] at h1 hr hl
  simp only [hH] at hp
  have p0 : (w.alloc (.cells #[.int .i64 k, .int .i64 m] 60)).cell? ⟨w.heap.size, 0, none⟩ = some (.int .i64 k) := by simp
  have p1 : (w.alloc (.cells #[.int .i64 k, .int .i64 m] 60)).cell? ⟨w.heap.size, 1, none⟩ = some (.int .i64 m) := by simp
  have HP := Lib.hid hp
  have HA := Lib.hid hA
  have H1 := Lib.hid h1
  have HR := Lib.hid hr
  have HL := Lib.hid hl
  clear h hv hk hN hH hp hA h1 hr hl
  go_enter Tryd.func35, Tryd.ntmps35
  go_wp2
  go_loopw [5] (fun i wr => ∃ t : Nat, 1 ≤ t ∧ (t ≤ n ∨ t = 1) ∧ i = .int .i64 t ∧ Hid ((H.take t).all (fun xs => pocketP xs k m == firstP H k m) = true) ∧ Hid (Below (w.alloc (.cells #[.int .i64 k, .int .i64 m] 60)).heap.size (w.alloc (.cells #[.int .i64 k, .int .i64 m] 60)) wr)) (fun i _ => n + 1 - (intOf i).toNat)
  case atStart => exact ⟨1, Nat.le_refl _, Or.inr rfl, rfl, H1, Below.refl _ _⟩
  case round =>
    obtain ⟨t, ht1, ht2, rfl, HK, HB⟩ := hrel
    by_cases hlt : t < n
    · obtain ⟨b, off, rfl⟩ := HA.out (by omega)
      have hq := fun o h1 h2 W hW => HP.out b off rfl o h1 h2 W hW
      obtain ⟨x, hx⟩ : ∃ x, H[t]? = some x := ⟨H[t]'(by rw [HL.out]; exact hlt), List.getElem?_eq_getElem _⟩
      have e1 : pocketP (H[off + t - off]?.getD []) k m = pocketP x k m := by rw [show off + t - off = t by omega, hx]; rfl
      have e2 : pocketP (H[off - off]?.getD []) k m = firstP H k m := by rw [Nat.sub_self]; rfl
      obtain ⟨f, hf⟩ : ∃ f : Nat → Int, (fun o => pocketP (H[o - off]?.getD []) k m) = f := ⟨_, rfl⟩
      have hfo : ∀ o, pocketP (H[o - off]?.getD []) k m = f o := fun o => by rw [← hf]
      simp only [hfo] at hq
      rw [hfo] at e1 e2
      have HQ := Lib.hid hq
      have q0 := cell_kept p0 HB.out
      have q1 := cell_kept p1 HB.out
      have HC : Hid (Below w.heap.size w wr.drew) := (below_step (below_box w _) HB.out).drew
      have HS : Hid (Below wr.drew.heap.size wr.drew wr.drew) := Below.refl _ _
      have HB0 := HB
      have k0 : (0 : Int) ≤ (t : Int) := Int.natCast_nonneg _
      have k1 : (t : Int) < (n : Int) := by omega
      have k2 : (0 : Int) < (n : Int) := by omega
      have k3 : 0 < n := by omega
      have Hx := Lib.hid hx
      have E1 := Lib.hid e1
      have E2 := Lib.hid e2
      clear hq hf hfo hx e1 e2
      by_cases hne : pocketP x k m = firstP H k m
      · have c1 : (f (off + t) != f off) = false := by
          have a1 := E1.out
          have a2 := E2.out
          rw [a1, a2, hne]
          simp
        have HK1 : Hid ((H.take (t + 1)).all (fun xs => pocketP xs k m == firstP H k m) = true) := all_more _ H t x Hx.out HK.out (by simpa using hne)
        clear hne
        go_wp2_with fail
        go_region_held3 (fun W => W.cell? ⟨w.heap.size, 0, none⟩ = some (.int .i64 k) ∧ W.cell? ⟨w.heap.size, 1, none⟩ = some (.int .i64 m))
          (first | exact ⟨cell_kept (w := wr.drew) q0 HS.out, cell_kept (w := wr.drew) q1 HS.out⟩ | go_keep)
          (first
            | (go_at_call 64
               refine (HQ.out _ ?_ ?_ _ ?_).mono ?_
               · omega
               · omega
               · exact HC.out
               rintro e w2 ⟨rfl, hb⟩
               have HC := Lib.hid (below_step HC.out hb)
               have HS := Lib.hid (below_step HS.out hb)
               clear hb))
        all_goals
          have HB2 : Hid (Below (w.alloc (.cells #[.int .i64 k, .int .i64 m] 60)).heap.size (w.alloc (.cells #[.int .i64 k, .int .i64 m] 60)) _) := below_step HB0.out.drew HS.out
          go_wp2
          go_roundw
          case rel => exact ⟨t + 1, by omega, by omega, by go_num, HK1, HB2⟩
          case measure => simp [intOf]; omega
      · have c1 : (f (off + t) != f off) = true := by
          have a1 := E1.out
          have a2 := E2.out
          rw [a1, a2]
          simpa using hne
        obtain rfl : r = false := by
          rw [← HR.out, idleV]
          exact all_bad _ H t x Hx.out (by simpa using hne)
        clear hne
        go_wp2_with fail
        go_region_held3 (fun W => W.cell? ⟨w.heap.size, 0, none⟩ = some (.int .i64 k) ∧ W.cell? ⟨w.heap.size, 1, none⟩ = some (.int .i64 m))
          (first | exact ⟨cell_kept (w := wr.drew) q0 HS.out, cell_kept (w := wr.drew) q1 HS.out⟩ | go_keep)
          (first
            | (go_at_call 64
               refine (HQ.out _ ?_ ?_ _ ?_).mono ?_
               · omega
               · omega
               · exact HC.out
               rintro e w2 ⟨rfl, hb⟩
               have HC := Lib.hid (below_step HC.out hb)
               have HS := Lib.hid (below_step HS.out hb)
               clear hb))
        all_goals
          have HB2 : Hid (Below w.heap.size w _) := HC
          go_wp2
          go_ret
          exact ⟨rfl, HB2.out⟩
    · have k1 : ¬ (t : Int) < (n : Int) := by omega
      obtain rfl : r = true := by
        have := HK.out
        rw [List.take_of_length_le (by rw [HL.out]; omega)] at this
        rw [← HR.out]
        exact this
      have HB2 := Lib.hid (below_step (below_box w _) HB.out)
      go_wp2
      go_ret
      exact ⟨rfl, HB2.out⟩
end

/-- the code of a deck and a pass -/
theorem passesC_pass (H : List (List Int)) (a m : Int) : passesC H [(a, m)] = if deckB H = false then 1 else if passB a m (widthH H) = false then 2 else 0 := by
  rw [passesC]
  simp [passesB]
theorem passesC_zero {H : List (List Int)} {a m : Int} (h : passesC H [(a, m)] = 0) : deckB H = true ∧ ∃ k : Nat, a = k ∧ k < widthH H := by
  rw [passesC_pass] at h
  cases h1 : deckB H
  · rw [h1, if_pos rfl] at h; exact absurd h (by decide)
  · cases h2 : passB a m (widthH H)
    · rw [h1, h2, if_neg (by simp), if_pos rfl] at h; exact absurd h (by decide)
    · refine ⟨rfl, ?_⟩
      simp only [passB, Bool.and_eq_true, decide_eq_true_eq] at h2
      exact ⟨a.toNat, by omega, by omega⟩
theorem passB_small {a m : Int} {z : Nat} : passB a m z = passB a m (z : Int) := rfl

/-- a place, or none: just if b -/
def FoundB (b : Bool) (w : World) (e : Ending) (w' : World) : Prop := ∃ r : Int, e = .returned (.int .i64 r) ∧ decide (r ≥ 0) = b ∧ Below w.heap.size w w'

section
variable (A1 A0 : Option Addr) (c1 c0 pb db b off n c k : Nat) (m : Int) (xs ys : List Int) (B : Nat) (w : World)
set_option maxHeartbeats 1000000 in
theorem idle1_any (hp0 : w.cell? ⟨pb, 0, none⟩ = some (.int .i64 k)) (hp1 : w.cell? ⟨pb, 1, none⟩ = some (.int .i64 m)) (hd : w.cell? ⟨db, 0, none⟩ = some (.slice (some ⟨b, off, none⟩) n c)) (h0 : w.cell? ⟨b, off, none⟩ = some (.slice A0 ys.length c0))
    (hx : Ints w B A1 xs) (hy : Ints w B A0 ys) (hB : B ≤ w.heap.size) (hkx : k < xs.length) (hky : k < ys.length) (hvx : okB xs = true) (hvy : okB ys = true) (hn : 0 < n) :
    Calls Tryd.prog 71 #[.agg #[.slice A1 xs.length c1], .pointer (some ⟨pb, 0, none⟩), .pointer (some ⟨db, 0, none⟩)] w fun e w' => e = .returned (.bool (pocketP xs k m != pocketP ys k m)) ∧ Below w.heap.size w w' := by
  have f1 := fun W (hW : Below w.heap.size w W) => pocketFor_any A1 c1 xs B k m W (hx.below (hW.mono hB)) (Nat.le_trans hB hW.size) hkx hvx
  have f0 := fun W (hW : Below w.heap.size w W) => pocketFor_any A0 c0 ys B k m W (hy.below (hW.mono hB)) (Nat.le_trans hB hW.size) hky hvy
  obtain ⟨n1, e1⟩ : ∃ n1, xs.length = n1 := ⟨_, rfl⟩
  obtain ⟨n0, e0⟩ : ∃ n0, ys.length = n0 := ⟨_, rfl⟩
  obtain ⟨v1, ev1⟩ : ∃ v1, pocketP xs k m = v1 := ⟨_, rfl⟩
  obtain ⟨v0, ev0⟩ : ∃ v0, pocketP ys k m = v0 := ⟨_, rfl⟩
  simp only [e1, ev1] at f1
  simp only [e0, ev0] at f0
  rw [e0] at h0
  rw [e1, ev1, ev0]
  have F1 := Lib.hid f1
  have F0 := Lib.hid f0
  have bx := below_box w (.cells #[.slice A1 n1 c1] 61)
  have q0 := cell_kept hp0 bx
  have q1 := cell_kept hp1 bx
  have q2 := cell_kept hd bx
  have q3 := cell_kept h0 bx
  have q4 : (w.alloc (.cells #[.slice A1 n1 c1] 61)).cell? ⟨w.heap.size, 0, none⟩ = some (.slice A1 n1 c1) := by simp
  have HC : Hid (Below w.heap.size w (w.alloc (.cells #[.slice A1 n1 c1] 61)).drew) := bx.drew
  have HS : Hid (Below (w.alloc (.cells #[.slice A1 n1 c1] 61)).drew.heap.size (w.alloc (.cells #[.slice A1 n1 c1] 61)).drew (w.alloc (.cells #[.slice A1 n1 c1] 61)).drew) := Below.refl _ _
  have i0 : (0 : Int) < (n : Int) := by omega
  clear f1 f0 hx hy hkx hky hvx hvy e1 e0 ev1 ev0 hp0 hp1 hd h0 bx hB
  go_enter Tryd.func71, Tryd.ntmps71
  go_wp2_with fail
  go_region_held3 (fun W => W.cell? ⟨pb, 0, none⟩ = some (.int .i64 k) ∧ W.cell? ⟨pb, 1, none⟩ = some (.int .i64 m) ∧ W.cell? ⟨db, 0, none⟩ = some (.slice (some ⟨b, off, none⟩) n c) ∧ W.cell? ⟨b, off, none⟩ = some (.slice A0 n0 c0) ∧ W.cell? ⟨w.heap.size, 0, none⟩ = some (.slice A1 n1 c1))
    (first | exact ⟨cell_kept (w := (w.alloc (.cells #[.slice A1 n1 c1] 61)).drew) q0 HS.out, cell_kept (w := (w.alloc (.cells #[.slice A1 n1 c1] 61)).drew) q1 HS.out, cell_kept (w := (w.alloc (.cells #[.slice A1 n1 c1] 61)).drew) q2 HS.out, cell_kept (w := (w.alloc (.cells #[.slice A1 n1 c1] 61)).drew) q3 HS.out, cell_kept (w := (w.alloc (.cells #[.slice A1 n1 c1] 61)).drew) q4 HS.out⟩ | go_keep)
    (first
      | (go_at_call 72
         (with_reducible refine (F1.out _ ?_).mono ?_)
         · exact HC.out
         rintro e w2 ⟨rfl, hb⟩
         have HC := Lib.hid (below_step HC.out hb)
         have HS := Lib.hid (below_step HS.out hb)
         clear hb)
      | (go_at_call 72
         (with_reducible refine (F0.out _ ?_).mono ?_)
         · exact HC.out
         rintro e w2 ⟨rfl, hb⟩
         have HC := Lib.hid (below_step HC.out hb)
         have HS := Lib.hid (below_step HS.out hb)
         clear hb))
  all_goals
    have HB2 : Hid (Below w.heap.size w _) := HC
    go_wp2
    go_ret
    exact ⟨rfl, HB2.out⟩
end

section
variable (A : Option Addr) (c : Nat) (D : List CardV) (B : Nat) (w : World) (h : Deck w B A D) (hB : B ≤ w.heap.size) (hn : D.length ≤ 1048576)
include h hB hn
theorem idleIndex_any (pb db : Nat) (g : List Int → Bool)
    (hg : ∀ (i : Nat) d, D[i]? = some d → ∀ W, Below w.heap.size w W → Calls Tryd.prog 71 #[.agg #[d.value], .pointer (some ⟨pb, 0, none⟩), .pointer (some ⟨db, 0, none⟩)] W fun e w' => e = .returned (.bool (g d.xs)) ∧ Below W.heap.size W w') :
    Calls Tryd.prog 92 #[.slice A D.length c, .func (.func 71) #[] #[.pointer (some ⟨pb, 0, none⟩), .pointer (some ⟨db, 0, none⟩)]] w (FoundB ((holes D).any g) w) := by
  obtain ⟨n, hN⟩ : ∃ n, D.length = n := ⟨_, rfl⟩
  obtain ⟨r, hr⟩ : ∃ r, (holes D).any g = r := ⟨_, rfl⟩
  rw [hN] at hn
  rw [hN, hr]
  have H := Lib.hid h
  have HN := Lib.hid hN
  have HR := Lib.hid hr
  have HG := Lib.hid hg
  clear h hN hr hg
  go_enter Tryd.func92, Tryd.ntmps92
  go_wp2
  go_loopw [8] (fun i wr => ∃ t : Nat, t ≤ n ∧ i = .int .i64 t ∧ Hid (((holes D).take t).any g = false) ∧ Hid (Below w.heap.size w wr)) (fun i _ => n - (intOf i).toNat)
  case atStart => exact ⟨0, Nat.zero_le _, rfl, by show _ = _; simp, Below.refl _ _⟩
  case round =>
    obtain ⟨t, ht, rfl, HK, HB⟩ := hrel
    by_cases hlt : t < n
    · obtain ⟨d, hd⟩ : ∃ d, D[t]? = some d := ⟨D[t]'(by rw [HN.out]; exact hlt), List.getElem?_eq_getElem _⟩
      obtain ⟨b, off, rfl, hb, hcell⟩ := (H.out.below (HB.out.mono hB)) (by rw [HN.out]; omega)
      have hc := (hcell t d hd).1
      have hgt := HG.out t d hd wr HB.out
      obtain ⟨u, hu⟩ : ∃ u, g d.xs = u := ⟨_, rfl⟩
      rw [hu] at hgt
      have hsn : (holes D).take (t + 1) = (holes D).take t ++ [d.xs] := by
        rw [List.take_add_one, hole_at hd]
        rfl
      have HSN := Lib.hid hsn
      have HU := Lib.hid hu
      have Hd := Lib.hid hd
      obtain ⟨dv, hdv⟩ : ∃ dv, d.value = dv := ⟨_, rfl⟩
      have hsh : ∃ A' n' c', dv = .slice A' n' c' := ⟨_, _, _, hdv.symm⟩
      rw [hdv] at hc hgt
      obtain ⟨A', n', c', rfl⟩ := hsh
      have HGT := Lib.hid hgt
      have k0 : (0 : Int) ≤ (t : Int) := Int.natCast_nonneg _
      have k1 : (t : Int) < (n : Int) := by omega
      clear hcell hgt hu hsn hd hdv hb
      cases u
      · have HK1 : Hid (((holes D).take (t + 1)).any g = false) := by
          show _ = _
          rw [HSN.out, List.any_append, HK.out]
          simp [HU.out]
        go_wp2_with fail
        refine HGT.out.mono ?_
        rintro e w2 ⟨rfl, hb⟩
        have HB2 := Lib.hid (below_step HB.out hb)
        clear hb
        go_wp2
        go_roundw
        case rel => exact ⟨t + 1, by omega, by go_num, HK1, HB2⟩
        case measure => simp [intOf]; omega
      · obtain rfl : r = true := by
          rw [← HR.out, List.any_eq_true]
          exact ⟨d.xs, List.mem_of_getElem? (hole_at Hd.out), HU.out⟩
        go_wp2_with fail
        refine HGT.out.mono ?_
        rintro e w2 ⟨rfl, hb⟩
        have HB2 := Lib.hid (below_step HB.out hb)
        clear hb
        go_wp2
        go_ret
        exact ⟨t, rfl, by simp, HB2.out⟩
    · have k1 : ¬ (t : Int) < (n : Int) := by omega
      obtain rfl : r = false := by
        have := HK.out
        rw [List.take_of_length_le (by simp [holes]; rw [HN.out]; omega)] at this
        rw [← HR.out, this]
      go_wp2
      go_ret
      exact ⟨-1, rfl, by decide, HB.out⟩

theorem idleContains_any (pb db : Nat) (g : List Int → Bool)
    (hg : ∀ (i : Nat) d, D[i]? = some d → ∀ W, Below w.heap.size w W → Calls Tryd.prog 71 #[.agg #[d.value], .pointer (some ⟨pb, 0, none⟩), .pointer (some ⟨db, 0, none⟩)] W fun e w' => e = .returned (.bool (g d.xs)) ∧ Below W.heap.size W w') :
    Calls Tryd.prog 70 #[.slice A D.length c, .func (.func 71) #[] #[.pointer (some ⟨pb, 0, none⟩), .pointer (some ⟨db, 0, none⟩)]] w fun e w' => e = .returned (.bool ((holes D).any g)) ∧ Below w.heap.size w w' := by
  have hi := idleIndex_any A c D B w h hB hn pb db g hg
  obtain ⟨r, hr⟩ : ∃ r, (holes D).any g = r := ⟨_, rfl⟩
  rw [hr] at hi ⊢
  have HI := Lib.hid hi
  clear hi hr h hg
  go_enter Tryd.func70, Tryd.ntmps70
  go_wp2_with fail
  refine HI.out.mono ?_
  rintro e w1 ⟨x, rfl, hx, hb⟩
  have B1 := Lib.hid hb
  have HX := Lib.hid hx
  clear hb hx
  go_wp2
  go_ret
  exact ⟨by rw [← HX.out]; rfl, B1.out⟩
end

section
variable (A : Option Addr) (c : Nat) (D : List CardV) (B : Nat) (k : Nat) (m : Int) (w : World) (h : Deck w B A D) (hB : B ≤ w.heap.size) (hv : deckB (holes D) = true) (hk : k < widthH (holes D))
include h hB hv hk
theorem isIdle_any :
    Calls Tryd.prog 41 #[.agg #[.int .i64 k, .int .i64 m], .slice A D.length c] w fun e w' => e = .returned (.bool (idleV (holes D) k m)) ∧ Below w.heap.size w w' := by
  have hn40 : D.length ≤ 40 := by
    have := deck_len hv
    simpa [holes] using this
  obtain ⟨W0, hW0⟩ : ∃ W0, (w.alloc (.cells #[.int .i64 k, .int .i64 m] 60)).alloc (.cells #[.slice A D.length c] 29) = W0 := ⟨_, rfl⟩
  have b0 : Below w.heap.size w W0 := by rw [← hW0]; exact (below_box w _).alloc (by simp) _
  have p0 : W0.cell? ⟨w.heap.size, 0, none⟩ = some (.int .i64 k) := by rw [← hW0]; simp [go_sem]
  have p1 : W0.cell? ⟨w.heap.size, 1, none⟩ = some (.int .i64 m) := by rw [← hW0]; simp [go_sem]
  have p2 : W0.cell? ⟨w.heap.size + 1, 0, none⟩ = some (.slice A D.length c) := by rw [← hW0]; simp [go_sem]
  have hc := idleContains_any A c D B W0 (h.below (b0.mono hB)) (Nat.le_trans hB b0.size) (by omega) w.heap.size (w.heap.size + 1) (fun xs => pocketP xs k m != firstP (holes D) k m) (fun i d hd W hW => by
    obtain ⟨b, off, rfl, hb, hcell⟩ := (h.below ((b0.trans (hW.mono b0.size)).mono hB)) (by
      rcases Nat.lt_or_ge i D.length with hlt | hge
      · omega
      · rw [List.getElem?_eq_none hge] at hd; cases hd)
    have hlen : 0 < D.length := by
      rcases Nat.lt_or_ge i D.length with hlt | hge
      · omega
      · rw [List.getElem?_eq_none hge] at hd; cases hd
    obtain ⟨d0, hd0⟩ : ∃ d0, D[0]? = some d0 := ⟨D[0]'hlen, List.getElem?_eq_getElem _⟩
    obtain ⟨x1, x2⟩ := hcell i d hd
    obtain ⟨y1, y2⟩ := hcell 0 d0 hd0
    obtain ⟨o1, o2⟩ := deck_width hv (hole_at hd)
    obtain ⟨o3, o4⟩ := deck_width hv (hole_at hd0)
    have ef : firstP (holes D) k m = pocketP d0.xs k m := by rw [firstP, hole_at hd0]; rfl
    rw [ef]
    exact idle1_any d.at_ d0.at_ d.cap d0.cap w.heap.size (w.heap.size + 1) b off D.length c k m d.xs d0.xs B W (cell_kept p0 hW) (cell_kept p1 hW) (cell_kept p2 hW) y1 x2 y2 (Nat.le_trans hB (b0.trans (hW.mono b0.size)).size) (by rw [o2]; exact hk) (by rw [o4]; exact hk) o1 o3 hlen)
  have ha : (holes D).any (fun xs => pocketP xs k m != firstP (holes D) k m) = !idleV (holes D) k m := by
    rw [idleV, List.not_all_eq_any_not]
    rfl
  rw [ha] at hc
  obtain ⟨r, hr⟩ : ∃ r, idleV (holes D) k m = r := ⟨_, rfl⟩
  rw [hr] at hc ⊢
  obtain ⟨n, hN⟩ : ∃ n, D.length = n := ⟨_, rfl⟩
  rw [hN] at hc hW0 ⊢
  have HC := Lib.hid hc
  have B0 := Lib.hid b0
  have HW := Lib.hid hW0
  clear hc hr h hv hk ha p0 p1 p2 hN b0 hW0
  go_enter Tryd.func41, Tryd.ntmps41
  go_wp2_with fail
  rw [HW.out]
  refine HC.out.mono ?_
  rintro e w1 ⟨rfl, hb⟩
  have B1 := Lib.hid (below_step B0.out hb)
  clear hb
  go_wp2
  go_ret
  exact ⟨by simp, B1.out⟩
end

end Go.Proofs.YtfffdlmpiglojaaDoor