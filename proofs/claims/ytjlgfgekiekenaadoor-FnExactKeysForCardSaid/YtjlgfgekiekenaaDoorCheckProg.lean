/- impl.checkProgram answers, for every text of at most 1048576 bytes and every list of cards, the code of a program card and of cards: a contract. -/
import Derived.Test.YtjlgfgekiekenaaDoorProgs
import Derived.Test.YtjlgfgekiekenaaDoorDecks
namespace Go.Proofs.YtjlgfgekiekenaaDoor
open Go.ChangeShapes Go.WideShapes Go.ChangeAt Go.RowKit

def okAll (D : List CardV) : Bool := D.all fun d => okB d.xs
def wideAll (D : List CardV) (n : Nat) : Bool := D.all fun d => decide (d.xs.length = n)
def chkC (s : ByteArray) (D : List CardV) : Nat := if progB s = true then (if okAll D = true then (if wideAll D s.size = true then 0 else 2) else 1) else 1

theorem cp_more (p : CardV → Bool) (D : List CardV) (k : Nat) (d : CardV) (hd : D[k]? = some d) (h : (D.take k).all p = true) (e : p d = true) : (D.take (k + 1)).all p = true := by
  obtain ⟨hk, rfl⟩ := List.getElem?_eq_some_iff.1 hd
  rw [List.take_succ_eq_append_getElem hk, List.all_append, h]
  simp [e]
theorem cp_bad (p : CardV → Bool) (D : List CardV) (k : Nat) (d : CardV) (hd : D[k]? = some d) (e : p d = false) : D.all p = false := by
  obtain ⟨hk, rfl⟩ := List.getElem?_eq_some_iff.1 hd
  rw [List.all_eq_false]
  exact ⟨D[k], List.getElem_mem hk, by simp [e]⟩

set_option maxHeartbeats 2000000 in
theorem checkProgram_any (s : ByteArray) (A : Option Addr) (c : Nat) (D : List CardV) (B : Nat) (w : World) (h : Deck w B A D) (hB : B ≤ w.heap.size) (hn : D.length ≤ 1048576) (hl : ∀ d ∈ D, d.xs.length ≤ 1048576) (hs : s.size ≤ 1048576) :
    Calls Tryd.prog 45 #[.string s, .slice A D.length c] w fun e w' => e = .returned (.int .i64 (chkC s D)) ∧ Below w.heap.size w w' := by
  have HV := Lib.hid (validProgram_any s w)
  cases hp : progB s
  · have e1 : chkC s D = 1 := by simp [chkC, hp]
    rw [hp] at HV
    rw [e1]
    clear e1 hp h
    go_enter Tryd.func45, Tryd.ntmps45
    go_wp2_with fail
    refine HV.out.mono ?_
    rintro e w1 ⟨rfl, hb⟩
    have HB := Lib.hid hb
    clear hb
    go_wp2
    go_ret
    exact ⟨rfl, HB.out⟩
  · have e1 : chkC s D = if okAll D = true then (if wideAll D s.size = true then 0 else 2) else 1 := by simp [chkC, hp]
    obtain ⟨r, hr⟩ : ∃ r, chkC s D = r := ⟨_, rfl⟩
    rw [hr] at e1 ⊢
    have HR := Lib.hid e1
    rw [hp] at HV
    obtain ⟨n, hN⟩ : ∃ n, D.length = n := ⟨_, rfl⟩
    rw [hN] at hn ⊢
    have HN := Lib.hid hN
    have HD := Lib.hid h
    have HL := Lib.hid hl
    clear e1 hp h hr hN hl
    go_enter Tryd.func45, Tryd.ntmps45
    go_wp2_with fail
    refine HV.out.mono ?_
    rintro e w1 ⟨rfl, hb⟩
    have B1 := Lib.hid hb
    have H1 := Lib.hid (HD.out.below (hb.mono hB))
    have hB1 : B ≤ w1.heap.size := Nat.le_trans hB hb.size
    clear hb HV HD
    go_wp2
    go_loopw [14] (fun i wr => ∃ k : Nat, k ≤ n ∧ i = .int .i64 k ∧ Hid (okAll (D.take k) = true) ∧ Hid (Below w1.heap.size w1 wr)) (fun i _ => n - (intOf i).toNat)
    case atStart => exact ⟨0, Nat.zero_le _, rfl, rfl, Below.refl _ _⟩
    case round =>
      obtain ⟨k, hk, rfl, HO, HB⟩ := hrel
      have hwr : B ≤ wr.heap.size := Nat.le_trans hB1 HB.out.size
      by_cases hlt : k < n
      · obtain ⟨d, hd⟩ : ∃ d, D[k]? = some d := ⟨D[k]'(by rw [HN.out]; exact hlt), List.getElem?_eq_getElem _⟩
        obtain ⟨b, off, rfl, hb, hcell⟩ := (H1.out.below (HB.out.mono hB1)) (by rw [HN.out]; omega)
        obtain ⟨hc, hI⟩ := hcell k d hd
        have hdl := HL.out d (List.mem_of_getElem? hd)
        have hv := implValidCard_any d.at_ d.cap d.xs B (wr.alloc (.cells #[.slice d.at_ d.xs.length d.cap] 29)) (hI.alloc hwr _) (by simp; omega) hdl
        have hc2 : wr.cell? ⟨b, off + k, none⟩ = some (.slice d.at_ d.xs.length d.cap) := hc
        obtain ⟨m, hm⟩ : ∃ m, d.xs.length = m := ⟨_, rfl⟩
        rw [hm] at hc2 hv
        have Hd := Lib.hid hd
        have hk0 : (0 : Int) ≤ (k : Int) := Int.natCast_nonneg _
        have hk1 : (k : Int) < (n : Int) := by omega
        clear hcell hc hI hd hm hdl
        cases hok : okB d.xs
        · rw [hok] at hv
          have HVC := Lib.hid hv
          have hall : okAll D = false := cp_bad _ D k d Hd.out hok
          obtain rfl : r = 1 := by rw [HR.out, hall]; simp
          clear hv hok hall
          go_wp2_with fail
          refine HVC.out.mono ?_
          rintro e w2 ⟨rfl, hb2⟩
          have B2 := Lib.hid (below_step B1.out (below_step (HB.out.alloc HB.out.size _) hb2))
          clear hb2
          go_wp2
          go_ret
          exact ⟨rfl, B2.out⟩
        · rw [hok] at hv
          have HVC := Lib.hid hv
          have HO1 : Hid (okAll (D.take (k + 1)) = true) := cp_more _ D k d Hd.out HO.out hok
          clear hv hok
          go_wp2_with fail
          refine HVC.out.mono ?_
          rintro e w2 ⟨rfl, hb2⟩
          have B2 := Lib.hid (below_step (HB.out.alloc HB.out.size _) hb2)
          clear hb2
          go_wp2
          go_roundw
          case rel => exact ⟨k + 1, by omega, by go_num, HO1, B2.out⟩
          case measure => simp [intOf]; omega
      · obtain rfl : k = n := by omega
        have hall : okAll D = true := by have := HO.out; rwa [List.take_of_length_le (by rw [HN.out]; exact Nat.le_refl _)] at this
        have hr2 : r = if wideAll D s.size = true then 0 else 2 := by rw [HR.out, hall]; simp
        have HR2 := Lib.hid hr2
        have BB := Lib.hid (below_step B1.out HB.out)
        have H2 := Lib.hid (H1.out.below (HB.out.mono hB1))
        have hk1 : ¬ (k : Int) < (k : Int) := by omega
        clear hall hr2 HB HR HO H1 hlt
        go_wp2
        go_loopw [24] (fun i wx => ∃ j : Nat, j ≤ k ∧ i = .int .i64 j ∧ Hid (wideAll (D.take j) s.size = true) ∧ Hid (Below wr.heap.size wr wx)) (fun i _ => k - (intOf i).toNat)
        case atStart => exact ⟨0, Nat.zero_le _, rfl, rfl, Below.refl _ _⟩
        case round =>
          obtain ⟨j, hj, rfl, HO, HB⟩ := hrel
          have hwr2 := HB.out.size
          by_cases hlt : j < k
          · obtain ⟨d, hd⟩ : ∃ d, D[j]? = some d := ⟨D[j]'(by rw [HN.out]; exact hlt), List.getElem?_eq_getElem _⟩
            obtain ⟨b, off, rfl, hb, hcell⟩ := (H2.out.below (HB.out.mono hwr)) (by rw [HN.out]; omega)
            obtain ⟨hc, hI⟩ := hcell j d hd
            have hdl := HL.out d (List.mem_of_getElem? hd)
            have hc2 : wr.cell? ⟨b, off + j, none⟩ = some (.slice d.at_ d.xs.length d.cap) := hc
            have Hd := Lib.hid hd
            have hj0 : (0 : Int) ≤ (j : Int) := Int.natCast_nonneg _
            have hj1 : (j : Int) < (k : Int) := by omega
            obtain ⟨m, hm⟩ : ∃ m, d.xs.length = m := ⟨_, rfl⟩
            rw [hm] at hc2
            have HM := Lib.hid hm
            clear hcell hc hI hd hdl hm
            by_cases hok : m = s.size
            · have hq : ((m : Int) != (s.size : Int)) = false := by rw [bne_eq_false_iff_eq]; omega
              have HO1 : Hid (wideAll (D.take (j + 1)) s.size = true) := cp_more _ D j d Hd.out HO.out (by rw [HM.out]; exact decide_eq_true hok)
              have HB2 := Lib.hid (HB.out.alloc hwr2 (.cells #[.slice d.at_ m d.cap] 29))
              clear hok
              go_wp2
              go_roundw
              case rel => exact ⟨j + 1, by omega, by go_num, HO1, HB2.out⟩
              case measure => simp [intOf]; omega
            · have hq : ((m : Int) != (s.size : Int)) = true := by rw [bne_iff_ne]; omega
              have hall : wideAll D s.size = false := cp_bad _ D j d Hd.out (by rw [HM.out]; exact decide_eq_false hok)
              obtain rfl : r = 2 := by rw [HR2.out, hall]; simp
              have HF := Lib.hid (below_step BB.out (HB.out.alloc hwr2 (.cells #[.slice d.at_ m d.cap] 29)))
              clear hok hall
              go_wp2
              go_ret
              exact ⟨rfl, HF.out⟩
          · obtain rfl : j = k := by omega
            have hall : wideAll D s.size = true := by have := HO.out; rwa [List.take_of_length_le (by rw [HN.out]; exact Nat.le_refl _)] at this
            obtain rfl : r = 0 := by rw [HR2.out, hall]; simp
            have HF := Lib.hid (below_step BB.out HB.out)
            clear hall
            go_wp2
            go_ret
            exact ⟨rfl, HF.out⟩
end Go.Proofs.YtjlgfgekiekenaaDoor
