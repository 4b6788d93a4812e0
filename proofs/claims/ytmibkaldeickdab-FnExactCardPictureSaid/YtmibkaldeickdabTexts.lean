/- Lists of strings in memory, and laws.eqStringS, which compares two of them: for every two lists of at most 1048576 strings. -/
import Derived.Test.YtmibkaldeickdabMem
import Derived.Deep.QuietTactic
import Derived.BigQuiet
import Derived.Laws.Strings
namespace Go.Proofs.Ytmibkaldeickdab
open Go.ChangeShapes Go.WideShapes Go.ChangeAt Go.RowKit

/-- The strings at address A, in a block below B, are ss. -/
def Texts (w : World) (B : Nat) (A : Option Addr) (ss : List ByteArray) : Prop :=
  0 < ss.length → ∃ b off, A = some ⟨b, off, none⟩ ∧ b < B ∧ ∀ (i : Nat) (s : ByteArray), ss[i]? = some s → w.cell? ⟨b, off + i, none⟩ = some (.string s)

section
variable {w w' : World} {B B' : Nat} {A : Option Addr} {ss : List ByteArray}
theorem Texts.nil : Texts w B A [] := fun h => absurd h (by simp)
theorem Texts.moved (h : Texts w B A ss) (hk : ∀ p : Addr, p.block < B → w'.cell? p = w.cell? p) : Texts w' B A ss := fun hn => by
  obtain ⟨b, off, rfl, hb, hc⟩ := h hn
  exact ⟨b, off, rfl, hb, fun i s hi => (hk ⟨b, off + i, none⟩ hb).trans (hc i s hi)⟩
theorem Texts.more (h : Texts w B A ss) (hB : B ≤ B') : Texts w B' A ss := fun hn => by
  obtain ⟨b, off, rfl, hb, hc⟩ := h hn
  exact ⟨b, off, rfl, by omega, hc⟩
theorem Texts.below (h : Texts w B A ss) (hb : Below B w w') : Texts w' B A ss := h.moved fun _ hp => hb.cell hp
theorem Texts.drew (h : Texts w B A ss) : Texts w.drew B A ss := h
theorem Texts.drewN (h : Texts w B A ss) (n : Nat) : Texts (w.drewN n) B A ss := h
theorem Texts.alloc (h : Texts w B A ss) (hB : B ≤ w.heap.size) (o : Obj) : Texts (w.alloc o) B A ss := h.moved fun p hp => World.cell?_alloc_lt w o p (by omega)
end

theorem bytes_ext {x y : ByteArray} (h : x.toList = y.toList) : x = y := by
  rw [ByteArray.toList_eq, ByteArray.toList_eq] at h
  obtain ⟨⟨x⟩⟩ := x
  obtain ⟨⟨y⟩⟩ := y
  simpa using h

theorem take_step {α : Type} (xs ys : List α) (k : Nat) (x : α) (hx : xs[k]? = some x) (hy : ys[k]? = some x) (h : xs.take k = ys.take k) : xs.take (k + 1) = ys.take (k + 1) := by
  obtain ⟨h1, e1⟩ := List.getElem?_eq_some_iff.1 hx
  obtain ⟨h2, e2⟩ := List.getElem?_eq_some_iff.1 hy
  rw [List.take_succ_eq_append_getElem h1, List.take_succ_eq_append_getElem h2, h, e1, e2]

theorem eqStrings_any (A A' : Option Addr) (c c' : Nat) (xs ys : List ByteArray) (B B' : Nat) (w : World) (h : Texts w B A xs) (h' : Texts w B' A' ys) (hn : xs.length ≤ 1048576) :
    Calls Try.prog 10 #[.slice A xs.length c, .slice A' ys.length c'] w fun e w' => e = .returned (.bool (decide (xs = ys))) ∧ ∃ n, w' = w.drewN n := by
  by_cases hl : xs.length = ys.length
  · obtain ⟨n, hN⟩ : ∃ n, xs.length = n := ⟨_, rfl⟩
    obtain ⟨r, hr⟩ : ∃ r, decide (xs = ys) = r := ⟨_, rfl⟩
    rw [hr]
    rw [hN] at hn ⊢
    rw [← hl, hN]
    have H := Lib.hid h
    have H' := Lib.hid h'
    have HN := Lib.hid hN
    have HE := Lib.hid (hl.symm.trans hN)
    have HR := Lib.hid hr
    clear h h' hN hl hr
    go_enter Try.func10, Try.ntmps10
    go_wp2
    go_loopw [5] (fun i wr => ∃ k q : Nat, k ≤ n ∧ i = .int .i64 k ∧ wr = w.drewN q ∧ Hid (xs.take k = ys.take k)) (fun i _ => n - (intOf i).toNat)
    case atStart => exact ⟨0, 0, Nat.zero_le _, rfl, rfl, by show _ = _; simp⟩
    case round =>
      obtain ⟨k, q, hk, rfl, rfl, HK⟩ := hrel
      by_cases hlt : k < n
      · obtain ⟨x, hx⟩ : ∃ x, xs[k]? = some x := ⟨xs[k]'(by rw [HN.out]; exact hlt), List.getElem?_eq_getElem _⟩
        obtain ⟨y, hy⟩ : ∃ y, ys[k]? = some y := ⟨ys[k]'(by rw [HE.out]; exact hlt), List.getElem?_eq_getElem _⟩
        obtain ⟨b, off, rfl, hb, hcell⟩ := H.out (by rw [HN.out]; omega)
        obtain ⟨b', off', rfl, hb', hcell'⟩ := H'.out (by rw [HE.out]; omega)
        have h1 := hcell k x hx
        have h1' := hcell' k y hy
        have HX := Lib.hid hx
        have HY := Lib.hid hy
        have hk0 : (0 : Int) ≤ (k : Int) := Int.natCast_nonneg _
        have hk1 : (k : Int) < (n : Int) := by omega
        clear hcell hcell' hx hy H H'
        by_cases hxy : x = y
        · subst hxy
          have HK1 : Hid (xs.take (k + 1) = ys.take (k + 1)) := take_step xs ys k x HX.out HY.out HK.out
          go_wp2
          go_quiet (fail)
          go_wp2
          go_roundw
          case rel => exact ⟨k + 1, _, by omega, by go_num, rfl, HK1⟩
          case measure => simp [intOf]; omega
        · obtain rfl : r = false := by
            rw [← HR.out]
            simp only [decide_eq_false_iff_not]
            intro ee
            have := HX.out
            rw [ee, HY.out] at this
            injection this with this
            exact hxy this.symm
          have hne : (x.toList == y.toList) = false := by
            rw [beq_eq_false_iff_ne]
            exact fun hh => hxy (bytes_ext hh)
          clear hxy
          go_wp2
          go_quiet (fail)
          go_wp2
          go_ret
          exact ⟨rfl, _, World.drewN_drewN _ _ _⟩
      · have hkn : k = n := by omega
        obtain rfl : r = true := by
          rw [← HR.out]
          have := HK.out
          rw [List.take_of_length_le (by rw [HN.out]; omega), List.take_of_length_le (by rw [HE.out]; omega)] at this
          simpa using this
        have hk1 : ¬ (k : Int) < (n : Int) := by omega
        clear hkn H H'
        go_wp2
        go_ret
        exact ⟨rfl, _, rfl⟩
  · have e : decide (xs = ys) = false := by
      simp only [decide_eq_false_iff_not]
      intro ee
      exact hl (congrArg List.length ee)
    rw [e]
    have hne : ((xs.length : Int) != (ys.length : Int)) = true := by rw [bne_iff_ne]; omega
    clear e h h'
    go_enter Try.func10, Try.ntmps10
    go_wp2
    go_ret
    exact ⟨rfl, 0, rfl⟩
end Go.Proofs.Ytmibkaldeickdab
