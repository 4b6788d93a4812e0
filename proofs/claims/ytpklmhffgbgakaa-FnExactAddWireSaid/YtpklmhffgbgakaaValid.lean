/- spec.ValidCard and impl.ValidCard answer whether a card has 1 to 20 columns with numbers from 0 to 4095, for every card of at most 1048576 columns: contracts, of the functions that they call too. -/
import Derived.Test.YtpklmhffgbgakaaInts
import Derived.Test.YtpklmhffgbgakaaBits
import Derived.Outline
namespace Go.Proofs.Ytpklmhffgbgakaa
open Go.ChangeShapes Go.WideShapes Go.ChangeAt Go.RowKit

def maskB (x : Int) : Bool := inB x 0 4095
def legalB (xs : List Int) : Bool := xs.all maskB
def okB (xs : List Int) : Bool := legalB xs && inB xs.length 1 20

theorem legalB_take (xs : List Int) (k : Nat) (hk : k < xs.length) : legalB (xs.take (k + 1)) = (legalB (xs.take k) && maskB (xs[k]?.getD 0)) := by
  rw [legalB, legalB, List.take_succ_eq_append_getElem hk, List.getElem?_eq_getElem hk, List.all_append, List.all_cons, List.all_nil, Bool.and_true]
  rfl
theorem legalB_bad (xs : List Int) (k : Nat) (hk : k < xs.length) (h : maskB (xs[k]?.getD 0) = false) : legalB xs = false := by
  rw [List.getElem?_eq_getElem hk] at h
  rw [legalB, List.all_eq_false]
  exact ⟨xs[k], List.getElem_mem hk, by simpa using h⟩

theorem l02Ok_any (A : Option Addr) (c : Nat) (xs : List Int) (B : Nat) (p o : Nat) (w : World) (hp : w.cell? ⟨p, o, none⟩ = some (.slice A xs.length c)) (h : Ints w B A xs) (hn : xs.length ≤ 1048576) :
    Calls Try.prog 86 #[.pointer (some ⟨p, o, none⟩)] w fun e w' => e = .returned (.bool (okB xs)) ∧ w = w' := by
  obtain ⟨n, hN⟩ : ∃ n, xs.length = n := ⟨_, rfl⟩
  obtain ⟨r, hr⟩ : ∃ r, okB xs = r := ⟨_, rfl⟩
  rw [hr]
  rw [hN] at hn hp
  have H := Lib.hid h
  have HN := Lib.hid hN
  have HR := Lib.hid hr
  clear h hN hr
  go_enter Try.func86, Try.ntmps86
  go_wp2
  go_loop [3] (fun i => ∃ k : Nat, k ≤ n ∧ i = .int .i64 k ∧ Hid (legalB (xs.take k) = true)) (fun i => n - (intOf i).toNat)
  case atStart => exact ⟨0, Nat.zero_le _, rfl, rfl⟩
  case round =>
    obtain ⟨k, hk, rfl, HK⟩ := hrel
    by_cases hlt : k < n
    · have hx : k < xs.length := by rw [HN.out]; exact hlt
      obtain ⟨b, off, rfl, hb, hcell⟩ := H.out (by omega)
      have h1 := hcell k hx
      obtain ⟨x, hxx⟩ : ∃ x, xs[k]?.getD 0 = x := ⟨_, rfl⟩
      rw [hxx] at h1
      have Hx := Lib.hid hxx
      have hx' := Lib.hid hx
      clear hcell hxx hx H
      cases hm : inB x 0 4095
      · have hin : ∀ W, Calls Try.prog 70 #[.int .i64 x, .int .i64 0, .int .i64 4095] W fun e w' => e = .returned (.bool false) ∧ W = w' := fun W => by have := in_any x 0 4095 W; rwa [hm] at this
        have HI := Lib.hid hin
        obtain rfl : r = false := by rw [← HR.out, okB, legalB_bad xs k hx'.out (by rw [Hx.out]; exact hm)]; rfl
        clear hin hm
        go_wp2_with (go_at_call 70; refine (HI.out _).mono ?_; rintro e w' ⟨rfl, rfl⟩)
        go_ret
        exact ⟨rfl, rfl⟩
      · have hin : ∀ W, Calls Try.prog 70 #[.int .i64 x, .int .i64 0, .int .i64 4095] W fun e w' => e = .returned (.bool true) ∧ W = w' := fun W => by have := in_any x 0 4095 W; rwa [hm] at this
        have HI := Lib.hid hin
        have HK1 : Hid (legalB (xs.take (k + 1)) = true) := by
          show legalB (xs.take (k + 1)) = true
          rw [legalB_take xs k hx'.out, HK.out, Hx.out, maskB, hm]; rfl
        clear hin hm
        go_wp2_with (go_at_call 70; refine (HI.out _).mono ?_; rintro e w' ⟨rfl, rfl⟩)
        go_round
        case rel => exact ⟨k + 1, by omega, by go_num, HK1⟩
        case measure => simp [intOf]; omega
    · obtain rfl : k = n := by omega
      obtain rfl : r = inB k 1 20 := by
        rw [← HR.out, okB, HN.out]
        have := HK.out
        rw [List.take_of_length_le (by rw [HN.out]; omega)] at this
        rw [this, Bool.true_and]
      have HI := Lib.hid (in_any (k : Int) 1 20)
      go_wp2_with (go_at_call 70; refine (HI.out _).mono ?_; rintro e w' ⟨rfl, rfl⟩)
      go_ret
      exact ⟨rfl, rfl⟩

theorem okB_parts {xs : List Int} (h : okB xs = true) : legalB xs = true ∧ xs.length ≤ 20 := by
  rw [okB, Bool.and_eq_true] at h
  refine ⟨h.1, ?_⟩
  have := h.2
  simp [inB] at this
  omega
theorem legal_at {xs : List Int} (h : legalB xs = true) {j : Nat} (hj : j < xs.length) : 0 ≤ xs[j]?.getD 0 ∧ xs[j]?.getD 0 ≤ 4095 := by
  rw [List.getElem?_eq_getElem hj]
  have := List.all_eq_true.1 h xs[j] (List.getElem_mem hj)
  simpa [maskB, inB] using this

theorem isMask_any (n : Int) (w : World) :
    Calls Try.prog 127 #[.int .i64 n] w fun e w' => e = .returned (.bool (inB n 0 4095)) ∧ w = w' := by
  by_cases h1 : 0 ≤ n
  · by_cases h2 : n ≤ 4095
    · have e : inB n 0 4095 = true := by simp [inB, h1, h2]
      rw [e]
      clear e
      go_enter Try.func127, Try.ntmps127
      go_wp2
      go_ret
      exact ⟨rfl, rfl⟩
    · have e : inB n 0 4095 = false := by simp [inB, h2]
      rw [e]
      clear e
      go_enter Try.func127, Try.ntmps127
      go_wp2
      go_ret
      exact ⟨rfl, rfl⟩
  · have e : inB n 0 4095 = false := by simp [inB, h1]
    rw [e]
    clear e
    go_enter Try.func127, Try.ntmps127
    go_wp2
    go_ret
    exact ⟨rfl, rfl⟩

theorem legal_any (A : Option Addr) (c : Nat) (xs : List Int) (B : Nat) (w : World) (h : Ints w B A xs) (hn : xs.length ≤ 1048576) :
    Calls Try.prog 115 #[.slice A xs.length c] w fun e w' => e = .returned (.bool (legalB xs)) ∧ w = w' := by
  obtain ⟨n, hN⟩ : ∃ n, xs.length = n := ⟨_, rfl⟩
  obtain ⟨r, hr⟩ : ∃ r, legalB xs = r := ⟨_, rfl⟩
  rw [hr]
  rw [hN] at hn ⊢
  have H := Lib.hid h
  have HN := Lib.hid hN
  have HR := Lib.hid hr
  clear h hN hr
  go_enter Try.func115, Try.ntmps115
  go_wp2
  go_loop [7] (fun i => ∃ k : Nat, k ≤ n ∧ i = .int .i64 k ∧ Hid (legalB (xs.take k) = true)) (fun i => n - (intOf i).toNat)
  case atStart => exact ⟨0, Nat.zero_le _, rfl, rfl⟩
  case round =>
    obtain ⟨k, hk, rfl, HK⟩ := hrel
    by_cases hlt : k < n
    · have hx : k < xs.length := by rw [HN.out]; exact hlt
      obtain ⟨b, off, rfl, hb, hcell⟩ := H.out (by omega)
      have h1 := hcell k hx
      obtain ⟨x, hxx⟩ : ∃ x, xs[k]?.getD 0 = x := ⟨_, rfl⟩
      rw [hxx] at h1
      have Hx := Lib.hid hxx
      have hx' := Lib.hid hx
      clear hcell hxx hx H
      cases hm : inB x 0 4095
      · have hin : ∀ W, Calls Try.prog 127 #[.int .i64 x] W fun e w' => e = .returned (.bool false) ∧ W = w' := fun W => by have := isMask_any x W; rwa [hm] at this
        have HI := Lib.hid hin
        obtain rfl : r = false := by rw [← HR.out, legalB_bad xs k hx'.out (by rw [Hx.out]; exact hm)]
        clear hin hm
        go_wp2_with (go_at_call 127; refine (HI.out _).mono ?_; rintro e w' ⟨rfl, rfl⟩)
        go_ret
        exact ⟨rfl, rfl⟩
      · have hin : ∀ W, Calls Try.prog 127 #[.int .i64 x] W fun e w' => e = .returned (.bool true) ∧ W = w' := fun W => by have := isMask_any x W; rwa [hm] at this
        have HI := Lib.hid hin
        have HK1 : Hid (legalB (xs.take (k + 1)) = true) := by
          show legalB (xs.take (k + 1)) = true
          rw [legalB_take xs k hx'.out, HK.out, Hx.out, maskB, hm]; rfl
        clear hin hm
        go_wp2_with (go_at_call 127; refine (HI.out _).mono ?_; rintro e w' ⟨rfl, rfl⟩)
        go_round
        case rel => exact ⟨k + 1, by omega, by go_num, HK1⟩
        case measure => simp [intOf]; omega
    · obtain rfl : k = n := by omega
      obtain rfl : r = true := by
        rw [← HR.out]
        have := HK.out
        rwa [List.take_of_length_le (by rw [HN.out]; omega)] at this
      go_wp2
      go_ret
      exact ⟨rfl, rfl⟩

theorem isWidth_any (n : Int) (w : World) :
    Calls Try.prog 96 #[.int .i64 n] w fun e w' => e = .returned (.bool (inB n 1 20)) ∧ w = w' := by
  by_cases h1 : 1 ≤ n
  · by_cases h2 : n ≤ 20
    · have e : inB n 1 20 = true := by simp [inB, h1, h2]
      rw [e]
      clear e
      go_enter Try.func96, Try.ntmps96
      go_wp2
      go_ret
      exact ⟨rfl, rfl⟩
    · have e : inB n 1 20 = false := by simp [inB, h2]
      rw [e]
      clear e
      go_enter Try.func96, Try.ntmps96
      go_wp2
      go_ret
      exact ⟨rfl, rfl⟩
  · have e : inB n 1 20 = false := by simp [inB, h1]
    rw [e]
    clear e
    go_enter Try.func96, Try.ntmps96
    go_wp2
    go_ret
    exact ⟨rfl, rfl⟩

theorem shape_any (A : Option Addr) (c : Nat) (xs : List Int) (B : Nat) (w : World) (h : Ints w B A xs) (hB : B ≤ w.heap.size) (hn : xs.length ≤ 1048576) :
    Calls Try.prog 105 #[.slice A xs.length c] w fun e w' => e = .returned (.agg #[.int .i64 xs.length, .bool (okB xs)]) ∧ Below w.heap.size w w' := by
  obtain ⟨n, hN⟩ : ∃ n, xs.length = n := ⟨_, rfl⟩
  cases hw : inB (xs.length : Int) 1 20
  · have hr : okB xs = false := by rw [okB, hw, Bool.and_false]
    rw [hr]
    have hi := isWidth_any (xs.length : Int)
    rw [hw] at hi
    rw [hN] at hi hn ⊢
    have HI := Lib.hid hi
    clear hw hr hi hN h
    go_enter Try.func105, Try.ntmps105
    go_wp2_with (go_at_call 96; refine (HI.out _).mono ?_; rintro e w' ⟨rfl, rfl⟩)
    refine bodyPost_ret (v := .agg #[.int .i64 n, .bool false]) (by simp [results, Try.results105, go_sem]) rfl ⟨rfl, ?_⟩
    exact ((Below.refl _ _).alloc (Nat.le_refl _) _)
  · obtain ⟨r, hr⟩ : ∃ r, legalB xs = r := ⟨_, rfl⟩
    have hr' : okB xs = r := by rw [okB, hw, Bool.and_true, hr]
    rw [hr']
    have hi := isWidth_any (xs.length : Int)
    rw [hw] at hi
    have hl := fun W hh => legal_any A c xs B W hh hn
    rw [hr, hN] at hl
    rw [hN] at hi hn ⊢
    have HI := Lib.hid hi
    have HL := Lib.hid hl
    have H := Lib.hid h
    clear hw hr hi hl hN h hr'
    go_enter Try.func105, Try.ntmps105
    go_wp2_with (first | (go_at_call 96; refine (HI.out _).mono ?_; rintro e w' ⟨rfl, rfl⟩) | (go_at_call 115; refine (HL.out _ ?_).mono ?_; (exact H.out.alloc hB _); rintro e w' ⟨rfl, rfl⟩))
    refine bodyPost_ret (v := .agg #[.int .i64 n, .bool r]) (by simp [results, Try.results105, go_sem]) rfl ⟨rfl, ?_⟩
    exact ((Below.refl _ _).alloc (Nat.le_refl _) _)

theorem implValidCard_any (A : Option Addr) (c : Nat) (xs : List Int) (B : Nat) (w : World) (h : Ints w B A xs) (hB : B ≤ w.heap.size) (hn : xs.length ≤ 1048576) :
    Calls Try.prog 88 #[.agg #[.slice A xs.length c]] w fun e w' => e = .returned (.bool (okB xs)) ∧ Below w.heap.size w w' := by
  have hc := shape_any A c xs B (w.alloc (.cells #[.slice A xs.length c] 58)) (h.alloc hB _) (by simp; omega) hn
  obtain ⟨r, hr⟩ : ∃ r, okB xs = r := ⟨_, rfl⟩
  obtain ⟨n, hN⟩ : ∃ n, xs.length = n := ⟨_, rfl⟩
  rw [hr, hN] at hc
  rw [hr, hN]
  have HC := Lib.hid hc
  clear hc h hr hN hn
  have hfd : ∀ W : World, (Instr.field 116 (.agg #[.int .i64 n, .bool r]) 1).run Try.prog W = .ok (.bool r) W := fun _ => by kernel_rfl
  go_enter Try.func88, Try.ntmps88
  go_wp2_with fail
  refine HC.out.mono ?_
  rintro e w' ⟨rfl, hb⟩
  have HB := Lib.hid hb
  clear hb HC
  go_wp2
  go_ret
  exact ⟨rfl, ((Below.refl _ _).alloc (Nat.le_refl _) _).trans (HB.out.mono (by simp))⟩
end Go.Proofs.Ytpklmhffgbgakaa
