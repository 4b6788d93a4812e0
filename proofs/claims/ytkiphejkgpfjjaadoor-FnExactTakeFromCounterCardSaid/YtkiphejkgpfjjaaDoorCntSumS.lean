/- spec.CarriesOf, spec.AddToCounter, spec.l11Take and spec.TakeFromCounter: contracts, for every counter of at most 1048576 digits and every number. -/
import Derived.Test.YtkiphejkgpfjjaaDoorCntSum
import Derived.Test.YtkiphejkgpfjjaaDoorCounter
namespace Go.Proofs.YtkiphejkgpfjjaaDoor
open Go.ChangeShapes Go.WideShapes Go.ChangeAt Go.RowKit

/-- how many carries are told -/
def carM (xs : List Int) (x : Int) : Int := if numC xs x = 0 then addM xs (digs xs.length x) 0 else 0
/-- the counter after an addition, and whether a carry is left -/
def addKA (xs : List Int) (x : Int) : List Int := if numC xs x = 0 then addL xs (digs xs.length x) 0 else []
def addKU (xs : List Int) (x : Int) : Bool := if numC xs x = 0 then decide (addO xs (digs xs.length x) 0 = 1) else false
/-- the counter after a number has been taken away, and whether a carry is left -/
def takeKA (xs : List Int) (x : Int) : List Int := if numC xs x = 0 then aroundL xs (compL (digs xs.length x)) else []
def takeKU (xs : List Int) (x : Int) : Bool := if numC xs x = 0 then decide (addO xs (compL (digs xs.length x)) 0 = 1) else false
theorem addKA_length (xs : List Int) (x : Int) (hm : xs.length ≤ 1048576) : (addKA xs x).length ≤ 1048576 := by
  unfold addKA
  split
  · rw [addL_length _ (digs_length _ _).symm]; exact hm
  · simp
theorem takeKA_length (xs : List Int) (x : Int) (hm : xs.length ≤ 1048576) : (takeKA xs x).length ≤ 1048576 := by
  unfold takeKA
  split
  · rw [aroundL_length (by rw [compL_length, digs_length])]; exact hm
  · simp
/-- what a number that fits gives -/
theorem numC_zero {xs : List Int} {x : Int} (h : numC xs x = 0) : wheelsB xs = true ∧ 1 ≤ xs.length ∧ xs.length ≤ 12 ∧ 0 ≤ x ∧ x < p10 xs.length := by
  rcases numC_cases xs x with ⟨h1, _⟩ | ⟨h1, _⟩ | ⟨_, h2, h3⟩
  · rw [h] at h1; cases h1
  · rw [h] at h1; cases h1
  · obtain ⟨a, b, c⟩ := okK_parts h2
    have : 0 ≤ x ∧ x ≤ p10 xs.length - 1 := by simpa [inB] using h3
    exact ⟨a, b, c, by omega, by omega⟩

theorem specCarries_any (A : Option Addr) (c : Nat) (xs : List Int) (B : Nat) (x : Int) (w : World) (h : Ints w B A xs) (hB : B ≤ w.heap.size) (hn : xs.length ≤ 1048576) :
    Calls Tryd.prog 20 #[.agg #[.slice A xs.length c], .int .i64 x] w fun e w' => e = .returned (.tuple #[.int .i64 (carM xs x), .int .i64 (numC xs x)]) ∧ Below w.heap.size w w' := by
  have e1 := below_box w (.cells #[.slice A xs.length c] 24)
  have c0 : (w.alloc (.cells #[.slice A xs.length c] 24)).cell? ⟨w.heap.size, 0, none⟩ = some (.slice A xs.length c) := by simp [go_sem]
  have h' := h.below (e1.mono hB)
  have hc := l11Code_any A c xs B w.heap.size 0 x (w.alloc (.cells #[.slice A xs.length c] 24)) c0 h' hn
  by_cases e0 : numC xs x = 0
  · obtain ⟨hw, h1, h12, x0, x1⟩ := numC_zero e0
    have hs := l11Add_any A c xs B w.heap.size 0 x (w.alloc (.cells #[.slice A xs.length c] 24)) c0 h' (Nat.le_trans hB e1.size) hw h1 h12 x0 x1
    have ec : carM xs x = addM xs (digs xs.length x) 0 := if_pos e0
    rw [ec]
    rw [e0] at hc ⊢
    obtain ⟨M, hM⟩ : ∃ M, addM xs (digs xs.length x) 0 = M := ⟨_, rfl⟩
    rw [hM] at hs ⊢
    obtain ⟨n, hN⟩ : ∃ n, xs.length = n := ⟨_, rfl⟩
    rw [hN] at hc hs e1 ⊢
    have HC := Lib.hid hc
    have HS := Lib.hid hs
    have E1 := Lib.hid e1
    clear hc hs e1 c0 h' h hN e0 ec hw h1 h12 hn hM
    go_enter Tryd.func20, Tryd.ntmps20
    go_wp2_with (first
      | (go_at_call 38; refine HC.out.mono ?_; rintro e w1 ⟨rfl, rfl⟩)
      | (go_at_call 39; refine HS.out.mono ?_; rintro e w1 ⟨g, cap, ex, rfl, hg, hb, hr⟩; have HB1 := Lib.hid (below_step E1.out hb); clear hb hr hg))
    exact bodyPost_ret (v := .tuple #[.int .i64 M, .int .i64 0]) (by simp [results, Tryd.results20, go_sem]) rfl ⟨rfl, below_boxed HB1.out _⟩
  · have ec : carM xs x = 0 := if_neg e0
    rw [ec]
    obtain ⟨q, hq⟩ : ∃ q, numC xs x = q := ⟨_, rfl⟩
    rw [hq] at hc e0 ⊢
    obtain ⟨n, hN⟩ : ∃ n, xs.length = n := ⟨_, rfl⟩
    rw [hN] at hc e1 ⊢
    have HC := Lib.hid hc
    have E1 := Lib.hid e1
    clear hc e1 c0 h' h hN ec hn hq
    go_enter Tryd.func20, Tryd.ntmps20
    go_wp2_with (go_at_call 38; refine HC.out.mono ?_; rintro e w1 ⟨rfl, rfl⟩)
    exact bodyPost_ret (v := .tuple #[.int .i64 0, .int .i64 q]) (by simp [results, Tryd.results20, go_sem]) rfl ⟨rfl, E1.out⟩

set_option maxHeartbeats 1000000 in
theorem specAddK_any (A : Option Addr) (c : Nat) (xs : List Int) (B : Nat) (x : Int) (w : World) (h : Ints w B A xs) (hB : B ≤ w.heap.size) (hn : xs.length ≤ 1048576) :
    Calls Tryd.prog 15 #[.agg #[.slice A xs.length c], .int .i64 x] w (GivesKB (addKA xs x) (addKU xs x) (numC xs x) w) := by
  have e1 := below_box w (.cells #[.slice A xs.length c] 24)
  have e2 := below_boxed e1 (.cells #[.slice none 0 0] 24)
  have c0 : ((w.alloc (.cells #[.slice A xs.length c] 24)).alloc (.cells #[.slice none 0 0] 24)).cell? ⟨w.heap.size, 0, none⟩ = some (.slice A xs.length c) := by simp [go_sem]
  have r0 : ((w.alloc (.cells #[.slice A xs.length c] 24)).alloc (.cells #[.slice none 0 0] 24)).cell? ⟨w.heap.size + 1, 0, none⟩ = some (.slice none 0 0) := by simp [go_sem]
  have g0 : ((w.alloc (.cells #[.slice A xs.length c] 24)).alloc (.cells #[.slice none 0 0] 24)).frozen? ⟨w.heap.size + 1, 0, none⟩ = false := by simp [go_sem]
  have hsz : ((w.alloc (.cells #[.slice A xs.length c] 24)).alloc (.cells #[.slice none 0 0] 24)).heap.size = w.heap.size + 2 := by simp
  have h' := h.below (e2.mono hB)
  have hc := l11Code_any A c xs B w.heap.size 0 x _ c0 h' hn
  by_cases e0 : numC xs x = 0
  · obtain ⟨hw, h1, h12, x0, x1⟩ := numC_zero e0
    have hs := l11Add_any A c xs B w.heap.size 0 x _ c0 h' (Nat.le_trans hB e2.size) hw h1 h12 x0 x1
    have ea : addKA xs x = addL xs (digs xs.length x) 0 := if_pos e0
    have eu : addKU xs x = decide (addO xs (digs xs.length x) 0 = 1) := if_pos e0
    have hal := addL_length (xs := xs) (ys := digs xs.length x) 0 (digs_length _ _).symm
    rw [ea, eu]
    rw [e0] at hc ⊢
    obtain ⟨R, hR⟩ : ∃ R, addL xs (digs xs.length x) 0 = R := ⟨_, rfl⟩
    obtain ⟨M, hM⟩ : ∃ M, addM xs (digs xs.length x) 0 = M := ⟨_, rfl⟩
    obtain ⟨b, hb⟩ : ∃ b, decide (addO xs (digs xs.length x) 0 = 1) = b := ⟨_, rfl⟩
    rw [hR, hM, hb] at hs
    rw [hR, hb]
    rw [hR] at hal
    obtain ⟨n, hN⟩ : ∃ n, xs.length = n := ⟨_, rfl⟩
    rw [hN] at hc hs e1 e2 r0 g0 hsz hal ⊢
    have HC := Lib.hid hc
    have HS := Lib.hid hs
    have E2 := Lib.hid e2
    have R0 := Lib.hid r0
    have G0 := Lib.hid g0
    have HSZ := Lib.hid hsz
    have HAL := Lib.hid hal
    clear hc hs e1 e2 c0 r0 g0 h' h hN e0 ea eu hw h1 h12 hn hsz hal hR hM hb
    go_enter Tryd.func15, Tryd.ntmps15
    go_wp2_with (first
      | (go_at_call 38; refine HC.out.mono ?_; rintro e w1 ⟨rfl, rfl⟩)
      | (go_at_call 39; refine HS.out.mono ?_; rintro e w1 ⟨g, cap, ex, rfl, hg, hb, hr⟩; have r1 := cell_kept R0.out hb; have f1 := frozen_kept R0.out G0.out hb; have HB1 := Lib.hid (below_step E2.out hb); have HR := Lib.hid hr; have HG := Lib.hid hg; have r2 := cell_kept r1 (below_box w1 (.cells #[.slice (some ⟨g, 0, none⟩) R.length cap] 24)); have f2 := frozen_kept r1 f1 (below_box w1 (.cells #[.slice (some ⟨g, 0, none⟩) R.length cap] 24)); clear hb hr hg))
    refine bodyPost_ret (v := .tuple #[.agg #[.slice (some ⟨g, 0, none⟩) R.length cap], .bool b, .int .i64 0]) (by simp [results, Tryd.results15, go_sem, r2]) rfl ⟨some ⟨g, 0, none⟩, cap, rfl, (below_boxed HB1.out _).setCell (by simp) _, ?_⟩
    have := HG.out
    have := HSZ.out
    exact GivesK1.kc (cap := cap) (by omega) ((HR.out.alloc _).far (by simp; omega) _)
  · have ea : addKA xs x = [] := if_neg e0
    have eu : addKU xs x = false := if_neg e0
    rw [ea, eu]
    obtain ⟨q, hq⟩ : ∃ q, numC xs x = q := ⟨_, rfl⟩
    rw [hq] at hc e0 ⊢
    obtain ⟨n, hN⟩ : ∃ n, xs.length = n := ⟨_, rfl⟩
    rw [hN] at hc e1 e2 ⊢
    have HC := Lib.hid hc
    have E2 := Lib.hid e2
    clear hc e1 e2 c0 r0 g0 hsz h' h hN ea eu hn hq
    go_enter Tryd.func15, Tryd.ntmps15
    go_wp2_with (go_at_call 38; refine HC.out.mono ?_; rintro e w1 ⟨rfl, rfl⟩)
    exact bodyPost_ret (v := .tuple #[.agg #[.slice none 0 0], .bool false, .int .i64 q]) (by simp [results, Tryd.results15, go_sem]) rfl ⟨none, 0, rfl, E2.out, IAt.nil (Nat.le_refl _)⟩

end Go.Proofs.YtkiphejkgpfjjaaDoor
