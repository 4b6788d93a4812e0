/- spec.PocketOf and impl.PocketOf answer the pocket of a card, or the code, for every card of at most 1048576 columns and every pass: contracts. -/
import Derived.Test.YtjfogadcedgndabPasses
namespace Go.Proofs.Ytjfogadcedgndab
open Go.ChangeShapes Go.WideShapes Go.ChangeAt Go.RowKit

def pocketC (xs : List Int) (a b : Int) : Int := if okB xs = false then 1 else if passB a b xs.length = false then 2 else 0
def pocketV (xs : List Int) (a b : Int) : Int := if pocketC xs a b = 0 then pocketP xs a b else 0
theorem pocketC_cases (xs : List Int) (a b : Int) : (pocketC xs a b = 1 ∧ okB xs = false) ∨ (pocketC xs a b = 2 ∧ okB xs = true ∧ passB a b xs.length = false) ∨ (pocketC xs a b = 0 ∧ okB xs = true ∧ passB a b xs.length = true ∧ ∃ k : Nat, a = k ∧ k < xs.length) := by
  unfold pocketC
  cases h1 : okB xs
  · left; simp
  · cases h2 : passB a b xs.length
    · right; left; simp
    · right; right
      refine ⟨by simp, rfl, rfl, ?_⟩
      simp only [passB, Bool.and_eq_true, decide_eq_true_eq] at h2
      exact ⟨a.toNat, by omega, by omega⟩
theorem deckB_one (xs : List Int) : deckB [xs] = okB xs := by
  simp [deckB, goodB, firstZ]
theorem widthH_one (xs : List Int) : widthH [xs] = xs.length := by simp [widthH, firstZ]
theorem passesC_one (xs : List Int) (a b : Int) : passesC [xs] [(a, b)] = pocketC xs a b := by
  rw [passesC, pocketC, deckB_one, widthH_one]
  simp [passesB]

theorem specPocketOf_any (A : Option Addr) (c : Nat) (xs : List Int) (B : Nat) (a b : Int) (w : World) (h : Ints w B A xs) (hB : B ≤ w.heap.size) (hn : xs.length ≤ 1048576) :
    Calls Try.prog 16 #[.agg #[.slice A xs.length c], .agg #[.int .i64 a, .int .i64 b]] w fun e w' => e = .returned (.tuple #[.int .i64 (pocketV xs a b), .int .i64 (pocketC xs a b)]) ∧ Below w.heap.size w w' := by
  have i1 := (h.alloc hB (.cells #[.slice A xs.length c] 26)).alloc (by simp; omega) (.cells #[.int .i64 a, .int .i64 b] 39)
  have b1 := (below_box w (.cells #[.slice A xs.length c] 26)).alloc (by simp) (.cells #[.int .i64 a, .int .i64 b] 39)
  have c1 : ((w.alloc (.cells #[.slice A xs.length c] 26)).alloc (.cells #[.int .i64 a, .int .i64 b] 39)).cell? ⟨w.heap.size, 0, none⟩ = some (.slice A xs.length c) := by simp [go_sem]
  have ho := l02Ok_any A c xs B w.heap.size 0 _ c1 i1 hn
  have hp := fun W => l07Pass_any a b xs.length hn W
  rw [pocketV]
  rcases pocketC_cases xs a b with ⟨e, hv⟩ | ⟨e, hv, hf⟩ | ⟨e, hv, hf, k, rfl, hk⟩
  · rw [e, if_neg (by decide)]
    rw [hv] at ho
    have HO := Lib.hid ho
    have B1 := Lib.hid b1
    clear ho hp i1 b1 c1 h e hv
    go_enter Try.func16, Try.ntmps16
    go_wp2_with fail
    refine HO.out.mono ?_
    rintro e w1 ⟨rfl, rfl⟩
    go_wp2
    go_ret2
    exact ⟨rfl, B1.out⟩
  · rw [e, if_neg (by decide)]
    rw [hv] at ho
    simp only [hf] at hp
    have HO := Lib.hid ho
    have HP := Lib.hid hp
    have B1 := Lib.hid b1
    obtain ⟨n, hN⟩ : ∃ n, xs.length = n := ⟨_, rfl⟩
    rw [hN] at HO HP B1 hn ⊢
    have hn' : n ≤ 140737488355328 := by omega
    clear ho hp i1 b1 c1 h e hv hf hN
    go_enter Try.func16, Try.ntmps16
    go_wp2_with fail
    refine HO.out.mono ?_
    rintro e w1 ⟨rfl, rfl⟩
    go_wp2_with fail
    refine (HP.out _).mono ?_
    rintro e w1 ⟨rfl, hb⟩
    have B2 := Lib.hid (below_step B1.out hb)
    clear hb
    go_wp2
    go_ret2
    exact ⟨rfl, B2.out⟩
  · rw [e, if_pos rfl]
    rw [hv] at ho
    simp only [hf] at hp
    have hq := fun W hc hI => l07Pocket_any A c xs B w.heap.size 0 k b W hc hI hk hv
    have HO := Lib.hid ho
    have HP := Lib.hid hp
    have HQ := Lib.hid hq
    have B1 := Lib.hid b1
    have I1 := Lib.hid i1
    obtain ⟨r, hr⟩ : ∃ r, pocketP xs k b = r := ⟨_, rfl⟩
    simp only [hr] at HQ ⊢
    obtain ⟨n, hN⟩ : ∃ n, xs.length = n := ⟨_, rfl⟩
    rw [hN] at HO HP B1 hn c1 I1 ⊢
    simp only [hN] at HQ
    have hn' : n ≤ 140737488355328 := by omega
    clear ho hp hq i1 b1 h e hv hf hN hk hr
    go_enter Try.func16, Try.ntmps16
    go_wp2_with fail
    refine HO.out.mono ?_
    rintro e w1 ⟨rfl, rfl⟩
    go_wp2_with fail
    refine (HP.out _).mono ?_
    rintro e w1 ⟨rfl, hb⟩
    have B2 := Lib.hid (below_step B1.out hb)
    have d1 := cell_kept c1 hb
    have q0 := cell_kept (p := ⟨w.heap.size + 1, 0, none⟩) (v := .int .i64 k) (by simp [go_sem]) hb
    have q1 := cell_kept (p := ⟨w.heap.size + 1, 1, none⟩) (v := .int .i64 b) (by simp [go_sem]) hb
    have I2 := Lib.hid (I1.out.below (hb.mono (by simp; omega)))
    clear hb c1 I1
    go_wp2_with fail
    refine (HQ.out _ d1 I2.out).mono ?_
    rintro e w2 ⟨rfl, hb⟩
    have B3 := Lib.hid (below_step B2.out hb)
    clear hb
    go_wp2
    go_ret2
    exact ⟨rfl, B3.out⟩

theorem implPocketOf_any (A : Option Addr) (c : Nat) (xs : List Int) (B : Nat) (a b : Int) (w : World) (h : Ints w B A xs) (hB : B ≤ w.heap.size) (hn : xs.length ≤ 1048576) :
    Calls Try.prog 18 #[.agg #[.slice A xs.length c], .agg #[.int .i64 a, .int .i64 b]] w fun e w' => e = .returned (.tuple #[.int .i64 (pocketV xs a b), .int .i64 (pocketC xs a b)]) ∧ Below w.heap.size w w' := by
  have b1 := (((below_box w (.cells #[.slice A xs.length c] 26)).alloc (by simp) (.cells #[.int .i64 a, .int .i64 b] 39)).alloc (by simp; omega) (.cells #[.slice A xs.length c] 26)).alloc (by simp; omega) (.cells #[.int .i64 a, .int .i64 b] 39)
  obtain ⟨W, hW⟩ : ∃ W, (((w.alloc (.cells #[.slice A xs.length c] 26)).alloc (.cells #[.int .i64 a, .int .i64 b] 39)).alloc (.cells #[.slice A xs.length c] 26)).alloc (.cells #[.int .i64 a, .int .i64 b] 39) = W := ⟨_, rfl⟩
  have hs : W.heap.size = w.heap.size + 4 := by rw [← hW]; simp
  have i1 : Ints W (w.heap.size + 4) A xs := by
    rw [← hW]
    rw [hW] at b1
    try rw [hW]
    exact (h.below (b1.mono hB)).more (by omega)
  have hD : Deck W (w.heap.size + 4) (some ⟨w.heap.size + 1 + 1, 0, none⟩) [⟨A, c, xs⟩] := fun _ => ⟨w.heap.size + 1 + 1, 0, rfl, by omega, fun i d hd => by
    match i, hd with
    | 0, hd =>
      injection hd with hd
      subst hd
      refine ⟨?_, i1⟩
      rw [← hW]
      simp [go_sem, CardV.value]⟩
  have hP : Passes W (w.heap.size + 4) (some ⟨w.heap.size + 1 + 1 + 1, 0, none⟩) [(a, b)] := fun _ => ⟨w.heap.size + 1 + 1 + 1, 0, rfl, by omega, fun i d hd => by
    match i, hd with
    | 0, hd =>
      injection hd with hd
      subst hd
      rw [← hW]
      constructor <;> simp [go_sem]⟩
  have hc := checkPasses_any _ _ 1 1 _ _ _ _ W hD hP (by omega) (by omega) (by simp) (by simpa using hn) (by simp)
  have q0 : W.cell? ⟨w.heap.size, 0, none⟩ = some (.slice A xs.length c) := by rw [← hW]; simp [go_sem]
  have q1 : W.cell? ⟨w.heap.size + 1, 0, none⟩ = some (.int .i64 a) := by rw [← hW]; simp [go_sem]
  have q2 : W.cell? ⟨w.heap.size + 1, 1, none⟩ = some (.int .i64 b) := by rw [← hW]; simp [go_sem]
  have hh : holes [(⟨A, c, xs⟩ : CardV)] = [xs] := rfl
  rw [hh, passesC_one] at hc
  rw [hW] at b1
  rw [pocketV]
  by_cases e : pocketC xs a b = 0
  · rw [e] at hc ⊢
    rw [if_pos rfl]
    obtain ⟨_, hv, hf, k, rfl, hk⟩ : pocketC xs a b = 0 ∧ okB xs = true ∧ passB a b xs.length = true ∧ ∃ k : Nat, a = k ∧ k < xs.length := by
      rcases pocketC_cases xs a b with h' | h' | h' <;> first | exact h' | (rw [e] at h'; exact absurd h'.1 (by decide))
    have hq := fun W' (hI : Ints W' (w.heap.size + 4) A xs) (hs' : w.heap.size + 4 ≤ W'.heap.size) => pocketFor_any A c xs (w.heap.size + 4) k b W' hI hs' hk hv
    have HQ := Lib.hid hq
    have HC := Lib.hid hc
    have B1 := Lib.hid b1
    have I1 := Lib.hid i1
    have HS := Lib.hid hs
    obtain ⟨r, hr⟩ : ∃ r, pocketP xs k b = r := ⟨_, rfl⟩
    simp only [hr] at HQ ⊢
    obtain ⟨n, hN⟩ : ∃ n, xs.length = n := ⟨_, rfl⟩
    rw [hN] at q0 hW ⊢
    simp only [hN] at HQ
    clear hc hq i1 b1 h e hv hf hN hk hr hD hP hh hs
    go_enter Try.func18, Try.ntmps18
    go_wp2_with fail
    try rw [hW]
    refine HC.out.mono ?_
    rintro e w1 ⟨rfl, hb⟩
    have B2 := Lib.hid (below_step B1.out hb)
    have d0 := cell_kept q0 hb
    have d1 := cell_kept q1 hb
    have d2 := cell_kept q2 hb
    have I2 := Lib.hid (I1.out.below (hb.mono (by rw [HS.out]; omega)))
    have HS2 : Hid (w.heap.size + 4 ≤ w1.heap.size) := by
      have := hb.size
      rw [HS.out] at this
      exact this
    clear hb q0 q1 q2 I1 HC hW
    go_wp2_with fail
    refine (HQ.out _ I2.out HS2.out).mono ?_
    rintro e w2 ⟨rfl, hb⟩
    have B3 := Lib.hid (below_step B2.out hb)
    clear hb
    go_wp2
    go_ret2
    exact ⟨rfl, B3.out⟩
  · rw [if_neg e]
    obtain ⟨r, hr⟩ : ∃ r, pocketC xs a b = r := ⟨_, rfl⟩
    rw [hr] at hc e ⊢
    have e1 : (r != 0) = true := by simpa using e
    have HC := Lib.hid hc
    have B1 := Lib.hid b1
    obtain ⟨n, hN⟩ : ∃ n, xs.length = n := ⟨_, rfl⟩
    rw [hN] at hW ⊢
    clear hc i1 b1 h e hD hP hh hs q0 q1 q2 hr hN
    go_enter Try.func18, Try.ntmps18
    go_wp2_with fail
    try rw [hW]
    refine HC.out.mono ?_
    rintro e w1 ⟨rfl, hb⟩
    have B2 := Lib.hid (below_step B1.out hb)
    clear hb
    go_wp2
    go_ret2
    exact ⟨rfl, B2.out⟩
end Go.Proofs.Ytjfogadcedgndab
