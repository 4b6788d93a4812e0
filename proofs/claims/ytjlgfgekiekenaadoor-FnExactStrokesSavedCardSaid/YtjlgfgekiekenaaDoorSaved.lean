/- StrokesSaved answers, for every text of at most 1048576 bytes and every number, how many keys are saved: contracts of both sides (condition: the tables of unicode/utf8 hold what its text says). -/
import Derived.Test.YtjlgfgekiekenaaDoorKeyCount
namespace Go.Proofs.YtjlgfgekiekenaaDoor
open Go.ChangeShapes Go.WideShapes Go.ChangeAt Go.RowKit

/-! StrokesSaved -/
def savedC (s : ByteArray) (c : Int) : Nat := if progB s then (if inB c 0 1000000 then 0 else 2) else 1
def savedN (s : ByteArray) (c : Int) : Int := if progB s then (if inB c 0 1000000 then c * ((s.size : Int) - (keysTo s s.size : Int)) else 0) else 0
theorem mul_bound {c d : Int} (h0 : 0 ≤ c) (h1 : c ≤ 1000000) (d0 : 0 ≤ d) (d1 : d ≤ 20) : 0 ≤ c * d ∧ c * d ≤ 20000000 := by
  have a := Int.mul_nonneg h0 d0
  have b := Int.mul_le_mul h1 d1 d0 (by omega : (0 : Int) ≤ 1000000)
  omega

theorem specSaved_any (s : ByteArray) (hs : s.size ≤ 1048576) (c : Int) (w : World) :
    Calls Tryd.prog 32 #[.string s, .int .i64 c] w fun e w' => e = .returned (.tuple #[.int .i64 (savedN s c), .int .i64 (savedC s c)]) ∧ w = w' := by
  have HO := Lib.hid (fun W => l05Ok_any s hs W)
  have HK := Lib.hid (fun W => l05Keys_any s hs W)
  have HI := Lib.hid (fun W => in_any c 0 1000000 W)
  have hk := keysTo_le s s.size
  cases hp : progB s
  · have e1 : savedN s c = 0 := by simp [savedN, hp]
    have e2 : savedC s c = 1 := by simp [savedC, hp]
    rw [hp] at HO
    rw [e1, e2]
    clear e1 e2 hp HK HI
    go_enter Tryd.func32, Tryd.ntmps32
    go_wp2_with (go_at_call 36; refine (HO.out _).mono ?_; rintro e w' ⟨rfl, rfl⟩)
    go_ret2
    exact ⟨rfl, rfl⟩
  · have hz := (prog_size s hp).2
    rw [hp] at HO
    cases hi : inB c 0 1000000
    · have e1 : savedN s c = 0 := by simp [savedN, hp, hi]
      have e2 : savedC s c = 2 := by simp [savedC, hp, hi]
      rw [hi] at HI
      rw [e1, e2]
      clear e1 e2 hp HK hi
      go_enter Tryd.func32, Tryd.ntmps32
      go_wp2_with (first | (go_at_call 36; refine (HO.out _).mono ?_; rintro e w' ⟨rfl, rfl⟩) | (go_at_call 60; refine (HI.out _).mono ?_; rintro e w' ⟨rfl, rfl⟩))
      go_ret2
      exact ⟨rfl, rfl⟩
    · have e1 : savedN s c = c * ((s.size : Int) - (keysTo s s.size : Int)) := by simp [savedN, hp, hi]
      have e2 : savedC s c = 0 := by simp [savedC, hp, hi]
      have hc : 0 ≤ c ∧ c ≤ 1000000 := by simpa [inB] using hi
      rw [hi] at HI
      rw [e1, e2]
      clear e1 e2 hp hi
      obtain ⟨n, hn⟩ : ∃ n, keysTo s s.size = n := ⟨_, rfl⟩
      rw [hn] at HK hk ⊢
      have hb := mul_bound hc.1 hc.2 (d := (s.size : Int) - (n : Int)) (by omega) (by omega)
      obtain ⟨hb0, hb1⟩ := hb
      clear hn
      go_enter Tryd.func32, Tryd.ntmps32
      go_wp2_with (first | (go_at_call 36; refine (HO.out _).mono ?_; rintro e w' ⟨rfl, rfl⟩) | (go_at_call 60; refine (HI.out _).mono ?_; rintro e w' ⟨rfl, rfl⟩) | (go_at_call 37; refine (HK.out _).mono ?_; rintro e w' ⟨rfl, rfl⟩))
      go_ret2
      exact ⟨rfl, rfl⟩

theorem saved_any (s : ByteArray) (hs : s.size ≤ 1048576) (c : Int) (w : World) (hT : ∀ W, Below w.heap.size w W → Utf8In W) :
    Calls Tryd.prog 33 #[.string s, .int .i64 c] w fun e w' => e = .returned (.tuple #[.int .i64 (savedN s c), .int .i64 (savedC s c)]) ∧ Below w.heap.size w w' := by
  have HK := Lib.hid (needed_any s hs w hT)
  have hk := keysTo_le s s.size
  clear hT
  cases hp : progB s
  · have e1 : savedN s c = 0 := by simp [savedN, hp]
    have e2 : savedC s c = 1 := by simp [savedC, hp]
    have e3 : needN s = 0 := by simp [needN, hp]
    have e4 : needC s = 1 := by simp [needC, hp]
    rw [e3, e4] at HK
    rw [e1, e2]
    clear e1 e2 e3 e4 hp
    go_enter Tryd.func33, Tryd.ntmps33
    go_wp2_with fail
    refine HK.out.mono ?_
    rintro e w1 ⟨rfl, hb⟩
    have HB := Lib.hid hb
    clear hb
    go_wp2
    go_ret2
    exact ⟨rfl, HB.out⟩
  · have hz := (prog_size s hp).2
    have e3 : needN s = keysTo s s.size := by simp [needN, hp]
    have e4 : needC s = 0 := by simp [needC, hp]
    rw [e3, e4] at HK
    obtain ⟨n, hn⟩ : ∃ n, keysTo s s.size = n := ⟨_, rfl⟩
    rw [hn] at HK hk
    by_cases h0 : 0 ≤ c
    · by_cases h1 : c ≤ 1000000
      · have hi : inB c 0 1000000 = true := by simp [inB, h0, h1]
        have e1 : savedN s c = c * ((s.size : Int) - (n : Int)) := by rw [← hn]; simp [savedN, hp, hi]
        have e2 : savedC s c = 0 := by simp [savedC, hp, hi]
        rw [e1, e2]
        clear e1 e2 e3 e4 hp hi hn
        have hb := mul_bound h0 h1 (d := (s.size : Int) - (n : Int)) (by omega) (by omega)
        obtain ⟨hb0, hb1⟩ := hb
        go_enter Tryd.func33, Tryd.ntmps33
        go_wp2_with fail
        refine HK.out.mono ?_
        rintro e w1 ⟨rfl, hb⟩
        have HB := Lib.hid hb
        clear hb
        go_wp2
        go_ret2
        exact ⟨rfl, HB.out⟩
      · have hi : inB c 0 1000000 = false := by simp [inB, h1]
        have e1 : savedN s c = 0 := by simp [savedN, hp, hi]
        have e2 : savedC s c = 2 := by simp [savedC, hp, hi]
        rw [e1, e2]
        clear e1 e2 e3 e4 hp hi hn
        go_enter Tryd.func33, Tryd.ntmps33
        go_wp2_with fail
        refine HK.out.mono ?_
        rintro e w1 ⟨rfl, hb⟩
        have HB := Lib.hid hb
        clear hb
        go_wp2
        go_ret2
        exact ⟨rfl, HB.out⟩
    · have hi : inB c 0 1000000 = false := by simp [inB, h0]
      have e1 : savedN s c = 0 := by simp [savedN, hp, hi]
      have e2 : savedC s c = 2 := by simp [savedC, hp, hi]
      rw [e1, e2]
      clear e1 e2 e3 e4 hp hi hn
      go_enter Tryd.func33, Tryd.ntmps33
      go_wp2_with fail
      refine HK.out.mono ?_
      rintro e w1 ⟨rfl, hb⟩
      have HB := Lib.hid hb
      clear hb
      go_wp2
      go_ret2
      exact ⟨rfl, HB.out⟩
end Go.Proofs.YtjlgfgekiekenaaDoor
