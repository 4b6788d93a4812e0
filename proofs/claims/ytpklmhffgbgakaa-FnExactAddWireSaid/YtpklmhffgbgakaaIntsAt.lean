/- Lists of numbers in memory of their own, as the laws about answered numbers want them. -/
import Derived.Test.YtpklmhffgbgakaaMarks
import Derived.Test.YtpklmhffgbgakaaWithin
namespace Go.Proofs.Ytpklmhffgbgakaa
open Go.ChangeShapes Go.WideShapes Go.ChangeAt Go.RowKit

/-- A list of numbers whose memory is a block from lo up to hi. -/
structure IAt (w : World) (lo hi : Nat) (A : Option Addr) (L : List Int) : Prop where
  top : 0 < L.length → ∃ g ex, A = some ⟨g, 0, none⟩ ∧ lo ≤ g ∧ g < hi ∧ Row w g L ex
  room : hi ≤ w.heap.size
section
variable {w w' : World} {lo hi lo' hi' : Nat} {A : Option Addr} {L : List Int}
theorem IAt.nil (h : hi ≤ w.heap.size) : IAt w lo hi A [] := ⟨fun h => absurd h (by simp), h⟩
theorem IAt.later (h : IAt w lo hi A L) (hb : Below w.heap.size w w') : IAt w' lo hi A L :=
  ⟨fun h0 => by obtain ⟨g, ex, e, h1, h2, h3⟩ := h.top h0; exact ⟨g, ex, e, h1, h2, h3.later hb⟩, Nat.le_trans h.room hb.size⟩
theorem IAt.within (h : IAt w lo hi A L) (k : Within lo' hi' w w') (hd : hi ≤ lo' ∨ hi' ≤ lo) : IAt w' lo hi A L :=
  ⟨fun h0 => by obtain ⟨g, ex, e, h1, h2, h3⟩ := h.top h0; exact ⟨g, ex, e, h1, h2, k.row h3 (by omega)⟩, Nat.le_trans h.room k.size⟩
theorem IAt.wide (h : IAt w lo hi A L) (h1 : lo' ≤ lo) (h2 : hi ≤ hi') (h3 : hi' ≤ w.heap.size) : IAt w lo' hi' A L :=
  ⟨fun h0 => by obtain ⟨g, ex, e, g1, g2, g3⟩ := h.top h0; exact ⟨g, ex, e, by omega, by omega, g3⟩, h3⟩
theorem IAt.ints (h : IAt w lo hi A L) : Ints w w.heap.size A L := fun h0 => by
  obtain ⟨g, ex, rfl, h1, h2, h3⟩ := h.top h0
  exact (h3.ints.more h3.lt) h0
/-- A slice of numbers of new memory, and a code. -/
def GivesIC (L : List Int) (code : Int) (w : World) (e : Ending) (w' : World) : Prop :=
  ∃ A cap, e = .returned (.tuple #[.slice A L.length cap, .int .i64 code]) ∧ Below w.heap.size w w' ∧ IAt w' w.heap.size w'.heap.size A L
end

theorem markAt_any (A : Option Addr) (c : Nat) (L : List Int) (lo hi : Nat) (k : Int) (w : World) (h : IAt w lo hi A L) (h0 : 0 ≤ k) (h1 : k ≤ 4194304) (hn : L.length ≤ 1048576) :
    Calls Try.prog 32 #[.slice A L.length c, .int .i64 k] w fun e w' => e = .returned (.int .i64 (k + L.length)) ∧ Within lo hi w w' ∧ IAt w' lo hi A (marks k L.length) := by
  rcases Nat.eq_zero_or_pos L.length with h0' | hp
  · have hz : ∀ W, Calls Try.prog 32 #[.slice A 0 c, .int .i64 k] W fun e w' => e = .returned (.int .i64 k) ∧ W = w' := fun W => by
      go_enter Try.func32, Try.ntmps32
      go_wp2
      go_loop [1, 5] (fun kk i => i = .int .i64 0 ∧ kk = .int .i64 k) (fun _ _ => 0)
      case atStart => exact ⟨rfl, rfl⟩
      case round =>
        obtain ⟨rfl, rfl⟩ := hrel
        go_wp2
        go_ret
        exact ⟨rfl, rfl⟩
    rw [h0']
    refine (hz w).mono ?_
    rintro e w' ⟨rfl, rfl⟩
    exact ⟨by simp, Within.refl _ _ _, fun h => absurd h (by simp [marks_length]), h.room⟩
  · obtain ⟨g, ex, rfl, g1, g2, hr⟩ := h.top hp
    refine (markInts_any g c L ex k w hr h0 (by omega) hn).mono ?_
    rintro e w' ⟨rfl, hg, hr'⟩
    have hw : Within lo hi w w' := ⟨hg.os, hg.tape, hg.output, hg.size, fun b hb hx => hg.block b hb (fun e => by
      have e' := Option.some.inj e
      omega)⟩
    exact ⟨rfl, hw, fun _ => ⟨g, ex, rfl, g1, g2, hr'⟩, Nat.le_trans h.room hg.size⟩
theorem heldAt_any (A : Option Addr) (c : Nat) (L : List Int) (lo hi : Nat) (k : Int) (w : World) (h : IAt w lo hi A (marks k L.length)) (h0 : 0 ≤ k) (h1 : k ≤ 4194304) (hn : L.length ≤ 1048576) :
    Calls Try.prog 33 #[.slice A L.length c, .int .i64 k] w fun e w' => e = .returned (.int .i64 (k + L.length)) ∧ w = w' :=
  heldInts_any A c L.length w.heap.size k w (by have := h.ints; exact this) h0 (by omega) hn
end Go.Proofs.Ytpklmhffgbgakaa
