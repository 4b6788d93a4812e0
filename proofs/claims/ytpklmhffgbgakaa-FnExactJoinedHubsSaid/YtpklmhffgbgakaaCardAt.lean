/- Cards in memory of their own, as laws about lists and cards want them: copies, comparisons, marks: contracts. -/
import Derived.Test.YtpklmhffgbgakaaIntsAt
import Derived.Test.YtpklmhffgbgakaaLaw
import Derived.Test.YtpklmhffgbgakaaBoxed
namespace Go.Proofs.Ytpklmhffgbgakaa
open Go.ChangeShapes Go.WideShapes Go.ChangeAt Go.RowKit

theorem toCardAt_any (A : Option Addr) (c : Nat) (xs : List Int) (B : Nat) (w : World) (h : Ints w B A xs) (hB : B ≤ w.heap.size) (hn : xs.length ≤ 1048576) :
    Calls Try.prog 47 #[.agg #[.slice A xs.length c]] w fun e w' => ∃ g, e = .returned (.agg #[.slice (some ⟨g, 0, none⟩) xs.length xs.length]) ∧ Below w.heap.size w w' ∧ IAt w' w.heap.size w'.heap.size (some ⟨g, 0, none⟩) xs := by
  refine (toCard_any A c xs B w h hB hn).mono ?_
  rintro e w' ⟨g, he, hg, hb, hr⟩
  exact ⟨g, he, hb, fun _ => ⟨g, [], rfl, hg, hr.lt, hr⟩, Nat.le_refl _⟩

theorem eqCardAt_any (A A' : Option Addr) (c c' : Nat) (xs : List Int) (w : World) (h : Ints w w.heap.size A xs) (h' : Ints w w.heap.size A' xs) (hn : xs.length ≤ 1048576) :
    Calls Try.prog 49 #[.agg #[.slice A xs.length c], .agg #[.slice A' xs.length c']] w fun e w' => e = .returned (.bool true) ∧ Below w.heap.size w w' := by
  have := eqCard_any A A' c c' xs xs w.heap.size w.heap.size w h h' (Nat.le_refl _) (Nat.le_refl _) hn (by omega)
  simpa using this

theorem markCardAt_any (A : Option Addr) (c : Nat) (xs : List Int) (lo hi : Nat) (k : Int) (w : World) (h : IAt w lo hi A xs) (h0 : 0 ≤ k) (h1 : k ≤ 4194304) (hn : xs.length ≤ 1048576) :
    Calls Try.prog 50 #[.agg #[.slice A xs.length c], .int .i64 k] w fun e w' => e = .returned (.int .i64 (k + xs.length)) ∧ Within lo hi w w' ∧ IAt w' lo hi A (marks k xs.length) := by
  have hbx := below_box w (.cells #[.slice A xs.length c] 58)
  have hc := markAt_any A c xs lo hi k (w.alloc (.cells #[.slice A xs.length c] 58)) (h.later hbx) h0 h1 hn
  have HC := Lib.hid hc
  have HX : Hid (Within lo hi w (w.alloc (.cells #[.slice A xs.length c] 58))) := ⟨hbx.os, hbx.tape, hbx.output, hbx.size, fun b hb _ => hbx.block b hb⟩
  clear hc h hbx
  go_enter Try.func50, Try.ntmps50
  go_wp2_with fail
  refine HC.out.mono ?_
  rintro e w' ⟨rfl, hg, hr⟩
  have HG := Lib.hid (HX.out.trans hg)
  have HR := Lib.hid hr
  clear hg hr
  go_wp2
  go_ret
  exact ⟨rfl, HG.out, HR.out⟩

theorem heldCardAt_any (A : Option Addr) (c : Nat) (xs : List Int) (lo hi : Nat) (k : Int) (w : World) (h : IAt w lo hi A (marks k xs.length)) (h0 : 0 ≤ k) (h1 : k ≤ 4194304) (hn : xs.length ≤ 1048576) :
    Calls Try.prog 51 #[.agg #[.slice A xs.length c], .int .i64 k] w fun e w' => e = .returned (.int .i64 (k + xs.length)) ∧ Below w.heap.size w w' :=
  heldCard_any A c xs.length w.heap.size k w h.ints (Nat.le_refl _) h0 (by omega) hn

theorem IAt.drew {w : World} {lo hi : Nat} {A : Option Addr} {L : List Int} (h : IAt w lo hi A L) : IAt w.drew lo hi A L := ⟨h.top, h.room⟩
/-- a card of one's own and a code -/
def GivesKC (L : List Int) (code : Int) (w : World) (e : Ending) (w' : World) : Prop :=
  ∃ A cap, e = .returned (.tuple #[.agg #[.slice A L.length cap], .int .i64 code]) ∧ Below w.heap.size w w' ∧ IAt w' w.heap.size w'.heap.size A L

theorem GivesCard.kc {L : List Int} {w w' : World} {e : Ending} (h : GivesCard L w e w') : GivesKC L 0 w e w' := by
  obtain ⟨g, cap, ex, he, hg, hb, hr⟩ := h
  exact ⟨some ⟨g, 0, none⟩, cap, he, hb, fun _ => ⟨g, ex, rfl, hg, hr.lt, hr⟩, Nat.le_refl _⟩

theorem GivesCode.kc {a : Int} {w w' : World} {e : Ending} (h : GivesCode a w e w') : GivesKC [] a w e w' := ⟨none, 0, h.1, h.2, fun h => absurd h (by simp), Nat.le_refl _⟩
end Go.Proofs.Ytpklmhffgbgakaa
