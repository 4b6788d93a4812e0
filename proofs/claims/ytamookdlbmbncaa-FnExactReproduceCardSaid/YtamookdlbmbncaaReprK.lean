/- A reproduced card, or none, in one form. -/
import Derived.Test.YtamookdlbmbncaaOneC
import Derived.Test.YtamookdlbmbncaaCardAt
namespace Go.Proofs.Ytamookdlbmbncaa
open Go.ChangeShapes Go.WideShapes Go.ChangeAt Go.RowKit

def reprK (xs : List Int) (P : List (Int × Int)) (x : Int) : List Int := if reprC [xs] P x = 0 then xferTo xs (List.replicate x.toNat 0) P else []
theorem reprK_length (xs : List Int) (P : List (Int × Int)) (x : Int) : (reprK xs P x).length ≤ 1048576 := by
  unfold reprK
  by_cases h : reprC [xs] P x = 0
  · rw [if_pos h, xferTo_length, List.length_replicate]
    rcases reprC_cases [xs] P x with ⟨_, e, _⟩ | ⟨_, _, e, _⟩ | ⟨_, hv, _, _⟩
    · omega
    · omega
    · obtain ⟨_, _, h1, h2, _⟩ := validP_parts hv
      omega
  · rw [if_neg h]; simp
theorem GivesCC.kc {xs : List Int} {P : List (Int × Int)} {x : Int} {w w' : World} {e : Ending} (h : GivesCC (xferTo xs (List.replicate x.toNat 0) P) (reprC [xs] P x) w e w') : GivesKC (reprK xs P x) (reprC [xs] P x) w e w' := by
  unfold reprK
  rcases h with ⟨h0, h⟩ | ⟨h0, h⟩
  · rw [h0, if_pos rfl]
    exact h.kc
  · rw [if_neg h0]
    exact h.kc

section
variable (A : Option Addr) (c : Nat) (xs : List Int) (B : Nat) (AP : Option Addr) (cP : Nat) (P : List (Int × Int)) (BP : Nat) (x : Int) (w : World) (h : Ints w B A xs) (hP : Copies w BP AP P) (hB : B ≤ w.heap.size) (hBP : BP ≤ w.heap.size) (hn : xs.length ≤ 1048576) (hPn : P.length ≤ 1048576)
include h hP hB hBP hn hPn
theorem implReprK_any : Calls Try.prog 20 #[.agg #[.slice A xs.length c], .slice AP P.length cP, .int .i64 x] w (GivesKC (reprK xs P x) (reprC [xs] P x) w) :=
  (implReprCard_any A c xs B AP cP P BP x w h hP hB hBP hn hPn).mono fun _ _ hh => hh.kc
theorem specReprK_any : Calls Try.prog 18 #[.agg #[.slice A xs.length c], .slice AP P.length cP, .int .i64 x] w (GivesKC (reprK xs P x) (reprC [xs] P x) w) :=
  (specReprCard_any A c xs B AP cP P BP x w h hP hB hBP hn hPn).mono fun _ _ hh => hh.kc
end
end Go.Proofs.Ytamookdlbmbncaa
