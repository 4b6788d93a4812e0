/- laws.markText answers a text that depends on its number alone, for every number from 1 to 1099511627776: a contract. -/
import Derived.Test.YtngbmkbilopddaaTexts
import Derived.Laws.BytesString
import Derived.Laws.Concat
import Derived.Laws.Cells
namespace Go.Proofs.Ytngbmkbilopddaa
open Go.ChangeShapes Go.WideShapes Go.ChangeAt Go.RowKit

def dg (k : Nat) (o : ByteArray) : ByteArray :=
  if _ : k = 0 then o else dg (k / 10) ((⟨#[48 + UInt8.ofNat (k % 10)]⟩ : ByteArray) ++ o)
termination_by k
decreasing_by omega
theorem dg_zero (o : ByteArray) : dg 0 o = o := by rw [dg]; simp
theorem dg_more (k : Nat) (o : ByteArray) (h : 0 < k) : dg k o = dg (k / 10) ((⟨#[48 + UInt8.ofNat (k % 10)]⟩ : ByteArray) ++ o) := by
  rw [dg, dif_neg (by omega)]
def mtext (k : Nat) : ByteArray := (⟨#[109]⟩ : ByteArray) ++ dg k ⟨#[]⟩

theorem digit_string (W : World) (d : Nat) (hd : d ≤ 9) (W' : World) (hW : W' = W.alloc (.cells #[.int .u8 (48 + (d : Int))] 5)) : (convert 44 9 (.slice (some ⟨W.heap.size, 0, none⟩) 1 1)).run Try.prog W' =
    .ok (.string ⟨#[48 + UInt8.ofNat d]⟩) W' := by
  subst hW
  rw [run_convert_bytes_string _ _ _ _ _ _ _ Try.underlying44 Try.underlying5 Try.underlying9]
  have hl : (loadCells ⟨W.heap.size, 0, none⟩ 1).run Try.prog (W.alloc (.cells #[.int .u8 (48 + (d : Int))] 5)) = .ok (([48 + (d : Int)] : List Int).map (Value.int .u8)).toArray (W.alloc (.cells #[.int .u8 (48 + (d : Int))] 5)) := by
    simp [loadCells, go_sem]
  have := run_bytesToString (P := Try.prog) _ _ 1 1 _ hl
  rw [this]
  have e : (48 + (d : Int)).toNat = 48 + d := by omega
  simp only [List.foldl, e, UInt8.ofNat_add]
  rfl

theorem markText_any (k : Nat) (w : World) (h1 : 1 ≤ k) (h2 : k ≤ 1099511627776) :
    Calls Try.prog 65 #[.int .i64 k] w fun e w' => e = .returned (.string (mtext k)) ∧ Below w.heap.size w w' := by
  have hk0 : ¬ (k : Int) ≤ 0 := by omega
  go_enter Try.func65, Try.ntmps65
  go_wp2
  go_loopw [0, 3] (fun i o wr => ∃ j : Nat, ∃ l : ByteArray, j ≤ k ∧ i = .int .i64 j ∧ o = .string l ∧ l.size + j ≤ k ∧ Hid (dg j l = dg k ⟨#[]⟩) ∧ Hid (Below w.heap.size w wr)) (fun i _ _ => (intOf i).toNat)
  case atStart => exact ⟨k, ⟨#[]⟩, Nat.le_refl _, rfl, rfl, by show 0 + k ≤ k; omega, rfl, Below.refl _ _⟩
  case round =>
    obtain ⟨j, l, hj, rfl, rfl, hsz, HD, HB⟩ := hrel
    by_cases hpos : 0 < j
    · obtain ⟨d, hd⟩ : ∃ d, j % 10 = d := ⟨_, rfl⟩
      obtain ⟨q, hq⟩ : ∃ q, j / 10 = q := ⟨_, rfl⟩
      have e1 : (j : Int).tmod 10 = (d : Int) := by rw [← hd]; rfl
      have e2 : (j : Int).tdiv 10 = (q : Int) := by rw [← hq]; rfl
      have hd9 : d ≤ 9 := by omega
      have hqj : q < j := by omega
      have hj0 : (0 : Int) < (j : Int) := by omega
      have HM := Lib.hid (dg_more j l hpos)
      rw [hd, hq] at HM
      have hc := digit_string wr d hd9 _ rfl
      have hs1 : 1 + l.size ≤ 9223372036854775807 := by omega
      clear hd hq
      go_wp2
      go_roundw
      case rel =>
        refine ⟨q, _, by omega, rfl, rfl, ?_, ?_, below_step HB.out (below_box _ _)⟩
        · rw [ByteArray.size_append]
          show 1 + l.size + q ≤ k
          omega
        · show _ = _
          rw [← HM.out, HD.out]
      case measure => simp [intOf]; omega
    · obtain rfl : j = 0 := by omega
      have HR : Hid ((⟨#[109]⟩ : ByteArray) ++ l = mtext k) := by
        show _ = _
        rw [mtext, ← HD.out, dg_zero]
      have hs1 : 1 + l.size ≤ 9223372036854775807 := by omega
      clear HD
      go_wp2
      go_ret
      have hr := HR.out
      refine ⟨?_, HB.out⟩
      rw [← hr]
      rfl
end Go.Proofs.Ytngbmkbilopddaa
