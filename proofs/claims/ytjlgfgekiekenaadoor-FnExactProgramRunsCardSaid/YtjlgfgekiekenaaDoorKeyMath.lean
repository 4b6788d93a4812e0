/- The card that keys punch, and the code of keys, as plain functions. No program speaks here but in the names of letters. -/
import Derived.Test.YtjlgfgekiekenaaDoorStrike
namespace Go.Proofs.YtjlgfgekiekenaaDoor
open Go.ChangeShapes Go.WideShapes Go.ChangeAt Go.RowKit

/-- the keys from the j-th on -/
def sufB (K : ByteArray) (j : Nat) : ByteArray := K.extract j K.size
theorem sufB_size (K : ByteArray) (j : Nat) : (sufB K j).size = K.size - j := by simp [sufB]
theorem sufB_zero (K : ByteArray) : sufB K 0 = K := by
  apply ByteArray.ext
  simp [sufB]
theorem sufB_rest (K : ByteArray) (j : Nat) : restT (sufB K j) = sufB K (j + 1) := by
  apply ByteArray.ext
  have e : min (j + (K.size - j)) K.size = K.size := by omega
  simp [restT, sufB, ByteArray.extract_extract, e]
theorem sufB_head (K : ByteArray) (j : Nat) (h : j < K.size) : headC (sufB K j) = (K.get! j).toNat := by
  have h0 : 0 < (sufB K j).size := by rw [sufB_size]; omega
  rw [headC, byte_of _ 0 h0, byte_of K j h]
  have : (sufB K j)[0]'h0 = K[j]'h := by
    show (K.extract j K.size).data[0]'_ = K.data[j]'_
    simp
  rw [this]

/-- the holes of column i -/
def colVal (s : ByteArray) (bs : List Int) (K : ByteArray) (i : Nat) : Int :=
  if keyB (s.get! i).toNat then codeS ((K.get! (keysTo s i)).toNat : Int) else if (s.get! i).toNat = 100 then bs[i]?.getD 0 else 0
def punL (s : ByteArray) (bs : List Int) (K : ByteArray) (k : Nat) : List Int := (List.range k).map (colVal s bs K)
theorem punL_length (s : ByteArray) (bs : List Int) (K : ByteArray) (k : Nat) : (punL s bs K k).length = k := by simp [punL]
theorem punL_succ (s : ByteArray) (bs : List Int) (K : ByteArray) (k : Nat) : punL s bs K (k + 1) = punL s bs K k ++ [colVal s bs K k] := by simp [punL, List.range_succ]
theorem punL_get (s : ByteArray) (bs : List Int) (K : ByteArray) (k i : Nat) (h : i < k) : (punL s bs K k)[i]?.getD 0 = colVal s bs K i := by simp [punL, h]
/-- the code of column i's key -/
def colBad (s K : ByteArray) (i : Nat) : Nat :=
  if keyB (s.get! i).toNat then (if codeS ((K.get! (keysTo s i)).toNat : Int) < 0 then 7 else if (s.get! i).toNat = 110 then (if digC (K.get! (keysTo s i)).toNat then 0 else 10) else 0) else 0
def badC (s K : ByteArray) : Nat → Nat
  | 0 => 0
  | k + 1 => if badC s K k = 0 then colBad s K k else badC s K k
def keysC (s K : ByteArray) : Nat := if K.size = keysTo s s.size then badC s K s.size else 5
theorem badC_step (s K : ByteArray) (k : Nat) (h : badC s K k = 0) : badC s K (k + 1) = colBad s K k := by rw [badC, if_pos h]
theorem badC_stay (s K : ByteArray) (k : Nat) (h : badC s K k ≠ 0) : ∀ n, k ≤ n → badC s K n = badC s K k
  | 0, hn => by
    obtain rfl : k = 0 := by omega
    rfl
  | n + 1, hn => by
    by_cases e : k = n + 1
    · rw [e]
    · have ih := badC_stay s K k h n (by omega)
      rw [badC, if_neg (by rw [ih]; exact h), ih]
theorem keysTo_mono (s : ByteArray) : ∀ k n, k ≤ n → keysTo s k ≤ keysTo s n
  | k, 0, h => by
    obtain rfl : k = 0 := by omega
    exact Nat.le_refl _
  | k, n + 1, h => by
    by_cases e : k = n + 1
    · rw [e]; exact Nat.le_refl _
    · have := keysTo_mono s k n (by omega)
      rw [keysTo]
      omega
theorem keysTo_lt (s : ByteArray) (k : Nat) (hk : k < s.size) (h : keyB (s.get! k).toNat = true) : keysTo s k < keysTo s s.size := by
  have := keysTo_mono s (k + 1) s.size hk
  rw [keysTo, if_pos h] at this
  omega
theorem keysTo_key (s : ByteArray) (k : Nat) (h : keyB (s.get! k).toNat = true) : keysTo s (k + 1) = keysTo s k + 1 := by rw [keysTo, if_pos h]
theorem keysTo_no (s : ByteArray) (k : Nat) (h : keyB (s.get! k).toNat = false) : keysTo s (k + 1) = keysTo s k := by rw [keysTo, h]; simp

/-! holesFor -/
theorem holesFor_m (T : ByteArray) (b : Nat) (w : World) (hT : 0 < T.size) (hs : T.size ≤ 1048576) (hc : w.cell? ⟨b, 0, none⟩ = some (.string T)) (hf : w.frozen? ⟨b, 0, none⟩ = false) {aF : Addr} (S : Sent w 4 aF) (hb : 4 < b) :
    Calls Tryd.prog 74 #[.pointer (some ⟨b, 0, none⟩), .int .i32 109] w fun e w' => e = .returned (.tuple #[.int .i64 (strikeV T), strikeE T aF]) ∧ ∃ q, (w.setCell ⟨b, 0, none⟩ (.string (restT T))).drewN q = w' := by
  have HS := Lib.hid (manual_any T b w hT hs hc hf S hb)
  clear hc hf S
  obtain ⟨x, hx⟩ : ∃ x, strikeV T = x := ⟨_, rfl⟩
  obtain ⟨y, hy⟩ : ∃ y, strikeE T aF = y := ⟨_, rfl⟩
  rw [hx, hy] at HS ⊢
  clear hx hy
  go_enter Tryd.func74, Tryd.ntmps74
  go_wp2_with (go_at_call 96; refine HS.out.mono ?_; rintro e w' ⟨rfl, q, rfl⟩)
  go_ret2
  exact ⟨rfl, q, rfl⟩
theorem holesFor_n (T : ByteArray) (b : Nat) (w : World) (hT : 0 < T.size) (hs : T.size ≤ 1048576) (hc : w.cell? ⟨b, 0, none⟩ = some (.string T)) (hf : w.frozen? ⟨b, 0, none⟩ = false) {aF aS : Addr} (S : Sent w 4 aF) (S2 : Sent w 1 aS) (hb : 4 < b) (hb2 : 1 < b) :
    Calls Tryd.prog 74 #[.pointer (some ⟨b, 0, none⟩), .int .i32 110] w fun e w' => e = .returned (.tuple #[.int .i64 (numV T), numE T aF aS]) ∧ ∃ q, (w.setCell ⟨b, 0, none⟩ (.string (restT T))).drewN q = w' := by
  have HS := Lib.hid (numeric_any T b w hT hs hc hf S S2 hb hb2)
  clear hc hf S S2
  obtain ⟨x, hx⟩ : ∃ x, numV T = x := ⟨_, rfl⟩
  obtain ⟨y, hy⟩ : ∃ y, numE T aF aS = y := ⟨_, rfl⟩
  rw [hx, hy] at HS ⊢
  clear hx hy
  go_enter Tryd.func74, Tryd.ntmps74
  go_wp2_with (go_at_call 97; refine HS.out.mono ?_; rintro e w' ⟨rfl, q, rfl⟩)
  go_ret2
  exact ⟨rfl, q, rfl⟩
theorem holesFor_d (b B : Nat) (A G : Option Addr) (c c' k : Nat) (xs : List Int) (w : World) (h1 : w.cell? ⟨b, 1, none⟩ = some (.slice A xs.length c)) (h2 : w.cell? ⟨b, 2, none⟩ = some (.slice G k c')) (h : Ints w B A xs) (hk : k < xs.length) (hn : xs.length ≤ 1048576) :
    Calls Tryd.prog 74 #[.pointer (some ⟨b, 0, none⟩), .int .i32 100] w fun e w' => e = .returned (.tuple #[.int .i64 (xs[k]?.getD 0), .nilIface]) ∧ ∃ q, w.drewN q = w' := by
  have HS := Lib.hid (duplicate_any b B A G c c' k xs w h1 h2 h hk hn)
  obtain ⟨x, hx⟩ : ∃ x, xs[k]?.getD 0 = x := ⟨_, rfl⟩
  rw [hx] at HS ⊢
  clear hx h1 h2 h
  go_enter Tryd.func74, Tryd.ntmps74
  go_wp2_with (go_at_call 98; refine HS.out.mono ?_; rintro e w' ⟨rfl, q, rfl⟩)
  go_ret2
  exact ⟨rfl, q, rfl⟩
theorem holesFor_s (p : Addr) (w : World) :
    Calls Tryd.prog 74 #[.pointer (some p), .int .i32 115] w fun e w' => e = .returned (.tuple #[.int .i64 0, .nilIface]) ∧ w = w' := by
  have HS := Lib.hid (fun W => skip_any (.pointer (some p)) W)
  go_enter Tryd.func74, Tryd.ntmps74
  go_wp2_with (go_at_call 99; refine (HS.out _).mono ?_; rintro e w' ⟨rfl, rfl⟩)
  go_ret2
  exact ⟨rfl, rfl⟩
end Go.Proofs.YtjlgfgekiekenaaDoor
