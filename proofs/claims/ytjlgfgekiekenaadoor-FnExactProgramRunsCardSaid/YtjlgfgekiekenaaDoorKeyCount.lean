/- KeysNeeded and StrokesSaved answer, for every text of at most 1048576 bytes and every number, how many keys are struck or saved: contracts of both sides, and of impl.lettersOfKeys for a text whose letters are those of program cards (condition: the tables of unicode/utf8 hold what its text says). -/
import Derived.Test.YtjlgfgekiekenaaDoorProgs
import Derived.Shelf.Strings.MapGrows
namespace Go.Proofs.YtjlgfgekiekenaaDoor
open Go.ChangeShapes Go.WideShapes Go.ChangeAt Go.RowKit

def letF (x : Int) : Int := if keyB x.toNat then x else -1
def keptL (b : UInt8) : Bool := keyB b.toNat
theorem letF_nat (r : Nat) : letF r = if keyB r then (r : Int) else -1 := by simp [letF]

theorem letterFn_any (r : Nat) (w : World) : Calls Tryd.prog 70 #[.int .i32 r] w fun e w' => e = .returned (.int .i32 (letF r)) ∧ w = w' := by
  have HC := Lib.hid (fun W => wantsKey_any r W)
  rw [letF_nat]
  cases hk : keyB r
  all_goals
    rw [hk] at HC
    clear hk
    go_enter Tryd.func70, Tryd.ntmps70
    go_wp2_with (go_at_call 55; refine (HC.out _).mono ?_; rintro e w' ⟨rfl, rfl⟩)
    go_ret
    exact ⟨rfl, rfl⟩

theorem letF_range (x : Nat) (_ : x ≤ 1114111) : -2147483648 ≤ letF x ∧ letF x ≤ 2147483647 := by
  rw [letF_nat]
  split <;> omega

theorem decodeL_cons (b : UInt8) (l : List UInt8) (h : b.toNat < 128) : Lib.decodeL (b :: l) = (b.toNat, 1) := by
  unfold Lib.decodeL
  exact decode_ascii ⟨(b :: l).toArray⟩ 0 (by show 0 < (b :: l).toArray.size; simp) h
theorem enc_key (b : UInt8) (h : keptL b = true) : Lib.encodeRune (b.toNat : Int) = [b] := by
  have h' : b.toNat = 109 ∨ b.toNat = 110 := by simpa [keptL, keyB] using h
  rcases h' with e | e
  · obtain rfl : b = 109 := UInt8.toNat_inj.1 e
    rfl
  · obtain rfl : b = 110 := UInt8.toNat_inj.1 e
    rfl
theorem mapGoD_letters : ∀ (n : Nat) (l : List UInt8), l.length ≤ n → (∀ b ∈ l, b.toNat < 128) → Lib.mapGoD letF n l = l.filter keptL
  | 0, l, h, _ => by
    obtain rfl : l = [] := List.length_eq_zero_iff.1 (by omega)
    rfl
  | n + 1, [], _, _ => rfl
  | n + 1, b :: l, h, ha => by
    have hb := ha b (List.mem_cons_self ..)
    have ih := mapGoD_letters n l (by simpa using h) (fun x hx => ha x (List.mem_cons_of_mem _ hx))
    unfold Lib.mapGoD
    rw [if_neg (by simp), decodeL_cons b l hb, letF_nat]
    show _ ++ Lib.mapGoD letF n l = _
    rw [ih]
    cases hk : keyB b.toNat
    · have hk' : keptL b = false := hk
      simp [hk', List.filter_cons]
    · have hk' : keptL b = true := hk
      have e := enc_key b hk'
      simp [hk', List.filter_cons, e]

theorem filter_take (s : ByteArray) : ∀ k, k ≤ s.size → ((s.data.toList.take k).filter keptL).length = keysTo s k
  | 0, _ => by simp [keysTo]
  | k + 1, h => by
    have hk : k < s.data.toList.length := by
      have e : s.data.toList.length = s.size := by simp
      omega
    have hg : s.get! k = s.data.toList[k] := by rw [byte_of s k (by omega)]; rfl
    rw [List.take_succ_eq_append_getElem hk, List.filter_append, List.length_append, filter_take s k (by omega), keysTo, hg]
    have e : keptL s.data.toList[k] = keyB s.data.toList[k].toNat := rfl
    rw [List.filter_cons, e]
    cases keyB s.data.toList[k].toNat <;> simp
theorem letters_small (s : ByteArray) (h : lettersTo s s.size = true) : ∀ b ∈ s.data.toList, b.toNat < 128 := by
  intro b hb
  obtain ⟨k, hk, rfl⟩ := List.mem_iff_getElem.1 hb
  have hk' : k < s.size := by simpa using hk
  have hl := letter_at s k h hk'
  rw [byte_of s k hk'] at hl
  have e : s.data.toList[k] = s[k]'hk' := rfl
  rw [e]
  by_cases hh : 128 ≤ (s[k]'hk').toNat
  · rw [letterB_high _ hh] at hl; cases hl
  · omega
def keptText (s : ByteArray) : ByteArray := ⟨(Lib.mapD letF s.data.toList).toArray⟩
theorem keptText_size (s : ByteArray) (h : lettersTo s s.size = true) : (keptText s).size = keysTo s s.size := by
  show (Lib.mapD letF s.data.toList).toArray.size = _
  rw [List.size_toArray, Lib.mapD, mapGoD_letters _ _ (Nat.le_refl _) (letters_small s h), ← filter_take s s.size (Nat.le_refl _), List.take_of_length_le (by simp)]

def Utf8In (w : World) : Prop := Lib.Utf8Tabs 5 6 w

theorem lettersOfKeys_any (s : ByteArray) (hs : s.size ≤ 1048576) (w : World) (hT : Utf8In w) :
    Calls Tryd.prog 39 #[.string s] w fun e w' => e = .returned (.string (keptText s)) ∧ Below w.heap.size w w' := by
  have HC := Lib.hid (Tryd.strings_Map_grows 70 #[] (fun args w => by kernel_rfl) letF s w (by omega) (fun W x _ _ => (letterFn_any x W).mono fun _ _ h => ⟨h.1, h.2 ▸ Below.refl _ _⟩) letF_range hT)
  clear hT hs
  go_enter Tryd.func39, Tryd.ntmps39
  go_wp2_with fail
  refine HC.out.mono ?_
  rintro e w1 ⟨rfl, hb⟩
  have HB := Lib.hid hb
  clear hb
  go_wp2
  go_ret
  exact ⟨rfl, HB.out⟩

/-! KeysNeeded -/
def needN (s : ByteArray) : Nat := if progB s then keysTo s s.size else 0
def needC (s : ByteArray) : Nat := if progB s then 0 else 1
theorem needN_le (s : ByteArray) : needN s ≤ s.size := by
  unfold needN
  split
  · exact keysTo_le s s.size
  · omega
theorem prog_letters (s : ByteArray) (h : progB s = true) : lettersTo s s.size = true := by
  rw [progB, Bool.and_eq_true] at h
  exact h.1
theorem prog_size (s : ByteArray) (h : progB s = true) : 1 ≤ s.size ∧ s.size ≤ 20 := by
  rw [progB, Bool.and_eq_true] at h
  have h2 := h.2
  simp [inB] at h2
  omega

theorem specNeeded_any (s : ByteArray) (hs : s.size ≤ 1048576) (w : World) :
    Calls Tryd.prog 10 #[.string s] w fun e w' => e = .returned (.tuple #[.int .i64 (needN s), .int .i64 (needC s)]) ∧ w = w' := by
  have HO := Lib.hid (fun W => l05Ok_any s hs W)
  have HK := Lib.hid (fun W => l05Keys_any s hs W)
  cases hp : progB s
  · have e1 : needN s = 0 := by simp [needN, hp]
    have e2 : needC s = 1 := by simp [needC, hp]
    rw [hp] at HO
    rw [e1, e2]
    clear e1 e2 hp HK
    go_enter Tryd.func10, Tryd.ntmps10
    go_wp2_with (go_at_call 36; refine (HO.out _).mono ?_; rintro e w' ⟨rfl, rfl⟩)
    go_ret2
    exact ⟨rfl, rfl⟩
  · have e1 : needN s = keysTo s s.size := by simp [needN, hp]
    have e2 : needC s = 0 := by simp [needC, hp]
    rw [hp] at HO
    rw [e1, e2]
    clear e1 e2 hp
    obtain ⟨n, hn⟩ : ∃ n, keysTo s s.size = n := ⟨_, rfl⟩
    rw [hn] at HK ⊢
    clear hn
    go_enter Tryd.func10, Tryd.ntmps10
    go_wp2_with (first | (go_at_call 36; refine (HO.out _).mono ?_; rintro e w' ⟨rfl, rfl⟩) | (go_at_call 37; refine (HK.out _).mono ?_; rintro e w' ⟨rfl, rfl⟩))
    go_ret2
    exact ⟨rfl, rfl⟩

theorem needed_any (s : ByteArray) (hs : s.size ≤ 1048576) (w : World) (hT : ∀ W, Below w.heap.size w W → Utf8In W) :
    Calls Tryd.prog 11 #[.string s] w fun e w' => e = .returned (.tuple #[.int .i64 (needN s), .int .i64 (needC s)]) ∧ Below w.heap.size w w' := by
  have HO := Lib.hid (validProgram_any s w)
  have HK := Lib.hid (fun W (hb : Below w.heap.size w W) => lettersOfKeys_any s hs W (hT W hb))
  clear hT
  cases hp : progB s
  · have e1 : needN s = 0 := by simp [needN, hp]
    have e2 : needC s = 1 := by simp [needC, hp]
    rw [hp] at HO
    rw [e1, e2]
    clear e1 e2 hp HK
    go_enter Tryd.func11, Tryd.ntmps11
    go_wp2_with fail
    refine HO.out.mono ?_
    rintro e w1 ⟨rfl, hb⟩
    have HB := Lib.hid hb
    clear hb
    go_wp2
    go_ret2
    exact ⟨rfl, HB.out⟩
  · have e1 : needN s = (keptText s).size := by rw [keptText_size s (prog_letters s hp)]; simp [needN, hp]
    have e2 : needC s = 0 := by simp [needC, hp]
    rw [hp] at HO
    rw [e1, e2]
    clear e1 e2 hp
    obtain ⟨S, hn⟩ : ∃ S, keptText s = S := ⟨_, rfl⟩
    rw [hn] at HK ⊢
    clear hn
    go_enter Tryd.func11, Tryd.ntmps11
    go_wp2_with fail
    refine HO.out.mono ?_
    rintro e w1 ⟨rfl, hb⟩
    have HB := Lib.hid hb
    clear hb
    go_wp2_with fail
    refine (HK.out _ HB.out).mono ?_
    rintro e w2 ⟨rfl, hb⟩
    have HB2 := Lib.hid (HB.out.trans (hb.mono HB.out.size))
    clear hb
    go_wp2
    go_ret2
    exact ⟨rfl, HB2.out⟩
end Go.Proofs.YtjlgfgekiekenaaDoor
