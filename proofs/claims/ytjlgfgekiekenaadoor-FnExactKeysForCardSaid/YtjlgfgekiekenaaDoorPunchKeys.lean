/- impl.punchKeys gives, for every program card, every columns before of as many and every keys of at most 1048576 bytes, the columns that are punched, or the first key's error (conditions: the tables of unicode/utf8 and the errors lie in memory): a contract. -/
import Derived.Test.YtjlgfgekiekenaaDoorKeyMath
import Derived.Test.YtjlgfgekiekenaaDoorUtf8
import Derived.Test.YtjlgfgekiekenaaDoorIllegal
namespace Go.Proofs.YtjlgfgekiekenaaDoor
open Go.ChangeShapes Go.WideShapes Go.ChangeAt Go.RowKit

/-- The errors of keys lie in memory. -/
structure KeyErrs (w : World) (aC aS aF : Addr) : Prop where
  count : Sent w 0 aC
  stuck : Sent w 1 aS
  foreign : Sent w 4 aF
theorem KeyErrs.below {w w' : World} {aC aS aF : Addr} (h : KeyErrs w aC aS aF) (hb : Below w.heap.size w w') : KeyErrs w' aC aS aF := ⟨h.count.below hb, h.stuck.below hb, h.foreign.below hb⟩

theorem kp_moved {w w' : World} {base n size : Nat} {e : TypeId} {v : Value} {xs : List Value} (h : w.ownsRow base e size v n xs) (hk : ∀ i, base ≤ i → i < w.heap.size → w'.heap[i]? = w.heap[i]?) : w'.ownsRow base e size v n xs := by
  refine ⟨h.1, ?_⟩
  rcases h.2 with h0 | ⟨g, cap, cur, hv, hb, hh, rest⟩
  · exact Or.inl h0
  · refine Or.inr ⟨g, cap, cur, hv, hb, ?_, rest⟩
    rw [hk g hb ?_]
    · exact hh
    · rcases Nat.lt_or_ge g w.heap.size with hlt | hge
      · exact hlt
      · rw [Array.getElem?_eq_none hge] at hh
        cases hh
theorem kp_shape {w : World} {base n size : Nat} {et : TypeId} {v : Value} {xs : List Value} (h : w.ownsRow base et size v n xs) (h0 : 0 < n) : ∃ g cap, v = .slice (some ⟨g, 0, none⟩) n cap := by
  rcases h.2 with ⟨_, hz⟩ | ⟨g, cap, cur, rfl, _⟩
  · omega
  · exact ⟨g, cap, rfl⟩
theorem kp_cell {w w' : World} {p : Addr} {v : Value} (h : w'.heap[p.block]? = w.heap[p.block]?) (hc : w.cell? p = some v) : w'.cell? p = some v := by
  rw [World.cell?_of_block h]
  exact hc
theorem kp_frozen {w w' : World} {p : Addr} (h : w'.heap[p.block]? = w.heap[p.block]?) (hf : w.frozen? p = false) : w'.frozen? p = false := by
  unfold World.frozen? at hf ⊢
  rw [h]
  exact hf
theorem kp_append {wr w' : World} {base n size : Nat} {et : TypeId} {v : Value} {xs : List Value} {o : Obj} (hgrow : (wr.alloc o).grownBy w' v.ownBlock) (hown : wr.ownsRow base et size v n xs) {i : Nat} (hi : i < wr.heap.size) (hb : i < base) : w'.heap[i]? = wr.heap[i]? := by
  rw [hgrow.block i (by simp; omega) (fun e => by have := (hown.lt i e.symm).1; omega), Below.heap_alloc wr o i hi]

/-- What a loop over a program card keeps: p the iterator's place, j the keys that are struck, k the columns that are punched. -/
structure Keying (w1 wr : World) (s K : ByteArray) (bs : List Int) (A : Option Addr) (c p j k : Nat) (v : Value) : Prop where
  below : Below w1.heap.size w1 wr
  it : wr.heap[w1.heap.size + 1]? = some (.stringIter s p)
  c0 : wr.cell? ⟨w1.heap.size, 0, none⟩ = some (.string (sufB K j))
  c1 : wr.cell? ⟨w1.heap.size, 1, none⟩ = some (.slice A bs.length c)
  c2 : wr.cell? ⟨w1.heap.size, 2, none⟩ = some v
  fz : ∀ i, wr.frozen? ⟨w1.heap.size, i, none⟩ = false
  own : wr.ownsRow (w1.heap.size + 2) 2 1 v (punL s bs K k).length ((punL s bs K k).map (Value.int .i64))
  room : w1.heap.size + 2 ≤ wr.heap.size

section
variable {w1 wr : World} {s K : ByteArray} {bs : List Int} {A : Option Addr} {c p j k : Nat} {v : Value}
theorem Keying.next (h : Keying w1 wr s K bs A c p j k v) (p' : Nat) : Keying w1 (wr.iterAt (w1.heap.size + 1) s p') s K bs A c p' j k v := by
  have hk : ∀ i, i ≠ w1.heap.size + 1 → (wr.iterAt (w1.heap.size + 1) s p').heap[i]? = wr.heap[i]? := fun i hi => Lib.iterAt_other _ _ _ _ _ hi
  exact ⟨Lib.below_iterAt h.below (by omega) _ _, Lib.iterAt_heap _ _ _ _ _ h.it, kp_cell (hk _ (by simp)) h.c0, kp_cell (hk _ (by simp)) h.c1, kp_cell (hk _ (by simp)) h.c2,
    fun i => kp_frozen (hk _ (by simp)) (h.fz i), kp_moved h.own (fun i hi _ => hk i (by omega)), by rw [Lib.iterAt_size]; exact h.room⟩
theorem Keying.draws (h : Keying w1 wr s K bs A c p j k v) (q : Nat) : Keying w1 (wr.drewN q) s K bs A c p j k v :=
  ⟨below_drewN h.below q, h.it, h.c0, h.c1, h.c2, h.fz, h.own, h.room⟩
theorem Keying.struck (h : Keying w1 wr s K bs A c p j k v) : Keying w1 (wr.setCell ⟨w1.heap.size, 0, none⟩ (.string (sufB K (j + 1)))) s K bs A c p (j + 1) k v := by
  have hk : ∀ i, i ≠ w1.heap.size → (wr.setCell ⟨w1.heap.size, 0, none⟩ (.string (sufB K (j + 1)))).heap[i]? = wr.heap[i]? := fun i hi => Below.heap_setCell _ _ _ _ (by simpa using hi)
  refine ⟨h.below.setCell (Nat.le_refl _) _, (hk _ (by simp)).trans h.it, World.cell?_setCell_same _ _ _ h.c0, ?_, ?_, fun i => by simpa using h.fz i, kp_moved h.own (fun i hi _ => hk i (by omega)), by simpa [World.setCell] using h.room⟩
  · rw [World.cell?_setCell_other _ _ _ _ (by intro e; injection e with e1 e2; omega)]; exact h.c1
  · rw [World.cell?_setCell_other _ _ _ _ (by intro e; injection e with e1 e2; omega)]; exact h.c2
theorem Keying.put {w9 : World} {v' : Value} (h : Keying w1 wr s K bs A c p j k v) (hgrow : (wr.alloc (.cells #[.int .i64 (colVal s bs K k)] 2)).grownBy w9 v.ownBlock)
    (hown : w9.ownsRow (w1.heap.size + 2) 2 1 v' ((punL s bs K k).length + 1) ((punL s bs K k).map (Value.int .i64) ++ [.int .i64 (colVal s bs K k)])) :
    Keying w1 (w9.setCell ⟨w1.heap.size, 2, none⟩ v') s K bs A c p j (k + 1) v' := by
  have hr := h.room
  have hk9 : ∀ i, i < w1.heap.size + 2 → w9.heap[i]? = wr.heap[i]? := fun i hi => kp_append hgrow h.own (by omega) hi
  have hs9 : wr.heap.size ≤ w9.heap.size := by have := hgrow.size; simp at this; omega
  obtain ⟨ho, hb⟩ := own_more hown hgrow h.own h.below (by omega) (by omega)
  rw [← punL_succ] at ho
  have hk : ∀ i, i ≠ w1.heap.size → (w9.setCell ⟨w1.heap.size, 2, none⟩ v').heap[i]? = w9.heap[i]? := fun i hi => Below.heap_setCell _ _ _ _ (by simpa using hi)
  have d2 := kp_cell (hk9 w1.heap.size (by omega)) h.c2
  refine ⟨hb.setCell (Nat.le_refl _) _, (hk _ (by simp)).trans ((hk9 _ (by omega)).trans h.it), ?_, ?_, World.cell?_setCell_same _ _ _ d2, fun i => by simpa using kp_frozen (p := ⟨w1.heap.size, i, none⟩) (hk9 w1.heap.size (by omega)) (h.fz i), kp_moved ho (fun i hi _ => hk i (by omega)), by simp [World.setCell]; omega⟩
  · rw [World.cell?_setCell_other _ _ _ _ (by intro e; injection e with e1 e2; omega)]; exact kp_cell (hk9 w1.heap.size (by omega)) h.c0
  · rw [World.cell?_setCell_other _ _ _ _ (by intro e; injection e with e1 e2; omega)]; exact kp_cell (hk9 w1.heap.size (by omega)) h.c1
end

/-- What the next column answers. -/
def ColumnPost (w1 : World) (s K : ByteArray) (bs : List Int) (A : Option Addr) (c k : Nat) (v : Value) (aS aF : Addr) (e : Ending) (w' : World) : Prop :=
  ∃ x err, e = .returned (.tuple #[.int .i64 x, err]) ∧ Keying w1 w' s K bs A c (k + 1) (keysTo s (k + 1)) k v ∧
    ((colBad s K k = 0 ∧ x = colVal s bs K k ∧ err = .nilIface) ∨ (colBad s K k = 7 ∧ err = errV aF) ∨ (colBad s K k = 10 ∧ err = errV aS))

theorem column_any {w1 wr : World} {s K : ByteArray} {bs : List Int} {A : Option Addr} {c k B : Nat} {v : Value} (h : Keying w1 wr s K bs A c (k + 1) (keysTo s k) k v) (hp : lettersTo s s.size = true) (hk : k < s.size) (hs : s.size ≤ 1048576) (hK : K.size ≤ 1048576) (e : K.size = keysTo s s.size)
    (hI : Ints w1 B A bs) (hB : B ≤ w1.heap.size) (hl : bs.length = s.size) {aC aS aF : Addr} (S : KeyErrs w1 aC aS aF) :
    Calls Tryd.prog 74 #[.pointer (some ⟨w1.heap.size, 0, none⟩), .int .i32 (s.get! k).toNat] wr (ColumnPost w1 s K bs A c k v aS aF) := by
  have S' := S.below h.below
  have hlF : 4 < w1.heap.size := World.block_lt_of_cell? _ _ S.foreign.1
  have hlS : 1 < w1.heap.size := World.block_lt_of_cell? _ _ S.stuck.1
  have hlet := letter_at s k hp hk
  have hsz : keyB (s.get! k).toNat = true → keysTo s k < K.size := fun hkey => by rw [e]; exact keysTo_lt s k hk hkey
  have hsuf : (sufB K (keysTo s k)).size = K.size - keysTo s k := sufB_size K _
  rcases letter_cases (s.get! k).toNat with el | el | el | el | ⟨e1, e2, e3, e4⟩
  · have hkey : keyB (s.get! k).toNat = true := by rw [el]; rfl
    have hh := sufB_head K (keysTo s k) (hsz hkey)
    have hlt := hsz hkey
    rw [el]
    refine (holesFor_m (sufB K (keysTo s k)) w1.heap.size wr (by omega) (by omega) h.c0 (h.fz 0) S'.foreign hlF).mono ?_
    rintro e w' ⟨rfl, q, rfl⟩
    rw [sufB_rest, ← keysTo_key s k hkey]
    have hs1 := h.struck
    rw [← keysTo_key s k hkey] at hs1
    refine ⟨_, _, rfl, hs1.draws q, ?_⟩
    unfold strikeV strikeE colBad colVal
    rw [hkey, hh, el]
    by_cases hneg : codeS ((K.get! (keysTo s k)).toNat : Int) < 0
    · rw [if_pos hneg, if_pos hneg, if_pos hneg]
      exact Or.inr (Or.inl ⟨by simp, rfl⟩)
    · rw [if_neg hneg, if_neg hneg, if_neg hneg]
      exact Or.inl ⟨by simp, by simp, rfl⟩
  · have hkey : keyB (s.get! k).toNat = true := by rw [el]; rfl
    have hh := sufB_head K (keysTo s k) (hsz hkey)
    have hlt := hsz hkey
    rw [el]
    refine (holesFor_n (sufB K (keysTo s k)) w1.heap.size wr (by omega) (by omega) h.c0 (h.fz 0) S'.foreign S'.stuck hlF hlS).mono ?_
    rintro e w' ⟨rfl, q, rfl⟩
    rw [sufB_rest, ← keysTo_key s k hkey]
    have hs1 := h.struck
    rw [← keysTo_key s k hkey] at hs1
    refine ⟨_, _, rfl, hs1.draws q, ?_⟩
    unfold numV numE colBad colVal
    rw [hkey, hh, el]
    by_cases hneg : codeS ((K.get! (keysTo s k)).toNat : Int) < 0
    · rw [if_pos hneg, if_pos hneg, if_pos hneg]
      exact Or.inr (Or.inl ⟨by simp, rfl⟩)
    · rw [if_neg hneg, if_neg hneg, if_neg hneg]
      cases hd : digC (K.get! (keysTo s k)).toNat
      · exact Or.inr (Or.inr ⟨by simp, by simp⟩)
      · exact Or.inl ⟨by simp, by simp, by simp⟩
  · have hkey : keyB (s.get! k).toNat = false := by rw [el]; rfl
    rw [el]
    refine (holesFor_s _ wr).mono ?_
    rintro e w' ⟨rfl, rfl⟩
    refine ⟨_, _, rfl, by rw [keysTo_no s k hkey]; exact h, Or.inl ⟨?_, ?_, rfl⟩⟩
    · simp [colBad, hkey]
    · unfold colVal
      rw [hkey, el]
      rfl
  · have hkey : keyB (s.get! k).toNat = false := by rw [el]; rfl
    rw [el]
    have hv : ∃ G c', v = .slice G k c' := by
      have hlen := punL_length s bs K k
      rcases h.own.2 with ⟨hv, hz⟩ | ⟨g, cap, cur, hv, _⟩
      · exact ⟨none, 0, by rw [hv]; congr 1; omega⟩
      · exact ⟨_, cap, by rw [hv, hlen]⟩
    obtain ⟨G, c', rfl⟩ := hv
    refine (holesFor_d w1.heap.size B A G c c' k bs wr h.c1 h.c2 (hI.below (h.below.mono hB)) (by omega) (by omega)).mono ?_
    rintro e w' ⟨rfl, q, rfl⟩
    refine ⟨_, _, rfl, by rw [keysTo_no s k hkey]; exact h.draws q, Or.inl ⟨?_, ?_, rfl⟩⟩
    · simp [colBad, hkey]
    · unfold colVal
      rw [hkey, el]
      rfl
  · simp [letterB, keyB, e1, e2, e3, e4] at hlet

theorem punchKeys_count (s K : ByteArray) (v : Value) (hs : s.size ≤ 1048576) (hK : K.size ≤ 1048576) (hp : progB s = true) (e : K.size ≠ keysTo s s.size) (w : World) (hT : Utf8In w) {aC aS aF : Addr} (S : KeyErrs w aC aS aF) :
    Calls Tryd.prog 46 #[.string s, v, .string K] w fun e w' => e = .returned (.tuple #[.slice none 0 0, errV aC]) ∧ Below w.heap.size w w' := by
  have HC := Lib.hid (lettersOfKeys_any s hs w hT)
  have e2 : (keptText s).size = keysTo s s.size := keptText_size s (prog_letters s hp)
  obtain ⟨T, hTT⟩ : ∃ T, keptText s = T := ⟨_, rfl⟩
  rw [hTT] at HC e2
  rw [← e2] at e
  have e' : ((K.size : Int) != (T.size : Int)) = true := by rw [bne_iff_ne]; omega
  have hS := fun w' (hb : Below w.heap.size w w') => (S.below hb).count.1
  unfold errV
  clear hTT hT S e2 e hp
  go_enter Tryd.func46, Tryd.ntmps46
  go_wp2_with fail
  refine HC.out.mono ?_
  rintro e w1 ⟨rfl, hb⟩
  have hc := hS w1 hb
  have HB := Lib.hid hb
  clear hb hS
  go_wp2
  go_quiet (fail)
  go_wp2
  go_ret2
  exact ⟨rfl, below_drewN HB.out _⟩

def PunchedPost (s K : ByteArray) (bs : List Int) (aS aF : Addr) (w : World) (e : Ending) (w' : World) : Prop :=
  Below w.heap.size w w' ∧ ((badC s K s.size = 0 ∧ ∃ g cap ex, e = .returned (.tuple #[.slice (some ⟨g, 0, none⟩) s.size cap, .nilIface]) ∧ w.heap.size ≤ g ∧ Row w' g (punL s bs K s.size) ex) ∨ (badC s K s.size = 7 ∧ e = .returned (.tuple #[.slice none 0 0, errV aF])) ∨ (badC s K s.size = 10 ∧ e = .returned (.tuple #[.slice none 0 0, errV aS])))

set_option maxHeartbeats 2000000 in
set_option maxRecDepth 100000 in
theorem punchKeys_any (s K : ByteArray) (A : Option Addr) (c B : Nat) (bs : List Int) (hp : progB s = true) (hK : K.size ≤ 1048576) (e : K.size = keysTo s s.size) (w : World) (h : Ints w B A bs) (hB : B ≤ w.heap.size) (hl : bs.length = s.size) (hT : Utf8In w) {aC aS aF : Addr} (S : KeyErrs w aC aS aF) :
    Calls Tryd.prog 46 #[.string s, .slice A bs.length c, .string K] w (PunchedPost s K bs aS aF w) := by
  obtain ⟨i0, hi0, hz0, hz1, hz2⟩ := info_parts info_int64
  have hsz := prog_size s hp
  have HC := Lib.hid (lettersOfKeys_any s (by omega) w hT)
  have e2 : (keptText s).size = K.size := by rw [keptText_size s (prog_letters s hp), e]
  obtain ⟨T, hTT⟩ : ∃ T, keptText s = T := ⟨_, rfl⟩
  rw [hTT] at HC e2
  have e' : ((K.size : Int) != (T.size : Int)) = false := by rw [bne_eq_false_iff_eq]; omega
  have HL := Lib.hid (prog_letters s hp)
  have HLen := Lib.hid hl
  have HE := Lib.hid e
  have HS := Lib.hid S
  have HI := Lib.hid h
  have hgl : 5 < w.heap.size := World.block_lt_of_cell? _ _ (hT.1 0 (by omega))
  clear hTT hT S hp hl e h e2
  go_enter Tryd.func46, Tryd.ntmps46
  go_wp2_with fail
  refine HC.out.mono ?_
  rintro e w1 ⟨rfl, hb⟩
  have B1 := Lib.hid hb
  have S1 := Lib.hid (HS.out.below hb)
  have I1 := Lib.hid (HI.out.below (hb.mono hB))
  have hB1 : B ≤ w1.heap.size := Nat.le_trans hB hb.size
  clear hb HS HI HC
  go_wp2
  go_loopw [] (fun wr => ∃ k : Nat, ∃ v : Value, k ≤ s.size ∧ Hid (Keying w1 wr s K bs A c k (keysTo s k) k v) ∧ Hid (badC s K k = 0)) (fun wr => s.size - wr.iterPos (w1.heap.size + 1))
  case atStart =>
    refine ⟨0, .slice none 0 0, Nat.zero_le _, ?_, rfl⟩
    have hw : ∀ o : Obj, Below w1.heap.size w1 (w1.alloc o) := fun o => below_box w1 o
    refine ⟨(hw _).alloc (by simp) _, ?_, ?_, ?_, ?_, fun i => ?_, ⟨rfl, Or.inl ⟨rfl, rfl⟩⟩, by simp [World.iter]⟩
    · have := World.iter_heap (w1.alloc (.cells #[.string K, .slice A bs.length c, .slice none 0 0] 95)) s 0
      simpa using this
    · rw [keysTo, sufB_zero]
      simp [World.iter, go_sem]
    · simp [World.iter, go_sem]
    · simp [World.iter, go_sem]
    · simp [World.iter, go_sem]
  case round =>
    obtain ⟨k, v, hk, HK, HBAD⟩ := hrel
    by_cases hlt : k < s.size
    · have hge := byte_of s k hlt
      have hsm : (s[k]'hlt).toNat < 128 := by
        have := letter_at s k HL.out hlt
        rw [hge] at this
        by_cases hh : 128 ≤ (s[k]'hlt).toNat
        · rw [letterB_high _ hh] at this; cases this
        · omega
      have hnx : ∀ ty, (Instr.next (.pointer (some ⟨w1.heap.size + 1, 0, none⟩)) true ty).run Tryd.prog wr = _ := fun ty => Lib.run_next_ascii_at wr (w1.heap.size + 1) s k ty HK.out.it hlt hsm
      rw [← hge] at hnx
      have HN := Lib.hid (HK.out.next (k + 1))
      obtain ⟨x, hx⟩ : ∃ x, (s.get! k).toNat = x := ⟨_, rfl⟩
      have HCO := Lib.hid (column_any HN.out HL.out hlt (by omega) hK HE.out I1.out hB1 HLen.out S1.out)
      rw [hx] at hnx HCO
      clear hge hsm
      go_wp2_with fail
      refine HCO.out.mono ?_
      rintro e w2 ⟨y, err, rfl, hK2, hcase⟩
      have HK2 := Lib.hid hK2
      have d2 := hK2.c2
      have f2 := hK2.fz 2
      clear hK2 HN HCO
      rcases hcase with ⟨hb0, hy, rfl⟩ | ⟨hb7, rfl⟩ | ⟨hb10, rfl⟩
      · have HY := Lib.hid hy
        have HB1 : Hid (badC s K (k + 1) = 0) := by show _ = _; rw [badC_step s K k HBAD.out, hb0]
        have hl9 := punL_length s bs K k
        have h63 : (punL s bs K k).length + 1 ≤ maxLen := by unfold maxLen; omega
        have h8 : ((punL s bs K k).length + 1) * 8 ≤ 140737488355328 := by omega
        clear hy hb0 hl9
        go_wp2_with (at_builtin; refine wpList_append_own _ rfl _ _ 62 rfl (w1.heap.size + 2) 2 i0 (.int .i64 0) 1 8 Tryd.underlying62 hi0 hz0 hz1 hz2 rfl (by decide) _ _ _ rfl (HK2.out.own.alloc _) ⟨w2.heap.size, 0, none⟩ 1 1 [.int .i64 y] rfl rfl ?c1 ?c2 ?c3 ?c4 ?c5 ?_; rotate_left 5; intro v' w9 hown hgrow _; obtain ⟨gq, cq, rfl⟩ := kp_shape hown (Nat.succ_pos _); (have HG9 := Lib.hid hgrow); (have HO9 := Lib.hid hown); (have d9 : w9.cell? ⟨w1.heap.size, 2, none⟩ = some v := kp_cell (kp_append hgrow HK2.out.own (by have := HK2.out.room; simp; omega) (by simp)) HK2.out.c2); (have f9 : w9.frozen? ⟨w1.heap.size, 2, none⟩ = false := kp_frozen (kp_append hgrow HK2.out.own (by have := HK2.out.room; simp; omega) (by simp)) (HK2.out.fz 2)); clear hown hgrow)
        case c1 =>
          intro j u hj
          match j, hj with
          | 0, hj => simp at hj; subst hj; simp [Addr.add]
        case c2 => intro u hu; simp at hu; subst hu; rfl
        case c3 => exact h63
        case c4 => exact h8
        case c5 => have := HK2.out.room; simp; omega
        have HK9 := Lib.hid (HK2.out.put (by rw [← HY.out]; exact HG9.out) (by rw [← HY.out]; exact HO9.out))
        go_roundw
        case rel => exact ⟨k + 1, _, by omega, HK9.out, HB1⟩
        case measure =>
          have a1 := HK.out.it
          have a2 := HK9.out.it
          simp only [World.iterPos, a1, a2]
          omega
      · have hn : ∀ (w : World), (binOp .neq 64 (.iface 182 (.pointer (some aF))) .nilIface).run Tryd.prog w = .ok (.bool true) w := fun w => run_neq_iface_nil w 64 (by kernel_rfl) _ _
        have HF : Hid (PunchedPost s K bs aS aF w (.returned (.tuple #[.slice none 0 0, errV aF])) w2) := by
          refine ⟨below_step B1.out HK2.out.below, Or.inr (Or.inl ⟨?_, rfl⟩)⟩
          have h1 : badC s K (k + 1) = 7 := by rw [badC_step s K k HBAD.out, hb7]
          rw [badC_stay s K (k + 1) (by omega) s.size hlt, h1]
        unfold errV at HF ⊢
        clear hb7
        go_wp2
        go_ret2
        exact HF.out
      · have hn : ∀ (w : World), (binOp .neq 64 (.iface 182 (.pointer (some aS))) .nilIface).run Tryd.prog w = .ok (.bool true) w := fun w => run_neq_iface_nil w 64 (by kernel_rfl) _ _
        have HF : Hid (PunchedPost s K bs aS aF w (.returned (.tuple #[.slice none 0 0, errV aS])) w2) := by
          refine ⟨below_step B1.out HK2.out.below, Or.inr (Or.inr ⟨?_, rfl⟩)⟩
          have h1 : badC s K (k + 1) = 10 := by rw [badC_step s K k HBAD.out, hb10]
          rw [badC_stay s K (k + 1) (by omega) s.size hlt, h1]
        unfold errV at HF ⊢
        clear hb10
        go_wp2
        go_ret2
        exact HF.out
    · obtain rfl : k = s.size := by omega
      have hnx : ∀ ty, (Instr.next (.pointer (some ⟨w1.heap.size + 1, 0, none⟩)) true ty).run Tryd.prog wr = _ := fun ty => Lib.run_next_end_at wr (w1.heap.size + 1) s s.size ty HK.out.it hlt
      have d2 := HK.out.c2
      have hw1 : w.heap.size ≤ w1.heap.size := B1.out.size
      have HF : Hid (∃ g cap, v = .slice (some ⟨g, 0, none⟩) s.size cap ∧ PunchedPost s K bs aS aF w (.returned (.tuple #[.slice (some ⟨g, 0, none⟩) s.size cap, .nilIface])) wr) := by
        have hlen := punL_length s bs K s.size
        obtain ⟨g, cap, ex, hv, hg, hr⟩ := owned_row HK.out.own (by omega) rfl
        exact ⟨g, cap, by rw [hv, hlen], below_step B1.out HK.out.below, Or.inl ⟨HBAD.out, g, cap, ex, rfl, by omega, hr⟩⟩
      obtain ⟨g, cap, rfl, hF⟩ := HF.out
      have HF2 := Lib.hid hF
      clear hF HF HK hlt
      go_wp2
      go_ret2
      exact HF2.out
end Go.Proofs.YtjlgfgekiekenaaDoor
