/- spec.l05Punch gives, for every program card, every card before with as many columns and every keys whose number is right, the card that is punched, in memory of its own: a contract. -/
import Derived.Test.YtjlgfgekiekenaaDoorSpecKeys
import Derived.Test.YtjlgfgekiekenaaDoorGives
import Derived.Test.YtjlgfgekiekenaaDoorKeyCount
import Derived.Test.YtjlgfgekiekenaaDoorIllegal
namespace Go.Proofs.YtjlgfgekiekenaaDoor
open Go.ChangeShapes Go.WideShapes Go.ChangeAt Go.RowKit

def punTo (s : ByteArray) (bs : List Int) (K : ByteArray) (k : Nat) : List Int := punL s bs K k ++ List.replicate (s.size - k) 0
theorem punTo_length (s : ByteArray) (bs : List Int) (K : ByteArray) (k : Nat) (h : k ≤ s.size) : (punTo s bs K k).length = s.size := by simp [punTo, punL_length]; omega
theorem punTo_zero (s : ByteArray) (bs : List Int) (K : ByteArray) : punTo s bs K 0 = List.replicate s.size 0 := by simp [punTo, punL]
theorem punTo_all (s : ByteArray) (bs : List Int) (K : ByteArray) : punTo s bs K s.size = punL s bs K s.size := by simp [punTo]
theorem punTo_set (s : ByteArray) (bs : List Int) (K : ByteArray) (k : Nat) (h : k < s.size) : (punTo s bs K k).set k (colVal s bs K k) = punTo s bs K (k + 1) := by
  have e : s.size - k = (s.size - (k + 1)) + 1 := by omega
  have hl := punL_length s bs K k
  rw [punTo, punTo, e, List.replicate_succ, punL_succ, List.append_assoc]
  rw [List.set_append_right _ _ (by omega), hl, Nat.sub_self]
  rfl
theorem punTo_skip (s : ByteArray) (bs : List Int) (K : ByteArray) (k : Nat) (h : k < s.size) (h0 : colVal s bs K k = 0) : punTo s bs K (k + 1) = punTo s bs K k := by
  have e : s.size - k = (s.size - (k + 1)) + 1 := by omega
  rw [punTo, punTo, e, List.replicate_succ, punL_succ, List.append_assoc, h0]
  rfl

theorem grown_drew {w w' : World} {x : Option Nat} (h : w.grownBy w' x) : w.grownBy w'.drew x := ⟨h.os, h.tape, h.output, h.size, h.block⟩

/-- A card of one's own, as a value. -/
def OwnsCard (ys : List Int) (w : World) (e : Ending) (w' : World) : Prop :=
  ∃ g cap ex, e = .returned (.agg #[.slice (some ⟨g, 0, none⟩) ys.length cap]) ∧ w.heap.size ≤ g ∧ Below w.heap.size w w' ∧ Row w' g ys ex

set_option maxHeartbeats 2000000 in
set_option maxRecDepth 100000 in
theorem l05Punch_any (s K : ByteArray) (A : Option Addr) (c B p o : Nat) (bs : List Int) (hp : progB s = true) (hK : K.size ≤ 1048576) (e : K.size = keysTo s s.size) (w : World) (hc : w.cell? ⟨p, o, none⟩ = some (.slice A bs.length c)) (h : Ints w B A bs) (hB : B ≤ w.heap.size) (hl : bs.length = s.size) :
    Calls Tryd.prog 43 #[.string s, .pointer (some ⟨p, o, none⟩), .string K] w (OwnsCard (punL s bs K s.size) w) := by
  have hsz := prog_size s hp
  have hpl := World.block_lt_of_cell? _ _ hc
  have hmk := run_make_row' (P := Tryd.prog) 25 2 (.int .i64 0) 8 Tryd.underlying25 info_int64 rfl .i64 .i64 s.size (by omega) (by omega)
  have HL := Lib.hid (prog_letters s hp)
  have HE := Lib.hid e
  have HI := Lib.hid h
  have HLen := Lib.hid hl
  rw [hl] at hc
  clear hp e h hl
  go_enter Tryd.func43, Tryd.ntmps43
  go_wp2
  clear hmk
  have r0 : Row (((w.alloc (.cells #[.slice none 0 0] 29)).alloc (.cells (madeCells #[Value.int .i64 0] s.size) 2)).alloc (.cells #[.slice (some ⟨w.heap.size + 1, 0, none⟩) s.size s.size] 29)) (w.heap.size + 1) (List.replicate s.size 0) [] := by
    rw [madeCells_int]
    exact (Row.new_at _ _ (by simp)).alloc _
  have R0 := Lib.hid r0
  have B0 := Lib.hid (((below_box w (.cells #[.slice none 0 0] 29)).alloc (by simp) (.cells (madeCells #[Value.int .i64 0] s.size) 2)).alloc (by simp; omega) (.cells #[.slice (some ⟨w.heap.size + 1, 0, none⟩) s.size s.size] 29))
  have C0 : (((w.alloc (.cells #[.slice none 0 0] 29)).alloc (.cells (madeCells #[Value.int .i64 0] s.size) 2)).alloc (.cells #[.slice (some ⟨w.heap.size + 1, 0, none⟩) s.size s.size] 29)).cell? ⟨w.heap.size, 0, none⟩ = some (.slice none 0 0) := by simp [go_sem]
  have F0 : (((w.alloc (.cells #[.slice none 0 0] 29)).alloc (.cells (madeCells #[Value.int .i64 0] s.size) 2)).alloc (.cells #[.slice (some ⟨w.heap.size + 1, 0, none⟩) s.size s.size] 29)).frozen? ⟨w.heap.size, 0, none⟩ = false := by simp [go_sem]
  have O0 : (((w.alloc (.cells #[.slice none 0 0] 29)).alloc (.cells (madeCells #[Value.int .i64 0] s.size) 2)).alloc (.cells #[.slice (some ⟨w.heap.size + 1, 0, none⟩) s.size s.size] 29)).cell? ⟨w.heap.size + 1 + 1, 0, none⟩ = some (.slice (some ⟨w.heap.size + 1, 0, none⟩) s.size s.size) := by simp [go_sem]
  have P0 := cell_kept hc B0.out
  have I0 := Lib.hid (HI.out.below (B0.out.mono hB))
  have S0 : w.heap.size + 3 ≤ (((w.alloc (.cells #[.slice none 0 0] 29)).alloc (.cells (madeCells #[Value.int .i64 0] s.size) 2)).alloc (.cells #[.slice (some ⟨w.heap.size + 1, 0, none⟩) s.size s.size] 29)).heap.size := by simp
  clear r0 HI hc
  rw [← punTo_zero s bs K] at R0
  generalize (((w.alloc (.cells #[.slice none 0 0] 29)).alloc (.cells (madeCells #[Value.int .i64 0] s.size) 2)).alloc (.cells #[.slice (some ⟨w.heap.size + 1, 0, none⟩) s.size s.size] 29)) = w3 at *
  go_loopw [8, 9] (fun a i wr => ∃ k j : Nat, k ≤ s.size ∧ j ≤ k ∧ i = .int .i64 k ∧ a = .int .i64 j ∧ Hid (keysTo s k = j) ∧ Hid (Row wr (w.heap.size + 1) (punTo s bs K k) []) ∧ Hid (w3.grownBy wr (some (w.heap.size + 1)))) (fun _ i _ => s.size - (intOf i).toNat)
  case atStart => exact ⟨0, 0, Nat.zero_le _, Nat.le_refl _, rfl, rfl, rfl, R0.out, ⟨rfl, rfl, rfl, Nat.le_refl _, fun _ _ _ => rfl⟩⟩
  case round =>
    obtain ⟨k, j, hk, hj, rfl, rfl, HJ, HR, HG⟩ := hrel
    have c1 := cell_only HG.out C0 (by simp)
    have o1 := cell_only HG.out O0 (by simp)
    have HB := Lib.hid (below_only B0.out HG.out (by omega))
    by_cases hlt : k < s.size
    · have hlt' : (k : Int) < (s.size : Int) := by omega
      have hk0 : (0 : Int) ≤ (k : Int) := Int.natCast_nonneg _
      have hge := byte_of s k hlt
      have hl := l05Keyed_any (s[k]'hlt).toNat
      obtain ⟨l, hll⟩ : ∃ l, (s[k]'hlt).toNat = l := ⟨_, rfl⟩
      have hgl : (s.get! k).toNat = l := by rw [hge, hll]
      have hlet := letter_at s k HL.out hlt
      rw [hgl] at hlet
      rw [hll] at hl
      have HLL := Lib.hid hll
      have HGL := Lib.hid hgl
      have hlen := punTo_length s bs K k hk
      have e2 := HR.out.frozen k
      obtain ⟨v3, e3⟩ : ∃ v, wr.cell? ⟨w.heap.size + 1, k, none⟩ = some v := ⟨_, HR.out.cell (by rw [hlen]; omega)⟩
      clear hge hgl
      cases hm : keyB l
      · rw [hm] at hl
        have HK := Lib.hid hl
        have HJ1 : Hid (keysTo s (k + 1) = j) := by show _ = _; rw [keysTo_no s k (by rw [HGL.out]; exact hm), HJ.out]
        have h2 : l = 115 ∨ l = 100 := by simpa [letterB, hm] using hlet
        rcases h2 with rfl | rfl
        · have hcv : colVal s bs K k = 0 := by unfold colVal; rw [HGL.out, hm]; rfl
          have HR1 : Hid (Row wr (w.heap.size + 1) (punTo s bs K (k + 1)) []) := by
            show Row _ _ _ _
            rw [punTo_skip s bs K k hlt hcv]
            exact HR.out
          clear hl hm hcv c1 hlen C0 F0 O0 R0 B0 P0 HB hlet HR
          go_wp2_with (go_at_call 53; refine (HK.out _).mono ?_; rintro e w' ⟨rfl, rfl⟩)
          go_roundw
          case rel => exact ⟨k + 1, j, by omega, by omega, by go_num, rfl, HJ1, HR1.out, HG.out⟩
          case measure => simp [intOf]; omega
        · have p1 := cell_only HG.out P0 (by simp; omega)
          have I1 := (I0.out.more (Nat.le_refl _) : Ints w3 B A bs)
          obtain ⟨b, off, rfl, hb, hcell⟩ := I1 (by rw [HLen.out]; omega)
          have x0 := hcell k (by rw [HLen.out]; exact hlt)
          obtain ⟨x, hx⟩ : ∃ x, bs[k]?.getD 0 = x := ⟨_, rfl⟩
          rw [hx] at x0
          have x1 := cell_only HG.out x0 (by simp; omega)
          have hcv : colVal s bs K k = x := by unfold colVal; rw [HGL.out, hm, ← hx]; rfl
          have HR1 : Hid (Row (wr.setCell ⟨w.heap.size + 1, k, none⟩ (.int .i64 x)) (w.heap.size + 1) (punTo s bs K (k + 1)) []) := by
            have := HR.out.set (i := k) (by rw [hlen]; omega) x
            rw [← hcv, punTo_set s bs K k hlt, hcv] at this
            exact this
          have HG1 : Hid (w3.grownBy (wr.setCell ⟨w.heap.size + 1, k, none⟩ (.int .i64 x)) (some (w.heap.size + 1))) := only_step HG.out (only_set _ _ _ _)
          clear hl hm hcv hx hcell x0 c1 hlen HR HG C0 F0 O0 R0 B0 P0 HB hlet I1
          go_wp2_with (go_at_call 53; refine (HK.out _).mono ?_; rintro e w' ⟨rfl, rfl⟩)
          go_region_law (fail)
          all_goals
            go_wp2
            go_roundw
            case rel => exact ⟨k + 1, j, by omega, by omega, by go_num, rfl, HJ1, HR1.out.drew, grown_drew HG1.out⟩
            case measure => simp [intOf]; omega
      · rw [hm] at hl
        have HK := Lib.hid hl
        have hjK : j < K.size := by rw [HE.out, ← HJ.out]; exact keysTo_lt s k hlt (by rw [HGL.out]; exact hm)
        have HJ1 : Hid (keysTo s (k + 1) = j + 1) := by show _ = _; rw [keysTo_key s k (by rw [HGL.out]; exact hm), HJ.out]
        have hgk := byte_of K j hjK
        obtain ⟨y, hy⟩ : ∃ y, (K[j]'hjK).toNat = y := ⟨_, rfl⟩
        have hyb : y ≤ 255 := by have := (K[j]'hjK).toNat_lt; omega
        have hky : (K.get! j).toNat = y := by rw [hgk, hy]
        have hcv : colVal s bs K k = codeS (y : Int) := by unfold colVal; rw [HGL.out, HJ.out, hky, hm]; rfl
        have hcc := fun W => l03Code_any (y : Int) (by omega) (by omega) W
        obtain ⟨m, hmm⟩ : ∃ m, codeS (y : Int) = m := ⟨_, rfl⟩
        rw [hmm] at hcc hcv
        have HC := Lib.hid hcc
        have hjK' : (j : Int) < (K.size : Int) := by omega
        have hj0 : (0 : Int) ≤ (j : Int) := Int.natCast_nonneg _
        have HR1 : Hid (Row (wr.setCell ⟨w.heap.size + 1, k, none⟩ (.int .i64 m)) (w.heap.size + 1) (punTo s bs K (k + 1)) []) := by
          have := HR.out.set (i := k) (by rw [hlen]; omega) m
          rw [← hcv, punTo_set s bs K k hlt, hcv] at this
          exact this
        have HG1 : Hid (w3.grownBy (wr.setCell ⟨w.heap.size + 1, k, none⟩ (.int .i64 m)) (some (w.heap.size + 1))) := only_step HG.out (only_set _ _ _ _)
        clear hl hm hgk hky hcc hmm hcv c1 hlen HR HG C0 F0 O0 R0 B0 P0 HB hlet
        go_wp2_with (go_at_call 53; refine (HK.out _).mono ?_; rintro e w' ⟨rfl, rfl⟩)
        go_region_law ((go_simp; go_at_call 72; refine (HC.out _).mono ?_; rintro e w' ⟨rfl, rfl⟩))
        all_goals
          go_wp2
          go_roundw
          case rel => exact ⟨k + 1, j + 1, by omega, by omega, by go_num, by go_num, HJ1, HR1.out.drew, grown_drew HG1.out⟩
          case measure => simp [intOf]; omega
    · obtain rfl : k = s.size := by omega
      have hk1 : ¬ (s.size : Int) < (s.size : Int) := by omega
      have hlen := punL_length s bs K s.size
      have hr := HR.out
      rw [punTo_all] at hr
      have HF : Hid (OwnsCard (punL s bs K s.size) w (.returned (.agg #[.slice (some ⟨w.heap.size + 1, 0, none⟩) s.size s.size])) (wr.setCell ⟨w.heap.size, 0, none⟩ (.slice (some ⟨w.heap.size + 1, 0, none⟩) s.size s.size))) :=
        ⟨w.heap.size + 1, s.size, [], by rw [hlen], by omega, HB.out.setCell (Nat.le_refl _) _, hr.far (by simp) _⟩
      have c2 : (wr.setCell ⟨w.heap.size, 0, none⟩ (.slice (some ⟨w.heap.size + 1, 0, none⟩) s.size s.size)).cell? ⟨w.heap.size, 0, none⟩ = some (.slice (some ⟨w.heap.size + 1, 0, none⟩) s.size s.size) := World.cell?_setCell_same _ _ _ c1
      have f1 : wr.frozen? ⟨w.heap.size, 0, none⟩ = false := by
        have hb := HG.out.block w.heap.size (by have := S0; omega) (by simp)
        unfold World.frozen? at F0 ⊢
        rw [hb]
        exact F0
      clear HR HG C0 F0 O0 R0 B0 P0 HB hr hlen
      go_wp2
      exact bodyPost_ret (v := .agg #[.slice (some ⟨w.heap.size + 1, 0, none⟩) s.size s.size]) (by simp [results, Tryd.results43, go_sem, c2]) rfl HF.out
end Go.Proofs.YtjlgfgekiekenaaDoor
