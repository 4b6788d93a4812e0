/- The methods of a keypunch answer, for every card before and every keys that are left, the holes of the next column, or an error that lies in memory: contracts of impl.strike, manual, numeric, skip, duplicate and holesFor. -/
import Derived.Test.YtjlgfgekiekenaaDoorProgs
import Derived.Test.YtjlgfgekiekenaaDoorCorrect
import Derived.Test.YtjlgfgekiekenaaDoorDigits
import Derived.Test.YtjlgfgekiekenaaDoorSent
import Derived.Deep.RegionLaw
namespace Go.Proofs.YtjlgfgekiekenaaDoor
open Go.ChangeShapes Go.WideShapes Go.ChangeAt Go.RowKit

def errV (a : Addr) : Value := .iface 182 (.pointer (some a))
/-- the first byte of a text -/
def headC (T : ByteArray) : Nat := (T.get! 0).toNat
/-- what a key answers -/
def strikeV (T : ByteArray) : Int := if codeS (headC T) < 0 then 0 else codeS (headC T)
def strikeE (T : ByteArray) (aF : Addr) : Value := if codeS (headC T) < 0 then errV aF else .nilIface
def restT (T : ByteArray) : ByteArray := T.extract 1 T.size

theorem headC_lt (T : ByteArray) : headC T ≤ 255 := by
  have := (T.get! 0).toNat_lt
  unfold headC
  omega

set_option maxHeartbeats 1000000 in
theorem strike_any (T : ByteArray) (b off : Nat) (w : World) (hT : 0 < T.size) (hs : T.size ≤ 1048576) (hc : w.cell? ⟨b, off, none⟩ = some (.string T)) (hf : w.frozen? ⟨b, off, none⟩ = false) {aF : Addr} (S : Sent w 4 aF) (hb : 4 < b) :
    Calls Tryd.prog 117 #[.pointer (some ⟨b, off, none⟩)] w fun e w' => e = .returned (.tuple #[.int .i64 (strikeV T), strikeE T aF]) ∧ ∃ q, (w.setCell ⟨b, off, none⟩ (.string (restT T))).drewN q = w' := by
  have hC := fun W => codeOf_all (headC T) (by omega) (by have := headC_lt T; omega) W
  have h0 : T[0]'hT = T.get! 0 := (byte_of T 0 hT).symm
  have hbyte : (T[0]'hT).toNat = headC T := by rw [h0]; rfl
  have hL := S.1
  unfold strikeV strikeE restT
  have hL2 : (w.setCell ⟨b, off, none⟩ (.string (T.extract 1 T.size))).cell? ⟨4, 0, none⟩ = some (.iface 182 (.pointer (some aF))) := by
    rw [World.cell?_setCell_other _ _ _ _ (by intro e; injection e with e; omega)]; exact hL
  obtain ⟨x, hx⟩ : ∃ x, headC T = x := ⟨_, rfl⟩
  rw [hx] at hC hbyte ⊢
  clear S hL hx h0
  by_cases hneg : codeS (x : Int) < 0
  · rw [if_pos hneg, decide_eq_true hneg] at hC
    rw [if_pos hneg, if_pos hneg]
    have HC := Lib.hid hC
    clear hC
    go_enter Tryd.func117, Tryd.ntmps117
    go_wp2_with (go_at_call 129; refine (HC.out _).mono ?_; rintro e w' ⟨rfl, rfl⟩)
    go_quiet (fail)
    go_wp2
    go_ret2
    exact ⟨rfl, nq, rfl⟩
  · rw [if_neg hneg, decide_eq_false hneg] at hC
    rw [if_neg hneg, if_neg hneg]
    have HC := Lib.hid hC
    clear hC hL2
    go_enter Tryd.func117, Tryd.ntmps117
    go_wp2_with (go_at_call 129; refine (HC.out _).mono ?_; rintro e w' ⟨rfl, rfl⟩)
    go_ret2
    exact ⟨rfl, 0, rfl⟩

theorem manual_any (T : ByteArray) (b : Nat) (w : World) (hT : 0 < T.size) (hs : T.size ≤ 1048576) (hc : w.cell? ⟨b, 0, none⟩ = some (.string T)) (hf : w.frozen? ⟨b, 0, none⟩ = false) {aF : Addr} (S : Sent w 4 aF) (hb : 4 < b) :
    Calls Tryd.prog 96 #[.pointer (some ⟨b, 0, none⟩)] w fun e w' => e = .returned (.tuple #[.int .i64 (strikeV T), strikeE T aF]) ∧ ∃ q, (w.setCell ⟨b, 0, none⟩ (.string (restT T))).drewN q = w' := by
  have HS := Lib.hid (strike_any T b 0 w hT hs hc hf S hb)
  clear hc hf S
  obtain ⟨x, hx⟩ : ∃ x, strikeV T = x := ⟨_, rfl⟩
  obtain ⟨y, hy⟩ : ∃ y, strikeE T aF = y := ⟨_, rfl⟩
  rw [hx, hy] at HS ⊢
  clear hx hy
  go_enter Tryd.func96, Tryd.ntmps96
  go_wp2_with (go_at_call 117; refine HS.out.mono ?_; rintro e w' ⟨rfl, q, rfl⟩)
  go_ret2
  exact ⟨rfl, q, rfl⟩

theorem skip_any (p : Value) (w : World) : Calls Tryd.prog 99 #[p] w fun e w' => e = .returned (.tuple #[.int .i64 0, .nilIface]) ∧ w = w' := by
  go_enter Tryd.func99, Tryd.ntmps99
  go_wp2
  go_ret2
  exact ⟨rfl, rfl⟩

/-! a digit -/
def digC (c : Nat) : Bool := decide (48 ≤ c) && decide (c ≤ 57)
def digSame (n : Nat) : Bool := decide (codeS (n : Int) < 0) || (digOk (codeS (n : Int)) == digC n)
theorem digSame_all : ∀ n : Fin 256, digSame n.val = true := by decide +kernel
theorem digOk_code (c : Nat) (h : c ≤ 255) (h0 : ¬ codeS (c : Int) < 0) : digOk (codeS (c : Int)) = digC c := by
  have hh := digSame_all ⟨c, by omega⟩
  unfold digSame at hh
  rw [decide_eq_false h0] at hh
  simpa using hh

/-- what a key of a column for digits answers -/
def numV (T : ByteArray) : Int := if codeS (headC T) < 0 then 0 else if digC (headC T) then codeS (headC T) else 0
def numE (T : ByteArray) (aF aS : Addr) : Value := if codeS (headC T) < 0 then errV aF else if digC (headC T) then .nilIface else errV aS

set_option maxHeartbeats 1000000 in
theorem numeric_any (T : ByteArray) (b : Nat) (w : World) (hT : 0 < T.size) (hs : T.size ≤ 1048576) (hc : w.cell? ⟨b, 0, none⟩ = some (.string T)) (hf : w.frozen? ⟨b, 0, none⟩ = false) {aF aS : Addr} (S : Sent w 4 aF) (S2 : Sent w 1 aS) (hb : 4 < b) (hb2 : 1 < b) :
    Calls Tryd.prog 97 #[.pointer (some ⟨b, 0, none⟩)] w fun e w' => e = .returned (.tuple #[.int .i64 (numV T), numE T aF aS]) ∧ ∃ q, (w.setCell ⟨b, 0, none⟩ (.string (restT T))).drewN q = w' := by
  have hS := strike_any T b 0 w hT hs hc hf S hb
  have hD := fun W => digitOf_any (codeS (headC T)) W
  have hd := digOk_code (headC T) (headC_lt T)
  have hL := S2.1
  have hL2 : ∀ q, ((w.setCell ⟨b, 0, none⟩ (.string (restT T))).drewN q).cell? ⟨1, 0, none⟩ = some (.iface 182 (.pointer (some aS))) := fun q => by
    rw [World.cell?_drewN, World.cell?_setCell_other _ _ _ _ (by intro e; injection e with e; omega)]; exact hL
  unfold strikeV strikeE at hS
  unfold numV numE
  unfold errV at hS ⊢
  obtain ⟨R, hR⟩ : ∃ R, restT T = R := ⟨_, rfl⟩
  rw [hR] at hS hL2 ⊢
  clear hc hf S S2 hL hR
  by_cases hneg : codeS (headC T) < 0
  · rw [if_pos hneg, if_pos hneg] at hS
    rw [if_pos hneg, if_pos hneg]
    have hn : ∀ (w : World), (binOp .neq 64 (.iface 182 (.pointer (some aF))) .nilIface).run Tryd.prog w = .ok (.bool true) w := fun w => run_neq_iface_nil w 64 (by kernel_rfl) _ _
    have HS := Lib.hid hS
    clear hS hD hd hL2
    go_enter Tryd.func97, Tryd.ntmps97
    go_wp2_with (go_at_call 117; refine HS.out.mono ?_; rintro e w' ⟨rfl, q, rfl⟩)
    go_ret2
    exact ⟨rfl, q, rfl⟩
  · rw [if_neg hneg, if_neg hneg] at hS
    rw [if_neg hneg, if_neg hneg]
    rw [hd hneg] at hD
    obtain ⟨m, hm⟩ : ∃ m, codeS (headC T) = m := ⟨_, rfl⟩
    rw [hm] at hS hD ⊢
    have HS := Lib.hid hS
    clear hm hd hS
    cases hdc : digC (headC T)
    · rw [hdc] at hD
      have HD := Lib.hid hD
      clear hD hdc
      go_enter Tryd.func97, Tryd.ntmps97
      go_wp2_with (first | (go_at_call 117; refine HS.out.mono ?_; rintro e w' ⟨rfl, q, rfl⟩) | (go_at_call 118; refine (HD.out _).mono ?_; rintro e w' ⟨rfl, rfl⟩))
      go_quiet (fail)
      go_wp2
      go_ret2
      exact ⟨rfl, q + nq, rfl⟩
    · rw [hdc] at hD
      have HD := Lib.hid hD
      clear hD hdc hL2
      go_enter Tryd.func97, Tryd.ntmps97
      go_wp2_with (first | (go_at_call 117; refine HS.out.mono ?_; rintro e w' ⟨rfl, q, rfl⟩) | (go_at_call 118; refine (HD.out _).mono ?_; rintro e w' ⟨rfl, rfl⟩))
      go_ret2
      exact ⟨rfl, q, rfl⟩

set_option maxHeartbeats 1000000 in
theorem duplicate_any (b B : Nat) (A G : Option Addr) (c c' k : Nat) (xs : List Int) (w : World) (h1 : w.cell? ⟨b, 1, none⟩ = some (.slice A xs.length c)) (h2 : w.cell? ⟨b, 2, none⟩ = some (.slice G k c')) (h : Ints w B A xs) (hk : k < xs.length) (hn : xs.length ≤ 1048576) :
    Calls Tryd.prog 98 #[.pointer (some ⟨b, 0, none⟩)] w fun e w' => e = .returned (.tuple #[.int .i64 (xs[k]?.getD 0), .nilIface]) ∧ ∃ q, w' = w.drewN q := by
  obtain ⟨g, off, rfl, hb, hcell⟩ := h (by omega)
  have hx := hcell k hk
  obtain ⟨x, hxx⟩ : ∃ x, xs[k]?.getD 0 = x := ⟨_, rfl⟩
  rw [hxx] at hx ⊢
  have hk0 : (0 : Int) ≤ (k : Int) := Int.natCast_nonneg _
  have hk1 : (k : Int) < (xs.length : Int) := by omega
  clear hcell h hxx
  go_enter Tryd.func98, Tryd.ntmps98
  go_wp2
  go_quiet (fail)
  go_wp2
  go_ret2
  exact ⟨rfl, nq, rfl⟩
end Go.Proofs.YtjlgfgekiekenaaDoor
