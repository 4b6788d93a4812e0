/- impl's method nearest and impl.RepairColumn, for every number: contracts, in worlds whose table of places holds what the program's text lays in it. -/
import Derived.Test.YthkfdfocghmmeabDoorRanked
namespace Go.Proofs.YthkfdfocghmmeabDoor
open Go.ChangeShapes Go.WideShapes Go.ChangeAt Go.RowKit

theorem ranked_get (k : Nat) (h : k < 40) : rankedA[k]? = some (.int .u8 (charR k)) := by
  simp [rankedA, h]

theorem nearest_any (m : Int) (hm : 0 ≤ m ∧ m ≤ 4095) (w : World) (hp : Places w) :
    Calls Tryd.prog 32 #[.int .i64 m] w fun e w' => e = .returned (.int .u8 (charR (nearK m))) ∧ Below w.heap.size w w' := by
  have H1 := Lib.hid (byRank_any w hp)
  have HM := Lib.hid hm
  have hmf : ∀ (fn : Fn) (first cap : Array Value) (W : World), (Instr.makeFunc fn first cap).run Tryd.prog W = .ok (.func fn first cap) W := fun _ _ _ _ => rfl
  have hi40 : (Tryd.prog.info? 79).map (·.size) = some rankedA.size := by rw [ranked_size]; exact info_arr
  have hone : rankedA.all (·.oneCell') = true := by simp [rankedA, Value.oneCell']
  have HI := Lib.hid hi40
  have HO := Lib.hid hone
  clear hp hm hi40 hone
  go_enter Tryd.func32, Tryd.ntmps32
  go_wp2_with fail
  refine H1.out.mono ?_
  rintro e w1 ⟨rfl, hb⟩
  have B1 := Lib.hid hb
  clear hb H1
  go_wp2_with (refine wpList_store_row rfl 79 (.tmp 3) (.tmp 4) rfl w1.heap.size rankedA rfl rfl _ _ (heap_alloc_new w1 _) HI.out (by rw [ranked_size]; rfl) HO.out ?_)
  have hrow := setRow_heap _ _ _ rankedA _ _ (heap_alloc_new w1 (.cells #[Value.int .u8 0, Value.int .u8 0, Value.int .u8 0, Value.int .u8 0, Value.int .u8 0, Value.int .u8 0, Value.int .u8 0, Value.int .u8 0, Value.int .u8 0, Value.int .u8 0, Value.int .u8 0, Value.int .u8 0, Value.int .u8 0, Value.int .u8 0, Value.int .u8 0, Value.int .u8 0, Value.int .u8 0, Value.int .u8 0, Value.int .u8 0, Value.int .u8 0, Value.int .u8 0, Value.int .u8 0, Value.int .u8 0, Value.int .u8 0, Value.int .u8 0, Value.int .u8 0, Value.int .u8 0, Value.int .u8 0, Value.int .u8 0, Value.int .u8 0, Value.int .u8 0, Value.int .u8 0, Value.int .u8 0, Value.int .u8 0, Value.int .u8 0, Value.int .u8 0, Value.int .u8 0, Value.int .u8 0, Value.int .u8 0, Value.int .u8 0] 79))
  have hb2 : Below w1.heap.size w1 ((w1.alloc (.cells #[Value.int .u8 0, Value.int .u8 0, Value.int .u8 0, Value.int .u8 0, Value.int .u8 0, Value.int .u8 0, Value.int .u8 0, Value.int .u8 0, Value.int .u8 0, Value.int .u8 0, Value.int .u8 0, Value.int .u8 0, Value.int .u8 0, Value.int .u8 0, Value.int .u8 0, Value.int .u8 0, Value.int .u8 0, Value.int .u8 0, Value.int .u8 0, Value.int .u8 0, Value.int .u8 0, Value.int .u8 0, Value.int .u8 0, Value.int .u8 0, Value.int .u8 0, Value.int .u8 0, Value.int .u8 0, Value.int .u8 0, Value.int .u8 0, Value.int .u8 0, Value.int .u8 0, Value.int .u8 0, Value.int .u8 0, Value.int .u8 0, Value.int .u8 0, Value.int .u8 0, Value.int .u8 0, Value.int .u8 0, Value.int .u8 0, Value.int .u8 0] 79)).setRow w1.heap.size rankedA) := below_setRow (below_box w1 _) (Nat.le_refl _) _
  have B2 := Lib.hid (below_step B1.out hb2)
  generalize (w1.alloc (.cells #[Value.int .u8 0, Value.int .u8 0, Value.int .u8 0, Value.int .u8 0, Value.int .u8 0, Value.int .u8 0, Value.int .u8 0, Value.int .u8 0, Value.int .u8 0, Value.int .u8 0, Value.int .u8 0, Value.int .u8 0, Value.int .u8 0, Value.int .u8 0, Value.int .u8 0, Value.int .u8 0, Value.int .u8 0, Value.int .u8 0, Value.int .u8 0, Value.int .u8 0, Value.int .u8 0, Value.int .u8 0, Value.int .u8 0, Value.int .u8 0, Value.int .u8 0, Value.int .u8 0, Value.int .u8 0, Value.int .u8 0, Value.int .u8 0, Value.int .u8 0, Value.int .u8 0, Value.int .u8 0, Value.int .u8 0, Value.int .u8 0, Value.int .u8 0, Value.int .u8 0, Value.int .u8 0, Value.int .u8 0, Value.int .u8 0, Value.int .u8 0] 79)).setRow w1.heap.size rankedA = w2 at *
  have hcell : ∀ k, k < 40 → w2.cell? ⟨w1.heap.size, k, none⟩ = some (.int .u8 (charR k)) := fun k hk => by
    rw [cell_of_row w2 w1.heap.size k _ _ _ hrow]
    exact ranked_get k hk
  refine (minFunc_any m HM.out w1.heap.size w2 hcell).mono ?_
  rintro e w3 ⟨rfl, rfl⟩
  clear hcell hrow hb2
  go_wp2
  go_ret
  exact ⟨rfl, B2.out⟩

theorem implRepairColumn_any (m : Int) (w : World) (hp : Places w) :
    Calls Tryd.prog 16 #[.int .i64 m] w fun e w' => e = .returned (.tuple #[.int .u8 (if inB m 0 4095 = true then charR (nearK m) else 0), .int .i64 (if inB m 0 4095 = true then (df m (codeS (charR (nearK m))) : Int) else 0), .int .i64 (if inB m 0 4095 = true then 0 else 2)]) ∧ Below w.heap.size w w' := by
  have hi := fun W => isMask_any m W
  cases hin : inB m 0 4095
  · rw [hin] at hi
    rw [if_neg (by decide), if_neg (by decide), if_neg (by decide)]
    have HI := Lib.hid hi
    clear hi hin hp
    go_enter Tryd.func16, Tryd.ntmps16
    go_wp2_with (go_at_call 39; refine (HI.out _).mono ?_; rintro e w' ⟨rfl, rfl⟩)
    refine bodyPost_ret (v := .tuple #[.int .u8 0, .int .i64 0, .int .i64 2]) (by simp [results, Tryd.results16, go_sem]) rfl ⟨rfl, Below.refl _ _⟩
  · have hm : 0 ≤ m ∧ m ≤ 4095 := by simpa [inB] using hin
    have hr := nearest_any m hm w hp
    have hd := fun W => distToChar_any m hm (nearK m) (nearK_lt m) W
    rw [hin] at hi
    rw [if_pos rfl, if_pos rfl, if_pos rfl]
    obtain ⟨a, ha⟩ : ∃ a, charR (nearK m) = a := ⟨_, rfl⟩
    rw [ha] at hr hd ⊢
    obtain ⟨d, hdd⟩ : ∃ d, df m (codeS a) = d := ⟨_, rfl⟩
    rw [hdd] at hd ⊢
    have HI := Lib.hid hi
    have HR := Lib.hid hr
    have HD := Lib.hid hd
    clear hi hin hr ha hd hdd hm hp
    go_enter Tryd.func16, Tryd.ntmps16
    go_wp2_with (first | (go_at_call 39; refine (HI.out _).mono ?_; rintro e w' ⟨rfl, rfl⟩) | fail)
    refine HR.out.mono ?_
    rintro e w1 ⟨rfl, hb⟩
    have B1 := Lib.hid hb
    clear hb HR
    go_wp2_with (go_at_call 40; refine (HD.out _).mono ?_; rintro e w' ⟨rfl, rfl⟩)
    refine bodyPost_ret (v := .tuple #[.int .u8 a, .int .i64 d, .int .i64 0]) (by simp [results, Tryd.results16, go_sem]) rfl ⟨rfl, B1.out⟩
end Go.Proofs.YthkfdfocghmmeabDoor
