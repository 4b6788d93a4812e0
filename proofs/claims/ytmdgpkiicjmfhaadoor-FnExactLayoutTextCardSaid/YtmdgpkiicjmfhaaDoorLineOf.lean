/- impl.lineOf of two and of three words: contracts. -/
import Derived.Test.YtmdgpkiicjmfhaaDoorMem
import Derived.Test.YtmdgpkiicjmfhaaDoorJoinB
import Derived.Test.YtmdgpkiicjmfhaaDoorShelf
namespace Go.Proofs.YtmdgpkiicjmfhaaDoor
open Go.ChangeShapes Go.WideShapes Go.ChangeAt Go.RowKit

theorem lineOf_any (g n : Nat) (ws : List ByteArray) (w : World) (hn : ws.length = n) (hc : ∀ (j : Nat) x, ws[j]? = some x → w.cell? ⟨g, 0 + j, none⟩ = some (.string x)) (hg : g < w.heap.size) (hl : n ≤ 64) (hz : (joinB ws).size ≤ 1099511627776) :
    Calls Tryd.prog 30 #[.slice (some ⟨g, 0, none⟩) n n] w fun e w' => e = .returned (.string (joinB ws ++ ⟨#[10]⟩)) ∧ Below w.heap.size w w' := by
  have hj : Calls Tryd.prog 56 #[.slice (some ⟨g, 0, none⟩) n n, .string ⟨#[32]⟩] w fun e w' => e = .returned (.string (joinB ws)) ∧ Below w.heap.size w w' := by
    have := Tryd.strings_Join g 0 n ws ⟨#[32]⟩ w hc hg (by omega) (by omega) (by
      have e : (joinB ws).size = (Lib.join (ws.map (·.data.toList)) (ByteArray.mk #[32]).data.toList).length := by
        show (Lib.join (ws.map (·.data.toList)) (ByteArray.mk #[32]).data.toList).toArray.size = _
        rw [List.size_toArray]
      rw [← e]
      omega)
    rw [hn] at this
    exact this
  obtain ⟨T, hT⟩ : ∃ T, joinB ws = T := ⟨_, rfl⟩
  rw [hT] at hj hz ⊢
  have HJ := Lib.hid hj
  have s1 : ¬ 9223372036854775807 < T.size + 1 := by omega
  clear hj hT hc hn hl hg
  go_enter Tryd.func30, Tryd.ntmps30
  go_wp2_with fail
  refine HJ.out.mono ?_
  rintro e w1 ⟨rfl, hb⟩
  have B1 := Lib.hid hb
  clear hb
  go_wp2
  go_ret
  exact ⟨rfl, B1.out⟩

theorem line2_any (g : Nat) (a b : ByteArray) (w : World) (h0 : w.cell? ⟨g, 0, none⟩ = some (.string a)) (h1 : w.cell? ⟨g, 1, none⟩ = some (.string b)) (ha : a.size ≤ 2097152) (hb : b.size ≤ 2097152) :
    Calls Tryd.prog 30 #[.slice (some ⟨g, 0, none⟩) 2 2] w fun e w' => e = .returned (.string (a ++ ⟨#[32]⟩ ++ b ++ ⟨#[10]⟩)) ∧ Below w.heap.size w w' := by
  have e : joinB [a, b] = a ++ ⟨#[32]⟩ ++ b := by
    have := joinB_snoc [a] b (by simp)
    rwa [joinB_one] at this
  have t : (⟨#[32]⟩ : ByteArray).size = 1 := rfl
  have := lineOf_any g 2 [a, b] w rfl (fun j x hx => by
    match j, hx with
    | 0, hx => obtain rfl : a = x := by simpa using hx
               exact h0
    | 1, hx => obtain rfl : b = x := by simpa using hx
               exact h1) (World.block_lt_of_cell? _ _ h0) (by omega) (by rw [e]; simp only [ByteArray.size_append]; omega)
  rwa [e] at this

theorem line3_any (g : Nat) (a b c : ByteArray) (w : World) (h0 : w.cell? ⟨g, 0, none⟩ = some (.string a)) (h1 : w.cell? ⟨g, 1, none⟩ = some (.string b)) (h2 : w.cell? ⟨g, 2, none⟩ = some (.string c)) (ha : a.size ≤ 2097152) (hb : b.size ≤ 2097152) (hc : c.size ≤ 2097152) :
    Calls Tryd.prog 30 #[.slice (some ⟨g, 0, none⟩) 3 3] w fun e w' => e = .returned (.string (a ++ ⟨#[32]⟩ ++ b ++ ⟨#[32]⟩ ++ c ++ ⟨#[10]⟩)) ∧ Below w.heap.size w w' := by
  have e : joinB [a, b, c] = a ++ ⟨#[32]⟩ ++ b ++ ⟨#[32]⟩ ++ c := by
    have e1 := joinB_snoc [a] b (by simp)
    have e2 := joinB_snoc [a, b] c (by simp)
    rw [joinB_one] at e1
    simp only [List.cons_append, List.nil_append] at e1 e2
    rw [e2, e1]
  have t : (⟨#[32]⟩ : ByteArray).size = 1 := rfl
  have := lineOf_any g 3 [a, b, c] w rfl (fun j x hx => by
    match j, hx with
    | 0, hx => obtain rfl : a = x := by simpa using hx
               exact h0
    | 1, hx => obtain rfl : b = x := by simpa using hx
               exact h1
    | 2, hx => obtain rfl : c = x := by simpa using hx
               exact h2) (World.block_lt_of_cell? _ _ h0) (by omega) (by rw [e]; simp only [ByteArray.size_append]; omega)
  rwa [e] at this
end Go.Proofs.YtmdgpkiicjmfhaaDoor
