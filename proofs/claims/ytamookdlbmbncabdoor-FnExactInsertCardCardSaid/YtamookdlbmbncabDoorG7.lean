/- impl.merge at entries: the merged list holds the cards of both, in order: a contract. -/
import Derived.Test.YtamookdlbmbncabDoorWhere
import Derived.Test.YtamookdlbmbncabDoorG3
import Derived.Test.YtamookdlbmbncabDoorG5
import Derived.Test.YtamookdlbmbncabDoorStepOwn
import Derived.Deep.RegionHeld3
import Derived.Deep.DeepCutAuto
namespace Go.Proofs.YtamookdlbmbncabDoor
open Go.ChangeShapes Go.WideShapes Go.ChangeAt Go.RowKit

/-- the entries at address A, in a block below B: cards E with the keys K -/
def EAt (w : World) (B : Nat) (A : Option Addr) (E K : List CardV) : Prop :=
  ∃ b off, A = some ⟨b, off, none⟩ ∧ (0 < E.length → b < B) ∧ ∀ (k : Nat) (e q : CardV), E[k]? = some e → K[k]? = some q → w.cell? ⟨b, off + k * 2, none⟩ = some e.value ∧ w.cell? ⟨b, off + k * 2 + 1, none⟩ = some q.value
/-- each key has the ranks of its card's field, in memory -/
structure Keyed (w : World) (i j : Nat) (E K : List CardV) : Prop where
  len : K.length = E.length
  each : ∀ (k : Nat) (e q : CardV), E[k]? = some e → K[k]? = some q → q.xs = (partOf e.xs i j).map rkI ∧ (partOf e.xs i j).length = j - i ∧ ∃ gq ex, q.at_ = some ⟨gq, 0, none⟩ ∧ Row w gq q.xs ex
section
variable {w w' : World} {i j B : Nat} {A : Option Addr} {E K : List CardV}
theorem EAt.below (h : EAt w B A E K) (hb : Below B w w') : EAt w' B A E K := by
  obtain ⟨b, off, rfl, h1, h2⟩ := h
  refine ⟨b, off, rfl, h1, fun k e q he hq => ?_⟩
  obtain ⟨c1, c2⟩ := h2 k e q he hq
  have hlt := h1 (by have := (List.getElem?_eq_some_iff.1 he).1; omega)
  exact ⟨(hb.cell (p := ⟨b, off + k * 2, none⟩) hlt).trans c1, (hb.cell (p := ⟨b, off + k * 2 + 1, none⟩) hlt).trans c2⟩
theorem EAt.more (h : EAt w B A E K) {B' : Nat} (hB : B ≤ B') : EAt w B' A E K := by
  obtain ⟨b, off, rfl, h1, h2⟩ := h
  exact ⟨b, off, rfl, fun h0 => Nat.lt_of_lt_of_le (h1 h0) hB, h2⟩
theorem Keyed.later (h : Keyed w i j E K) (hb : Below w.heap.size w w') : Keyed w' i j E K :=
  ⟨h.len, fun k e q he hq => by
    obtain ⟨x1, x2, gq, ex, a1, r1⟩ := h.each k e q he hq
    exact ⟨x1, x2, gq, ex, a1, r1.later hb⟩⟩
theorem ents_at {D : List CardV} {n g lo : Nat} (hO : EntsOf D i j n E K) (h : Ents w lo g E K n) : EAt w w.heap.size (some ⟨g, 0, none⟩) E K ∧ Keyed w i j E K := by
  refine ⟨⟨g, 0, rfl, fun _ => h.lt, fun k e q he hq => ?_⟩, by rw [hO.lenE, hO.lenK], fun k e q he hq => ?_⟩
  · have hk := (List.getElem?_eq_some_iff.1 he).1
    rw [Nat.zero_add]
    exact ⟨h.card (by rw [hO.lenE, hO.lenK]; omega) he, h.key hk hq⟩
  · obtain ⟨d, e', q', _, he', hq', x1, x2, x3, _⟩ := hO.at_ (k := k) (by have := (List.getElem?_eq_some_iff.1 he).1; rw [hO.lenE] at this; exact this)
    obtain rfl : e = e' := Option.some.inj (he.symm.trans he')
    obtain rfl : q = q' := Option.some.inj (hq.symm.trans hq')
    rw [x1]
    obtain ⟨gq, ex, a1, r1⟩ := h.keys q (List.mem_of_getElem? hq)
    exact ⟨x2, x3, gq, ex, a1, r1⟩
end
/-- the cells of entries -/
def enCells (E K : List CardV) : List Value := (mixL E K).map CardV.value
theorem mixL_append : ∀ (E K F L : List CardV), E.length = K.length → mixL (E ++ F) (K ++ L) = mixL E K ++ mixL F L
  | [], [], F, L, _ => by simp [mixL_nil]
  | [], k :: K, F, L, h => by simp at h
  | e :: E, [], F, L, h => by simp at h
  | e :: E, k :: K, F, L, h => by
    have := mixL_append E K F L (by simpa using h)
    simp only [List.cons_append, mixL, this]
theorem enCells_append {E K F L : List CardV} (h : E.length = K.length) : enCells (E ++ F) (K ++ L) = enCells E K ++ enCells F L := by
  unfold enCells
  rw [mixL_append E K F L h, List.map_append]
theorem enCells_one (e q : CardV) : enCells [e] [q] = [e.value, q.value] := rfl
theorem enCells_len {E K : List CardV} (h : E.length = K.length) : (enCells E K).length = E.length * 2 := by
  unfold enCells
  rw [List.length_map, mixL_length E K (by omega), Nat.mul_comm]
theorem en_one (E K : List CardV) : ∀ u ∈ enCells E K, u.oneCell' = true := by
  intro u hu
  obtain ⟨d, _, rfl⟩ := List.mem_map.1 hu
  rfl
theorem en_news (W : World) (x y : Value) : ∀ j u, [x, y][j]? = some u → (W.alloc (.cells #[x, y] 68)).cell? ((⟨W.heap.size, 0, none⟩ : Addr).add j) = some u := by
  intro j u hj
  match j, hj with
  | 0, hj => simp at hj; subst hj; simp [Addr.add]
  | 1, hj => simp at hj; subst hj; simp [Addr.add]
theorem en_cell {E K : List CardV} (h : E.length = K.length) {k : Nat} {e q : CardV} (he : E[k]? = some e) (hq : K[k]? = some q) : (enCells E K)[k * 2]? = some e.value ∧ (enCells E K)[k * 2 + 1]? = some q.value := by
  have hk := (List.getElem?_eq_some_iff.1 he).1
  unfold enCells
  rw [List.getElem?_map, List.getElem?_map, mixL_card E K k e (by omega) he, mixL_key E K k q hk hq]
  exact ⟨rfl, rfl⟩
/-- what an append of entries leaves -/
theorem own_ents {w w' W : World} {base B : Nat} {v v' : Value} {E K F L : List CardV} {ob : Obj} (hl : E.length = K.length)
    (hown : w'.ownsRow base 68 2 v' (E.length + F.length) (enCells E K ++ enCells F L)) (hgrow : (w.alloc ob).grownBy w' v.ownBlock)
    (hold : w.ownsRow base 68 2 v E.length (enCells E K)) (hb : Below B W w) (hB : B ≤ base) (hs : B ≤ w.heap.size) :
    w'.ownsRow base 68 2 v' (E ++ F).length (enCells (E ++ F) (K ++ L)) ∧ Below B W w' := by
  refine ⟨by rw [enCells_append hl, List.length_append]; exact hown, ?_⟩
  exact (hb.alloc hs _).grown hgrow (by simp; omega) (fun k hk => Nat.le_trans hB (hold.lt k hk).1)
/-- an owned row of entries -/
theorem own_eat {w : World} {base : Nat} {v : Value} {E K : List CardV} (h : w.ownsRow base 68 2 v E.length (enCells E K)) (hl : E.length = K.length) : (v = .slice none 0 0 ∧ E = []) ∨ ∃ A cap, v = .slice A E.length cap ∧ EAt w w.heap.size A E K := by
  rcases h.2 with ⟨hv, h0⟩ | ⟨g, cap, cur, hv, hb, hh, _, _, _, ht⟩
  · exact Or.inl ⟨hv, List.eq_nil_of_length_eq_zero h0⟩
  · refine Or.inr ⟨_, cap, hv, g, 0, rfl, fun _ => ?_, fun k e q he hq => ?_⟩
    · rcases Nat.lt_or_ge g w.heap.size with h | h
      · exact h
      · rw [Array.getElem?_eq_none h] at hh
        cases hh
    · obtain ⟨c1, c2⟩ := en_cell hl he hq
      have hk := (List.getElem?_eq_some_iff.1 he).1
      have hc : ∀ m u, m < E.length * 2 → (enCells E K)[m]? = some u → w.cell? ⟨g, m, none⟩ = some u := fun m u hm hu => by
        rw [cell_of_row w g m _ _ _ hh]
        rw [← ht, List.getElem?_take_of_lt hm] at hu
        simpa using hu
      rw [Nat.zero_add]
      exact ⟨hc _ _ (by omega) c1, hc _ _ (by omega) c2⟩

/-- a block of two cells is not that of a row of more entries -/
theorem own_not_box {w : World} {base n q : Nat} {v x y : Value} {xs : List Value} (h : w.ownsRow base 68 2 v n xs) (hq : w.heap[q]? = some (.cells #[x, y] 68 (0, 0))) (hn : 2 ≤ n) : v.ownBlock ≠ some q := by
  rcases h.2 with ⟨rfl, h0⟩ | ⟨g, cap, cur, rfl, _, hh, hc, _, hs, _⟩
  · omega
  · intro e
    have e1 : g = q := by simpa [Value.ownBlock] using e
    subst e1
    rw [hq] at hh
    have e2 := Option.some.inj hh
    injection e2 with e2 _ _
    have e3 : cur.size = 2 := by rw [← e2]; rfl
    omega
theorem own_from {w : World} {base n q : Nat} {v : Value} {xs : List Value} (h : w.ownsRow base 68 2 v n xs) (hq : q < base) : v.ownBlock ≠ some q := by
  rcases h.2 with ⟨rfl, _⟩ | ⟨g, cap, cur, rfl, hb, _⟩
  · intro e; simp [Value.ownBlock] at e
  · intro e
    have e1 : g = q := by simpa [Value.ownBlock] using e
    omega
theorem own_under {w : World} {base n : Nat} {v : Value} {xs : List Value} (h : w.ownsRow base 68 2 v n xs) : v.ownBlock ≠ some w.heap.size := by
  rcases h.2 with ⟨rfl, _⟩ | ⟨g, cap, cur, rfl, _, hh, _⟩
  · intro e; simp [Value.ownBlock] at e
  · intro e
    have e1 : g = w.heap.size := by simpa [Value.ownBlock] using e
    subst e1
    rw [Array.getElem?_eq_none (Nat.le_refl _)] at hh
    cases hh
/-- the state of a merge: what has been taken, and what is to come -/
structure Merging (w wr : World) (i j : Nat) (EA KA EB KB : List CardV) (p t : Nat) (Ap : Option Addr) (v : Value) (E K : List CardV) (M : List (List Int)) : Prop where
  a : EAt wr w.heap.size Ap (EA.drop p) (KA.drop p)
  row : wr.ownsRow w.heap.size 68 2 v E.length (enCells E K)
  len : E.length = p + t ∧ K.length = p + t
  out : holes E ++ mg i j ((holes EA).drop p) ((holes EB).drop t) = M
  perm : E.Perm (EA.take p ++ EB.take t)
  world : Below w.heap.size w wr
  none : E.length = 0 → v = .slice none 0 0
theorem Merging.later {w wr w' : World} {i j : Nat} {EA KA EB KB : List CardV} {p t : Nat} {Ap : Option Addr} {v : Value} {E K : List CardV} {M : List (List Int)} (h : Merging w wr i j EA KA EB KB p t Ap v E K M) (hb : Below wr.heap.size wr w') : Merging w w' i j EA KA EB KB p t Ap v E K M :=
  ⟨h.a.below (hb.mono h.world.size), own_moved h.row (fun i _ hi => hb.block i hi), h.len, h.out, h.perm, below_step h.world hb, h.none⟩
/-- one card of the first list is taken -/
theorem Merging.takeA {w wr w9 : World} {i j : Nat} {EA KA EB KB : List CardV} {p t : Nat} {Ap Aq : Option Addr} {v v' : Value} {E K : List CardV} {M : List (List Int)} {e q : CardV} (h : Merging w wr i j EA KA EB KB p t Ap v E K M)
    (he : EA[p]? = some e) (_ : KA[p]? = some q) (hout : mg i j ((holes EA).drop p) ((holes EB).drop t) = e.xs :: mg i j ((holes EA).drop (p + 1)) ((holes EB).drop t))
    (ha : EAt w9 w.heap.size Aq (EA.drop (p + 1)) (KA.drop (p + 1))) (hr : w9.ownsRow w.heap.size 68 2 v' (E ++ [e]).length (enCells (E ++ [e]) (K ++ [q]))) (hb : Below w.heap.size w w9) : Merging w w9 i j EA KA EB KB (p + 1) t Aq v' (E ++ [e]) (K ++ [q]) M where
  a := ha
  row := hr
  len := by
    have := h.len
    simp only [List.length_append, List.length_cons, List.length_nil]
    omega
  out := by
    rw [← h.out, hout]
    simp [holes]
  perm := by
    rw [List.take_add_one, he, List.append_assoc]
    refine (h.perm.append_right [e]).trans ?_
    rw [List.append_assoc]
    exact List.Perm.append_left _ List.perm_append_comm
  world := hb
  none := fun h => by simp at h
theorem Merging.takeB {w wr w9 : World} {i j : Nat} {EA KA EB KB : List CardV} {p t : Nat} {Ap : Option Addr} {v v' : Value} {E K : List CardV} {M : List (List Int)} {e q : CardV} (h : Merging w wr i j EA KA EB KB p t Ap v E K M)
    (he : EB[t]? = some e) (hout : mg i j ((holes EA).drop p) ((holes EB).drop t) = e.xs :: mg i j ((holes EA).drop p) ((holes EB).drop (t + 1)))
    (ha : EAt w9 w.heap.size Ap (EA.drop p) (KA.drop p)) (hr : w9.ownsRow w.heap.size 68 2 v' (E ++ [e]).length (enCells (E ++ [e]) (K ++ [q]))) (hb : Below w.heap.size w w9) : Merging w w9 i j EA KA EB KB p (t + 1) Ap v' (E ++ [e]) (K ++ [q]) M where
  a := ha
  row := hr
  len := by
    have := h.len
    simp only [List.length_append, List.length_cons, List.length_nil]
    omega
  out := by
    rw [← h.out, hout]
    simp [holes]
  perm := by
    rw [List.take_add_one, he, ← List.append_assoc]
    exact h.perm.append_right [e]
  world := hb
  none := fun h => by simp at h
theorem drop_cons {H : List (List Int)} {p : Nat} {x : List Int} (h : H[p]? = some x) : H.drop p = x :: H.drop (p + 1) := by
  obtain ⟨hp, e⟩ := List.getElem?_eq_some_iff.1 h
  rw [List.drop_eq_getElem_cons hp, e]
end Go.Proofs.YtamookdlbmbncabDoor

/- impl.merge at entries: the merged list holds the cards of both, in order: the walk. -/
namespace Go.Proofs.YtamookdlbmbncabDoor
open Go.ChangeShapes Go.WideShapes Go.ChangeAt Go.RowKit

def sliceLen : Value → Nat
  | .slice _ n _ => n
  | _ => 0
theorem EAt.tail {w : World} {B b o r : Nat} {E K : List CardV} (h : EAt w B (some ⟨b, o, none⟩) E K) (hr : E.length = r + 1) : EAt w B (some ⟨b, (if r = 0 then o else o + 2), none⟩) (E.drop 1) (K.drop 1) := by
  obtain ⟨b', o', e, h1, h2⟩ := h
  obtain ⟨rfl, rfl⟩ : b = b' ∧ o = o' := by injection e with e; injection e with x1 x2; exact ⟨x1, x2⟩
  refine ⟨b, _, rfl, fun h0 => h1 (by omega), fun k e q he hq => ?_⟩
  have hk := (List.getElem?_eq_some_iff.1 he).1
  rw [List.length_drop, hr] at hk
  rw [if_neg (by omega)]
  rw [List.getElem?_drop] at he hq
  obtain ⟨c1, c2⟩ := h2 (1 + k) e q he hq
  rw [show o + (1 + k) * 2 = o + 2 + k * 2 by omega] at c1 c2
  exact ⟨c1, c2⟩
theorem box_cells {w : World} {q : Nat} {x y : Value} (h : w.heap[q]? = some (.cells #[x, y] 68 (0, 0))) : w.cell? ⟨q, 0, none⟩ = some x ∧ w.cell? ⟨q, 1, none⟩ = some y := by
  constructor <;> simp [World.cell?, h]
theorem own_start {w8 : World} {base q : Nat} {v : Value} {E K : List CardV} (h : w8.ownsRow base 68 2 v E.length (enCells E K)) (hn : E.length = 0 → v = .slice none 0 0) (hb : base ≤ w8.heap.size) (hq : q < w8.heap.size) :
    ∃ bs, base ≤ bs ∧ bs ≤ w8.heap.size ∧ w8.ownsRow bs 68 2 v E.length (enCells E K) ∧ (E.length = 0 → q < bs) := by
  by_cases h0 : E.length = 0
  · refine ⟨w8.heap.size, hb, Nat.le_refl _, ?_, fun _ => hq⟩
    have hE : E = [] := List.eq_nil_of_length_eq_zero h0
    rw [hn h0]
    subst hE
    have e : enCells [] K = [] := by unfold enCells; rw [mixL_nil]; rfl
    rw [e]
    exact World.ownsRow_nil _ _ _ _
  · exact ⟨base, Nat.le_refl _, hb, h, fun h => absurd h h0⟩

/-- what stands between two rounds of the inner loop -/
def InnerR (w : World) (i j : Nat) (EA KA EB KB : List CardV) (n t q : Nat) (x y : Value) (M : List (List Int)) (va vm : Value) (wi : World) : Prop :=
  ∃ p r bp op : Nat, ∃ v : Value, ∃ E K : List CardV, p + r = n ∧ va = .slice (some ⟨bp, op, none⟩) r r ∧ v = vm ∧ Hid (Merging w wi i j EA KA EB KB p t (some ⟨bp, op, none⟩) v E K M) ∧ Hid (wi.heap[q]? = some (.cells #[x, y] 68 (0, 0))) ∧ Hid (v.ownBlock ≠ some q) ∧ Hid (q < wi.heap.size)
/-- the merged list -/
def GivesMerged (EA EB : List CardV) (M : List (List Int)) (w : World) (e : Ending) (w' : World) : Prop :=
  ∃ v E K, e = .returned v ∧ Below w.heap.size w w' ∧ holes E = M ∧ E.Perm (EA ++ EB) ∧ E.length = K.length ∧ w'.ownsRow w.heap.size 68 2 v E.length (enCells E K)

set_option maxRecDepth 100000 in
set_option maxHeartbeats 8000000 in
theorem merge_any (i j : Nat) (b1 o1 : Nat) (AB : Option Addr) (EA KA EB KB : List CardV) (n m : Nat) (w : World) (hA : EAt w w.heap.size (some ⟨b1, o1, none⟩) EA KA) (hB : EAt w w.heap.size AB EB KB) (kA : Keyed w i j EA KA) (kB : Keyed w i j EB KB) (hn : EA.length = n) (hm : EB.length = m) (hn40 : n ≤ 40) (hm40 : m ≤ 40) (hij : j - i ≤ 20) :
    Calls Tryd.prog 35 #[.slice (some ⟨b1, o1, none⟩) n n, .slice AB m m, .func (.func 36) #[] #[]] w (GivesMerged EA EB (mg i j (holes EA) (holes EB)) w) := by
  obtain ⟨i0, hi0, hz0, hz1, hz2⟩ := info_parts info_entry
  have HA := Lib.hid hA
  have HB0 := Lib.hid hB
  have KA' := Lib.hid kA
  have KB' := Lib.hid kB
  have HN := Lib.hid hn
  have HM := Lib.hid hm
  obtain ⟨M, hM⟩ : ∃ M, mg i j (holes EA) (holes EB) = M := ⟨_, rfl⟩
  have HMM := Lib.hid hM
  rw [hM]
  clear hA hB kA kB hn hm hM
  go_enter Tryd.func35, Tryd.ntmps35
  go_wp2
  go_loopw [0, 7, 12] (fun va vm vi wr => ∃ p t r bp op : Nat, ∃ v : Value, ∃ E K : List CardV, p + r = n ∧ t ≤ m ∧ va = .slice (some ⟨bp, op, none⟩) r r ∧ v = vm ∧ vi = .int .i64 t ∧ Hid (Merging w wr i j EA KA EB KB p t (some ⟨bp, op, none⟩) v E K M)) (fun _ _ vi _ => m - (intOf vi).toNat)
  case atStart =>
    refine ⟨0, 0, n, b1, o1, _, [], [], by omega, Nat.zero_le _, rfl, rfl, rfl, ⟨HA.out, World.ownsRow_nil _ _ _ _, ⟨rfl, rfl⟩, ?_, List.Perm.refl _, Below.refl _ _, fun _ => rfl⟩⟩
    exact HMM.out
  case round =>
    obtain ⟨p, t, r, bp, op, v, E, K, hpr, ht, rfl, rfl, rfl, HS⟩ := hrel
    by_cases hlt : t < m
    · -- the next one of the second list
      obtain ⟨e2, he2⟩ : ∃ e, EB[t]? = some e := ⟨EB[t]'(by rw [HM.out]; exact hlt), List.getElem?_eq_getElem _⟩
      obtain ⟨q2, hq2⟩ : ∃ q, KB[t]? = some q := ⟨KB[t]'(by rw [KB'.out.len, HM.out]; exact hlt), List.getElem?_eq_getElem _⟩
      have hBr := HB0.out.below HS.out.world
      obtain ⟨bb, ob, rfl, _, hcell⟩ := hBr
      obtain ⟨c1, c2⟩ := hcell t e2 q2 he2 hq2
      obtain ⟨x2, l2, gq2, ex2, a2, r2⟩ := KB'.out.each t e2 q2 he2 hq2
      have hl2 : q2.xs.length = j - i := by rw [x2, List.length_map, l2]
      unfold CardV.value at c1 c2
      rw [hl2, a2] at c2
      obtain ⟨y1, hy1⟩ : ∃ y, e2.at_ = y := ⟨_, rfl⟩
      obtain ⟨y2, hy2⟩ : ∃ y, e2.xs.length = y := ⟨_, rfl⟩
      obtain ⟨y3, hy3⟩ : ∃ y, e2.cap = y := ⟨_, rfl⟩
      obtain ⟨y4, hy4⟩ : ∃ y, q2.cap = y := ⟨_, rfl⟩
      obtain ⟨z, hz⟩ : ∃ z, j - i = z := ⟨_, rfl⟩
      rw [hy1, hy2, hy3] at c1
      rw [hy4, hz] at c2
      have bx := below_box wr (.cells #[.slice y1 y2 y3, .slice (some ⟨gq2, 0, none⟩) z y4] 68)
      have HS1 := Lib.hid (HS.out.later bx)
      have hnb := own_under HS.out.row
      have hbox : (wr.alloc (.cells #[.slice y1 y2 y3, .slice (some ⟨gq2, 0, none⟩) z y4] 68)).heap[wr.heap.size]? = some (.cells #[.slice y1 y2 y3, .slice (some ⟨gq2, 0, none⟩) z y4] 68 (0, 0)) := heap_alloc_new wr _
      have hqlt : wr.heap.size < (wr.alloc (.cells #[.slice y1 y2 y3, .slice (some ⟨gq2, 0, none⟩) z y4] 68)).heap.size := by simp
      have hwq : w.heap.size ≤ wr.heap.size := HS.out.world.size
      have HBOX := Lib.hid hbox
      have HNB := Lib.hid hnb
      have HQ1 := Lib.hid (And.intro hqlt hwq)
      obtain ⟨W1, hW1⟩ : ∃ W1, wr.alloc (.cells #[.slice y1 y2 y3, .slice (some ⟨gq2, 0, none⟩) z y4] 68) = W1 := ⟨_, rfl⟩
      have t0 : (0 : Int) ≤ (t : Int) := Int.natCast_nonneg _
      have t1 : (t : Int) < (m : Int) := by omega
      rw [hW1] at HS1 HBOX HQ1
      obtain ⟨q, hq⟩ : ∃ q, wr.heap.size = q := ⟨_, rfl⟩
      rw [hq] at HNB HBOX HQ1
      have HE2 := Lib.hid he2
      have HX2 := Lib.hid (And.intro x2 (And.intro l2 (And.intro a2 r2)))
      have HV2 := Lib.hid (And.intro hy1 (And.intro hy2 (And.intro hy3 (And.intro hy4 (And.intro hl2 hz)))))
      have HQQ := Lib.hid hq
      have HW := Lib.hid hW1
      clear he2 hq2 hcell x2 l2 a2 r2 hl2 hy1 hy2 hy3 hy4 hz bx hnb hbox hqlt hwq HS hq hW1
      go_wp2_with fail
      try rw [HW.out]
      try rw [HQQ.out]
      clear HQQ HW
      go_loopw [0, 7] (fun va vm wi => InnerR w i j EA KA EB KB n t q (.slice y1 y2 y3) (.slice (some ⟨gq2, 0, none⟩) z y4) M va vm wi) (fun va _ _ => sliceLen va)
      case atStart => exact ⟨p, r, bp, op, _, E, K, hpr, rfl, rfl, HS1, HBOX, HNB, HQ1.out.1⟩
      case round =>
        clear HS1 HBOX HNB HQ1 hpr
        unfold InnerR at hrel
        obtain ⟨p, r, bp, op, v, E, K, hpr, rfl, rfl, HS, HBX, HNB, HQ⟩ := hrel
        have hpn : EA.drop p = [] ∨ ∃ e1 q1, EA[p]? = some e1 ∧ KA[p]? = some q1 := by
          by_cases h : p < n
          · exact Or.inr ⟨EA[p]'(by rw [HN.out]; exact h), KA[p]'(by rw [KA'.out.len, HN.out]; exact h), List.getElem?_eq_getElem _, List.getElem?_eq_getElem _⟩
          · exact Or.inl (List.drop_of_length_le (by rw [HN.out]; omega))
        rcases Nat.eq_zero_or_pos r with rfl | hpos
        · -- the first list is at its end
          have hdp : (holes EA).drop p = [] := List.drop_of_length_le (by rw [holes_len, HN.out]; omega)
          have HOUT : Hid (mg i j ((holes EA).drop p) ((holes EB).drop t) = e2.xs :: mg i j ((holes EA).drop p) ((holes EB).drop (t + 1))) := by
            show _ = _
            rw [hdp, mg_left, mg_left, drop_cons (holes_at HE2.out)]
          clear hpn hdp
          go_wp2_with fail
          go_quiet (fail)
          have HMX0 : Hid (Merging w (wr.drewN nq) i j EA KA EB KB p t (some ⟨bp, op, none⟩) v E K M) := HS.out.later (below_drewN (Below.refl _ _) nq)
          have HBX' : Hid ((wr.drewN nq).heap[q]? = some (.cells #[.slice y1 y2 y3, .slice (some ⟨gq2, 0, none⟩) z y4] 68 (0, 0))) := HBX.out
          clear HBX
          have HBX := HBX'
          clear HBX' HS
          generalize wr.drewN nq = WX at *

          have HMX := Lib.hid (HMX0.out)
          obtain ⟨cx1, cx2⟩ := box_cells HBX.out
          have hsx := HMX.out.world.size
          have hlx := HMX.out.len
          have HOX := Lib.hid HMX.out.row
          go_wp2_with (at_builtin; refine wpList_append_own _ rfl _ _ 61 rfl w.heap.size 68 i0 (.agg #[.slice none 0 0, .slice none 0 0]) 2 48 Tryd.underlying61 hi0 hz0 hz1 hz2 rfl (by decide) _ _ _ rfl (HOX.out.alloc _) ⟨WX.heap.size, 0, none⟩ 1 1 [.slice y1 y2 y3, .slice (some ⟨gq2, 0, none⟩) z y4] rfl rfl (en_news WX _ _) ?c2 ?c3 ?c4 ?c5 ?_; rotate_left 4; intro v' w9 hown hgrow _; have HOWN := Lib.hid hown; have HGRW := Lib.hid hgrow; clear hown hgrow)
          case c2 => first | (intro u hu; simp at hu; rcases hu with rfl | rfl <;> rfl) | exact ⟨rfl, rfl⟩
          case c3 => unfold maxLen; omega
          case c4 => omega
          case c5 => first | omega | (simp; omega)
          go_roundw
          case rel =>
            have hf := HV2.out
            have hcells : [Value.slice y1 y2 y3, Value.slice (some ⟨gq2, 0, none⟩) z y4] = enCells [e2] [q2] := by
              rw [enCells_one]
              unfold CardV.value
              rw [hf.1, hf.2.1, hf.2.2.1, hf.2.2.2.1, hf.2.2.2.2.1, hf.2.2.2.2.2, HX2.out.2.2.1]
            have hown := HOWN.out
            rw [hcells] at hown
            obtain ⟨ho, hbb⟩ := own_ents (F := [e2]) (L := [q2]) (by omega) hown HGRW.out HMX.out.row HMX.out.world (Nat.le_refl _) hsx
            have hb9 : Below w.heap.size WX w9 := ((Below.refl _ WX).alloc hsx _).grown HGRW.out (by simp; omega) (fun k hk => (HMX.out.row.lt k hk).1)
            exact ⟨p, t + 1, 0, bp, op, v', E ++ [e2], K ++ [q2], hpr, by omega, rfl, rfl, by go_num, HMX.out.takeB HE2.out HOUT.out (HMX.out.a.below hb9) ho hbb⟩
          case measure => simp [intOf]; omega
        · obtain ⟨rr, rfl⟩ : ∃ rr, r = rr + 1 := ⟨r - 1, by omega⟩
          rcases hpn with hpn | ⟨e1, q1, he1, hq1⟩
          · have := congrArg List.length hpn
            rw [List.length_drop, HN.out] at this
            simp at this
            omega
          obtain ⟨bq, oq, e3, hlt3, hc3⟩ := HS.out.a
          obtain ⟨rfl, rfl⟩ : bp = bq ∧ op = oq := by injection e3 with e3; injection e3 with x1 x2; exact ⟨x1, x2⟩
          obtain ⟨c1, c2⟩ := hc3 0 e1 q1 (by rw [List.getElem?_drop]; exact he1) (by rw [List.getElem?_drop]; exact hq1)
          rw [Nat.zero_mul, Nat.add_zero] at c1 c2
          obtain ⟨x1, l1, gq1, ex1, a1, r1⟩ := KA'.out.each p e1 q1 he1 hq1
          have hl1 : q1.xs.length = j - i := by rw [x1, List.length_map, l1]
          unfold CardV.value at c1 c2
          rw [hl1, a1, HV2.out.2.2.2.2.2] at c2
          have LW := HS.out.world.drew
          have i1 := (r1.later LW).ints
          have i2 := (HX2.out.2.2.2.later LW).ints
          rw [x1] at i1
          rw [HX2.out.1] at i2
          have hcp := fun al ll cl => entCompare_any e1.at_ al (some ⟨gq1, 0, none⟩) (some ⟨gq2, 0, none⟩) e1.xs.length ll e1.cap cl q1.cap y4 (partOf e1.xs i j) (partOf e2.xs i j) (j - i) _ _ wr.drew i1 i2 (r1.later LW).lt (HX2.out.2.2.2.later LW).lt l1 HX2.out.2.1 (by omega)
          have hcp1 := hcp y1 y2 y3
          rw [HV2.out.2.2.2.2.2] at hcp1
          have hle := mg_le (i := i) (j := j) (a := e1.xs) (b := e2.xs) (A := (holes EA).drop (p + 1)) (B := (holes EB).drop (t + 1))
          have hgt := mg_gt (i := i) (j := j) (a := e1.xs) (b := e2.xs) (A := (holes EA).drop (p + 1)) (B := (holes EB).drop (t + 1))
          rw [← drop_cons (holes_at he1), ← drop_cons (holes_at HE2.out)] at hle hgt
          rw [HV2.out.2.2.2.2.2] at hle hgt
          obtain ⟨v0, hv0⟩ : ∃ v0, cmpTo (partOf e1.xs i j) (partOf e2.xs i j) z = v0 := ⟨_, rfl⟩
          rw [hv0] at hcp1 hle hgt
          have HCP := Lib.hid hcp1
          have HLE := Lib.hid hle
          have HGT := Lib.hid hgt
          obtain ⟨u1, hu1⟩ : ∃ u, e1.at_ = u := ⟨_, rfl⟩
          obtain ⟨u2, hu2⟩ : ∃ u, e1.xs.length = u := ⟨_, rfl⟩
          obtain ⟨u3, hu3⟩ : ∃ u, e1.cap = u := ⟨_, rfl⟩
          obtain ⟨u4, hu4⟩ : ∃ u, q1.cap = u := ⟨_, rfl⟩
          rw [hu1, hu2, hu3] at c1 HCP
          rw [hu4] at c2 HCP
          have HV1 := Lib.hid (And.intro hu1 (And.intro hu2 (And.intro hu3 (And.intro hu4 (And.intro hl1 a1)))))
          have HE1 := Lib.hid (And.intro he1 hq1)
          obtain ⟨cb1, cb2⟩ := box_cells HBX.out
          have r0 : (0 : Int) < ((rr + 1 : Nat) : Int) := by omega
          have r0' : ((rr + 1 : Nat) : Int) > 0 := by omega
          clear e3 hlt3 hc3 x1 l1 r1 hl1 LW i1 i2 hcp hcp1 hle hgt hv0 hu1 hu2 hu3 hu4 he1 hq1 a1
          go_upto_region 5 with fail
          go_cut [27] (fun s0 wx => s0 = .bool (decide (v0 ≤ 0)) ∧ Below wr.heap.size wr wx)
          case first =>
            have K0 : Hid (Below wr.heap.size wr wr.drew) := Below.drew (Below.refl _ _)
            go_region_held3 (fun W => W.cell? ⟨bp, op, none⟩ = some (.slice u1 u2 u3) ∧ W.cell? ⟨bp, op + 1, none⟩ = some (.slice (some ⟨gq1, 0, none⟩) z u4) ∧ W.cell? ⟨q, 0, none⟩ = some (.slice y1 y2 y3) ∧ W.cell? ⟨q, 1, none⟩ = some (.slice (some ⟨gq2, 0, none⟩) z y4))
              (first | exact ⟨c1, c2, cb1, cb2⟩ | exact ⟨cell_kept c1 K0.out, cell_kept c2 K0.out, cell_kept cb1 K0.out, cell_kept cb2 K0.out⟩ | exact ⟨cell_kept c1 K1.out, cell_kept c2 K1.out, cell_kept cb1 K1.out, cell_kept cb2 K1.out⟩ | go_keep)
              (first
                | (go_at_call 36
                   refine HCP.out.mono ?_
                   rintro e w9 ⟨rfl, hb⟩
                   have K1 : Hid (Below wr.heap.size wr w9) := below_step K0.out hb
                   clear hb))
            all_goals (go_wp2_with fail; go_meet; exact ⟨rfl, K1.out⟩)
          case rest =>
            obtain ⟨rfl, hb⟩ := hcut
            rename World => w8
            have HMX0 := Lib.hid (HS.out.later hb)
            have HBX8 : Hid (w8.heap[q]? = some (.cells #[.slice y1 y2 y3, .slice (some ⟨gq2, 0, none⟩) z y4] 68 (0, 0))) := (hb.block q HQ.out).trans HBX.out
            have HQ8 : Hid (q < w8.heap.size) := Nat.lt_of_lt_of_le HQ.out hb.size
            have d1 := cell_kept c1 hb
            have d2 := cell_kept c2 hb
            clear hb c1 c2 cb1 cb2 HS HBX HQ HCP
            have HBX := HBX8
            have HQ := HQ8
            clear HBX8 HQ8
            by_cases hv : v0 ≤ 0
            · -- the first list's card is taken
              have HOUT := Lib.hid (HLE.out hv)
              have HMX := HMX0
              clear HMX0 HLE HGT
              have hsx := HMX.out.world.size
              have hlx := HMX.out.len
              obtain ⟨bs, hbs1, hbs2, hO, hbs3⟩ := own_start HMX.out.row HMX.out.none hsx HQ.out
              have HOW : Hid (w8.ownsRow bs 68 2 v E.length (enCells E K)) := hO
              obtain ⟨op2, hop2⟩ : ∃ o, (if rr = 0 then op else op + 2) = o := ⟨_, rfl⟩
              have hsl : ∀ W : World, (Instr.slice 61 (.slice (some ⟨bp, op, none⟩) (rr + 1) (rr + 1)) (some (.int .i64 1)) none none).run Tryd.prog W = .ok (.slice (some ⟨bp, op2, none⟩) rr rr) W := fun W => by
                rw [← hop2]
                by_cases hrr : rr = 0
                · subst hrr
                  go_simp
                · rw [if_neg hrr]
                  go_simp
                  intro hh
                  exact absurd hh (by omega)
              have h63 : E.length + 1 ≤ maxLen := by unfold maxLen; omega
              have h8 : (E.length + 1) * 48 ≤ 140737488355328 := by omega
              have HB3 := Lib.hid hbs3
              have HOP := Lib.hid hop2
              clear hO hbs3 hop2
              go_wp2_with fail
              go_region_law (refine step_append_own _ rfl _ _ 61 rfl bs 68 i0 (.agg #[.slice none 0 0, .slice none 0 0]) 2 48 Tryd.underlying61 hi0 hz0 hz1 hz2 rfl (by decide) _ _ _ rfl (HOW.out.alloc _) ⟨w8.heap.size, 0, none⟩ 1 1 [.slice u1 u2 u3, .slice (some ⟨gq1, 0, none⟩) z u4] rfl rfl (en_news _ _ _) (by intro u hu; simp at hu; rcases hu with rfl | rfl <;> rfl) h63 h8 (by first | omega | (simp; omega)) ?_; intro v' w9 hown hgrow _; have HOWN := Lib.hid hown; have HGRW : Hid ((w8.drew.alloc (.cells #[.slice u1 u2 u3, .slice (some ⟨gq1, 0, none⟩) z u4] 68)).grownBy w9 v.ownBlock) := hgrow; clear hown hgrow)
              all_goals
                go_wp2
                go_roundw
                case rel =>
                  have hf := HV1.out
                  have hcells : [Value.slice u1 u2 u3, Value.slice (some ⟨gq1, 0, none⟩) z u4] = enCells [e1] [q1] := by
                    rw [enCells_one]
                    unfold CardV.value
                    rw [hf.1, hf.2.1, hf.2.2.1, hf.2.2.2.1, hf.2.2.2.2.1, hf.2.2.2.2.2, HV2.out.2.2.2.2.2]
                  have hown := HOWN.out
                  have hown2 := HOWN.out
                  rw [hcells] at hown
                  obtain ⟨ho, hbb⟩ := own_ents (F := [e1]) (L := [q1]) (by omega) hown HGRW.out (show w8.drew.ownsRow bs 68 2 v E.length (enCells E K) from HOW.out) HMX.out.world.drew hbs1 hsx
                  have hb9 : Below w.heap.size w8 w9 := (((Below.refl _ w8).drew).alloc hsx _).grown HGRW.out (by show w.heap.size ≤ _; simp; omega) (fun k hk => Nat.le_trans hbs1 (HOW.out.lt k hk).1)
                  have hbx9 : w9.heap[q]? = some (.cells #[.slice y1 y2 y3, .slice (some ⟨gq2, 0, none⟩) z y4] 68 (0, 0)) := by
                    have h1 := HGRW.out.block q (by show q < _; simp; have := HQ.out; omega) (fun e => HNB.out e.symm)
                    rw [h1]
                    exact (below_box w8 _).block q HQ.out |>.trans HBX.out
                  have ho2 := own_lower ho hbs1
                  refine ⟨_, _, _, _, _, _, _, _, _, _, _, _, _, _, _, _, _, _, _, _, _, _, ?_, rfl⟩
                  unfold InnerR
                  exact ⟨p + 1, rr, bp, op2, v', E ++ [e1], K ++ [q1], by omega, rfl, rfl, HMX.out.takeA HE1.out.1 HE1.out.2 HOUT.out (by have := (HMX.out.a.below hb9).tail (r := rr) (by rw [List.length_drop, HN.out]; omega); rwa [List.drop_drop, List.drop_drop, HOP.out] at this) ho2 hbb, hbx9, by
                    by_cases h0 : E.length = 0
                    · exact own_from hown2 (HB3.out h0)
                    · exact own_not_box hown2 hbx9 (by omega), by
                    show q < _
                    have := HGRW.out.size
                    have h2 := HQ.out
                    have h3 : w8.heap.size ≤ (w8.drew.alloc (.cells #[.slice u1 u2 u3, .slice (some ⟨gq1, 0, none⟩) z u4] 68)).heap.size := by show _ ≤ _; simp
                    omega⟩
                case measure =>
                  show rr < rr + 1
                  omega
            · have HOUT := Lib.hid (HGT.out hv)

              clear HLE HGT

              have HMX := Lib.hid (HMX0.out)
              obtain ⟨cx1, cx2⟩ := box_cells HBX.out
              have hsx := HMX.out.world.size
              have hlx := HMX.out.len
              have HOX := Lib.hid HMX.out.row
              go_wp2_with (at_builtin; refine wpList_append_own _ rfl _ _ 61 rfl w.heap.size 68 i0 (.agg #[.slice none 0 0, .slice none 0 0]) 2 48 Tryd.underlying61 hi0 hz0 hz1 hz2 rfl (by decide) _ _ _ rfl (HOX.out.alloc _) ⟨w8.heap.size, 0, none⟩ 1 1 [.slice y1 y2 y3, .slice (some ⟨gq2, 0, none⟩) z y4] rfl rfl (en_news w8 _ _) ?c2 ?c3 ?c4 ?c5 ?_; rotate_left 4; intro v' w9 hown hgrow _; have HOWN := Lib.hid hown; have HGRW := Lib.hid hgrow; clear hown hgrow)
              case c2 => first | (intro u hu; simp at hu; rcases hu with rfl | rfl <;> rfl) | exact ⟨rfl, rfl⟩
              case c3 => unfold maxLen; omega
              case c4 => omega
              case c5 => first | omega | (simp; omega)
              go_roundw
              case rel =>
                have hf := HV2.out
                have hcells : [Value.slice y1 y2 y3, Value.slice (some ⟨gq2, 0, none⟩) z y4] = enCells [e2] [q2] := by
                  rw [enCells_one]
                  unfold CardV.value
                  rw [hf.1, hf.2.1, hf.2.2.1, hf.2.2.2.1, hf.2.2.2.2.1, hf.2.2.2.2.2, HX2.out.2.2.1]
                have hown := HOWN.out
                rw [hcells] at hown
                obtain ⟨ho, hbb⟩ := own_ents (F := [e2]) (L := [q2]) (by omega) hown HGRW.out HMX.out.row HMX.out.world (Nat.le_refl _) hsx
                have hb9 : Below w.heap.size w8 w9 := ((Below.refl _ w8).alloc hsx _).grown HGRW.out (by simp; omega) (fun k hk => (HMX.out.row.lt k hk).1)
                exact ⟨p, t + 1, rr + 1, bp, op, v', E ++ [e2], K ++ [q2], hpr, by omega, rfl, rfl, by go_num, HMX.out.takeB HE2.out HOUT.out (HMX.out.a.below hb9) ho hbb⟩
              case measure => simp [intOf]; omega
    · -- the second list is at its end
      have htm : t = m := by omega
      have t1 : ¬ (t : Int) < (m : Int) := by omega
      have hdm : (holes EB).drop t = [] := List.drop_of_length_le (by rw [holes_len, HM.out]; omega)
      have hsx := HS.out.world.size
      have hlx := HS.out.len
      have hout := HS.out.out
      rw [hdm, mg_right] at hout
      have HO := Lib.hid HS.out.row
      obtain ⟨bq, oq, e3, hlt3, hc3⟩ := HS.out.a
      obtain ⟨rfl, rfl⟩ : bp = bq ∧ op = oq := by injection e3 with e3; injection e3 with x1 x2; exact ⟨x1, x2⟩
      have hdl : (EA.drop p).length = r := by rw [List.length_drop, HN.out]; omega
      have hdk : (KA.drop p).length = r := by rw [List.length_drop, KA'.out.len, HN.out]; omega
      have hnews : ∀ k u, (enCells (EA.drop p) (KA.drop p))[k]? = some u → wr.cell? ((⟨bp, op, none⟩ : Addr).add k) = some u := fun k u hu => by
        have hadd : (⟨bp, op, none⟩ : Addr).add k = ⟨bp, op + k, none⟩ := Go.WideShapes.add_plain _ _ _
        rw [hadd]
        have hkl := (List.getElem?_eq_some_iff.1 hu).1
        rw [enCells_len (by omega), hdl] at hkl
        obtain ⟨e, he⟩ : ∃ e, (EA.drop p)[k / 2]? = some e := ⟨(EA.drop p)[k / 2]'(by omega), List.getElem?_eq_getElem _⟩
        obtain ⟨q, hq⟩ : ∃ q, (KA.drop p)[k / 2]? = some q := ⟨(KA.drop p)[k / 2]'(by omega), List.getElem?_eq_getElem _⟩
        obtain ⟨c1, c2⟩ := hc3 (k / 2) e q he hq
        obtain ⟨d1, d2⟩ := en_cell (by omega) he hq
        rcases Nat.mod_two_eq_zero_or_one k with h0 | h0
        · have e1 : k / 2 * 2 = k := by omega
          rw [e1] at c1 d1
          rw [d1] at hu
          rw [c1, hu]
        · have e1 : k / 2 * 2 + 1 = k := by omega
          rw [Nat.add_assoc, e1] at c2
          rw [e1] at d2
          rw [d2] at hu
          rw [c2, hu]
      have HNW := Lib.hid hnews
      have hperm := HS.out.perm
      rw [show EB.take t = EB from List.take_of_length_le (by rw [HM.out]; omega)] at hperm
      have HFIN : Hid (holes (E ++ EA.drop p) = M ∧ (E ++ EA.drop p).Perm (EA ++ EB)) := by
        refine ⟨?_, ?_⟩
        · rw [← hout]
          simp [holes]
        · refine (hperm.append_right (EA.drop p)).trans ?_
          rw [List.append_assoc]
          refine (List.Perm.append_left _ List.perm_append_comm).trans ?_
          rw [← List.append_assoc, List.take_append_drop]
      have HWD := Lib.hid HS.out.world
      have hen : (enCells (EA.drop p) (KA.drop p)).length = r * 2 := by rw [enCells_len (by omega), hdl]
      clear e3 hlt3 hc3 hnews hperm hout hdm htm HS
      go_wp2_with (at_builtin; refine wpList_append_own _ rfl _ _ 61 rfl w.heap.size 68 i0 (.agg #[.slice none 0 0, .slice none 0 0]) 2 48 Tryd.underlying61 hi0 hz0 hz1 hz2 rfl (by decide) _ _ _ rfl HO.out ⟨bp, op, none⟩ r r (enCells (EA.drop p) (KA.drop p)) rfl hen HNW.out (en_one _ _) ?c3 ?c4 hsx ?_; rotate_left 2; intro v' w9 hown hgrow _; have HOWN := Lib.hid hown; have HGRW := Lib.hid hgrow; clear hown hgrow)
      case c3 => unfold maxLen; omega
      case c4 => omega
      go_ret
      unfold GivesMerged
      refine ⟨v', E ++ EA.drop p, K ++ KA.drop p, rfl, ?_, HFIN.out.1, HFIN.out.2, by rw [List.length_append, List.length_append, hdl, hdk]; omega, ?_⟩
      · exact HWD.out.grown HGRW.out hsx (fun k hk => (HO.out.lt k hk).1)
      · rw [enCells_append (by omega), List.length_append, hdl]
        exact HOWN.out
end Go.Proofs.YtamookdlbmbncabDoor

/- Whether entries are in order: slices.IsSortedFunc at entries and impl.inOrder: contracts. -/
namespace Go.Proofs.YtamookdlbmbncabDoor
open Go.ChangeShapes Go.WideShapes Go.ChangeAt Go.RowKit

theorem stepFrom_neg (q : Nat → Bool) : ∀ m k, stepFrom q m k < 0 ↔ ∀ t, t < m → q (k + t) = false
  | 0, k => by simp [stepFrom]
  | m + 1, k => by
    have ih := stepFrom_neg q m (k + 1)
    rw [stepFrom_succ]
    by_cases h : q k = true
    · rw [if_pos h]
      constructor
      · intro e; omega
      · intro e
        have := e 0 (by omega)
        rw [Nat.add_zero, h] at this
        cases this
    · rw [if_neg h, ih]
      constructor
      · intro e t ht
        match t with
        | 0 => simpa using h
        | t + 1 =>
          have := e t (by omega)
          rwa [show k + 1 + t = k + (t + 1) by omega] at this
      · intro e t ht
        have := e (t + 1) (by omega)
        rwa [show k + (t + 1) = k + 1 + t by omega] at this
theorem stepV_neg (H : List (List Int)) (i j : Nat) : stepV H i j < 0 ↔ ∀ t, t + 1 < H.length → 0 ≤ cmpK H i j (t + 1) t := by
  unfold stepV
  rw [stepFrom_neg]
  constructor
  · intro h t ht
    have := h t (by omega)
    unfold lessB at this
    rw [show 1 + t = t + 1 by omega, Nat.add_sub_cancel] at this
    have := of_decide_eq_false this
    omega
  · intro h t ht
    unfold lessB
    rw [show 1 + t = t + 1 by omega, Nat.add_sub_cancel]
    exact decide_eq_false (by have := h t (by omega); omega)

section
variable {D E K : List CardV} {i j n g lo : Nat} {w : World}
set_option maxRecDepth 100000 in
set_option maxHeartbeats 2000000 in
theorem isSortedF_any (hO : EntsOf D i j n E K) (he : Ents w lo g E K n) :
    Calls Tryd.prog 43 #[.slice (some ⟨g, 0, none⟩) n n, .func (.func 36) #[] #[]] w fun e w' => e = .returned (.bool (decide (stepV (holes D) i j < 0))) ∧ Below w.heap.size w w' := by
  have hn40 := hO.n40
  have hst := stepV_neg (holes D) i j
  rw [holes_len, hO.len] at hst
  obtain ⟨r, hr⟩ : ∃ r, decide (stepV (holes D) i j < 0) = r := ⟨_, rfl⟩
  rw [hr]
  have HE := Lib.hid he
  have HO := Lib.hid hO
  have HR := Lib.hid hr
  have HST := Lib.hid hst
  clear he hO hr hst
  rcases Nat.eq_zero_or_pos n with rfl | hpos
  · obtain rfl : r = true := by rw [← HR.out]; exact decide_eq_true (HST.out.2 (fun t ht => absurd ht (by omega)))
    go_enter Tryd.func43, Tryd.ntmps43
    go_wp2
    go_loopw [5] (fun x wr => x = .int .i64 (-1) ∧ wr = w) (fun _ _ => 0)
    case atStart => exact ⟨by go_num, rfl⟩
    case round =>
      obtain ⟨rfl, rfl⟩ := hrel
      go_wp2
      go_ret
      exact ⟨rfl, Below.refl _ _⟩
  · obtain ⟨m, rfl⟩ : ∃ m, n = m + 1 := ⟨n - 1, by omega⟩
    have e1 : IntKind.i64.wrap (m : Int) = (m : Int) := IntWalk.i64_in _ (by omega)
    have e2 : ((m + 1 : Nat) : Int) - 1 = (m : Int) := by omega
    go_enter Tryd.func43, Tryd.ntmps43
    go_wp2
    clear e1 e2
    go_loopw [5] (fun x wr => ∃ t : Nat, t ≤ m ∧ x = .int .i64 t ∧ Hid (∀ k, t ≤ k → k + 1 < m + 1 → 0 ≤ cmpK (holes D) i j (k + 1) k) ∧ Hid (Below w.heap.size w wr)) (fun x _ => (intOf x).toNat)
    case atStart => exact ⟨m, Nat.le_refl _, by go_num, fun k h1 h2 => by omega, Below.refl _ _⟩
    case round =>
      obtain ⟨t, ht, rfl, HK, HB⟩ := hrel
      rcases Nat.eq_zero_or_pos t with rfl | hpt
      · obtain rfl : r = true := by rw [← HR.out]; exact decide_eq_true (HST.out.2 (fun t ht => HK.out t (by omega) ht))
        go_wp2
        go_ret
        exact ⟨rfl, HB.out⟩
      · obtain ⟨s, rfl⟩ : ∃ s, t = s + 1 := ⟨t - 1, by omega⟩
        have hE := HE.out.later HB.out
        obtain ⟨v1, v2, c1, c2, c3, c4, ⟨a1, l1, z1, a2, z2, rfl⟩, ⟨a3, l3, z3, a4, z4, rfl⟩, hcmp⟩ := entCmp_at HO.out hE (show s + 1 < m + 1 by omega) (show s < m + 1 by omega)
        simp only at c1 c2 c3 c4 hcmp
        have hcm := hcmp wr.drew ((Below.refl _ wr).drew)
        obtain ⟨v, hv⟩ : ∃ v, cmpK (holes D) i j (s + 1) s = v := ⟨_, rfl⟩
        rw [hv] at hcm
        have HC := Lib.hid hcm
        have HV := Lib.hid hv
        have d1 : wr.drew.cell? ⟨g, (s + 1) * 2, none⟩ = some (.slice a1 l1 z1) := c1
        have d2 : wr.drew.cell? ⟨g, (s + 1) * 2 + 1, none⟩ = some (.slice a2 (j - i) z2) := c2
        have d3 : wr.drew.cell? ⟨g, s * 2, none⟩ = some (.slice a3 l3 z3) := c3
        have d4 : wr.drew.cell? ⟨g, s * 2 + 1, none⟩ = some (.slice a4 (j - i) z4) := c4
        have s0 : (0 : Int) ≤ (s : Int) := Int.natCast_nonneg _
        have s1 : (s : Int) < ((m + 1 : Nat) : Int) := by omega
        have s2 : ((s + 1 : Nat) : Int) = (s : Int) + 1 := by omega
        have s3 : (0 : Int) < (s : Int) + 1 := by omega
        have s4 : IntKind.i64.wrap (s : Int) = (s : Int) := IntWalk.i64_in _ (by omega)
        have s5 : (0 : Int) ≤ (s : Int) + 1 := by omega
        have s6 : (s : Int) + 1 < ((m + 1 : Nat) : Int) := by omega
        have s7 : ((s : Int) + 1).toNat = s + 1 := by omega
        rw [s2]
        clear hE hcmp hcm hv hpt
        by_cases hv0 : v < 0
        · obtain rfl : r = false := by
            rw [← HR.out]
            refine decide_eq_false (fun h => ?_)
            have := HST.out.1 h s (by omega)
            rw [HV.out] at this
            omega
          go_wp2_with fail
          go_region_with (go_at_call 36; refine HC.out.mono ?_; rintro e W3 ⟨rfl, hb3⟩; have e1 := cell_kept d1 hb3; have e2 := cell_kept d2 hb3; have e3 := cell_kept d3 hb3; have e4 := cell_kept d4 hb3; have HB3 := Lib.hid (below_step HB.out.drew hb3); clear hb3)
          all_goals
            go_wp2
            go_ret
            exact ⟨rfl, HB3.out⟩
        · have HK1 : Hid (∀ k, s ≤ k → k + 1 < m + 1 → 0 ≤ cmpK (holes D) i j (k + 1) k) := fun k h1 h2 => by
            by_cases h : k = s
            · subst h
              rw [HV.out]
              omega
            · exact HK.out k (by omega) h2
          have hv1 : 0 ≤ v := by omega
          go_wp2_with fail
          go_region_with (go_at_call 36; refine HC.out.mono ?_; rintro e W3 ⟨rfl, hb3⟩; have e1 := cell_kept d1 hb3; have e2 := cell_kept d2 hb3; have e3 := cell_kept d3 hb3; have e4 := cell_kept d4 hb3; have HB3 := Lib.hid (below_step HB.out.drew hb3); clear hb3)
          all_goals
            go_wp2
            go_roundw
            case rel => exact ⟨s, by omega, by go_num, HK1, HB3⟩
            case measure => (simp [intOf] <;> omega)

theorem inOrder_any (hO : EntsOf D i j n E K) (he : Ents w lo g E K n) :
    Calls Tryd.prog 34 #[.slice (some ⟨g, 0, none⟩) n n] w fun e w' => e = .returned (.bool (decide (stepV (holes D) i j < 0))) ∧ Below w.heap.size w w' := by
  have HS := Lib.hid (isSortedF_any hO he)
  obtain ⟨r, hr⟩ : ∃ r, decide (stepV (holes D) i j < 0) = r := ⟨_, rfl⟩
  rw [hr] at HS ⊢
  clear hr hO he
  go_enter Tryd.func34, Tryd.ntmps34
  go_wp2_with fail
  refine HS.out.mono ?_
  rintro e w1 ⟨rfl, hb⟩
  have B1 := Lib.hid hb
  clear hb
  go_wp2
  go_ret
  exact ⟨rfl, B1.out⟩
end
end Go.Proofs.YtamookdlbmbncabDoor
