/- Plain facts on hubs that are joined: the list of the least hubs, what a wire does to it, and a map that leads from hub to hub; no function of the program is spoken of. -/
import Derived.Test.YtpklmhffgbgakaaMem
import Derived.Maps.OwnSet
namespace Go.Proofs.Ytpklmhffgbgakaa
open Go.ChangeShapes Go.WideShapes Go.ChangeAt Go.RowKit Go.Maps

/-- a wire joins two different hubs, the lesser one first -/
def wireB (H : Int) (d : Int × Int) : Bool := decide (0 ≤ d.1 ∧ d.1 < d.2 ∧ d.2 < H)
theorem wireB_iff {H : Int} {d : Int × Int} : wireB H d = true ↔ 0 ≤ d.1 ∧ d.1 < d.2 ∧ d.2 < H := by simp [wireB]

/-- each hub has a least hub, which is its own least one -/
def OkR (R : List Int) : Prop := ∀ h : Nat, h < R.length → ∃ r : Nat, R[h]? = some (r : Int) ∧ r ≤ h ∧ R[r]? = some (r : Int)
def startR (H : Nat) : List Int := (List.range H).map fun k : Nat => (k : Int)
theorem startR_length (H : Nat) : (startR H).length = H := by simp [startR]
theorem startR_get {H h : Nat} (hh : h < H) : (startR H)[h]? = some (h : Int) := by simp [startR, hh]
theorem startR_ok (H : Nat) : OkR (startR H) := fun h hh => by
  rw [startR_length] at hh
  exact ⟨h, startR_get hh, Nat.le_refl _, startR_get hh⟩
theorem startR_succ (k : Nat) : startR (k + 1) = startR k ++ [(k : Int)] := by simp [startR, List.range_succ]

/-- two nets become one -/
def joinL (R : List Int) (a b : Int) : List Int := R.map fun r => if r = a ∨ r = b then min a b else r
theorem joinL_length (R : List Int) (a b : Int) : (joinL R a b).length = R.length := by simp [joinL]
theorem joinL_get {R : List Int} {a b r : Int} {h : Nat} (e : R[h]? = some r) : (joinL R a b)[h]? = some (if r = a ∨ r = b then min a b else r) := by simp [joinL, e]
theorem joinL_same (R : List Int) (a : Int) : joinL R a a = R := by
  unfold joinL
  have : (fun r : Int => if r = a ∨ r = a then min a a else r) = id := by
    funext r
    by_cases h : r = a
    · simp [h]
    · simp [h]
  rw [this, List.map_id]
theorem joinL_ok {R : List Int} (hR : OkR R) {x y a b : Nat} (hx : R[x]? = some (a : Int)) (hy : R[y]? = some (b : Int)) : OkR (joinL R a b) := by
  have look : ∀ z c : Nat, R[z]? = some (c : Int) → R[c]? = some (c : Int) := fun z c hz => by
    obtain ⟨hlt, _⟩ := List.getElem?_eq_some_iff.1 hz
    obtain ⟨r, h1, _, h3⟩ := hR z hlt
    rw [hz] at h1
    have : (c : Int) = r := Option.some.inj h1
    obtain rfl : c = r := by omega
    exact h3
  have ha := look x a hx
  have hb := look y b hy
  intro h hh
  rw [joinL_length] at hh
  obtain ⟨r, h1, h2, h3⟩ := hR h hh
  by_cases hab : (r : Int) = a ∨ (r : Int) = b
  · refine ⟨min a b, ?_, ?_, ?_⟩
    · rw [joinL_get h1, if_pos hab]
      congr 1
      omega
    · omega
    · rcases Nat.le_total a b with hle | hle
      · rw [Nat.min_eq_left hle, joinL_get ha, if_pos (Or.inl rfl)]
        congr 1
        omega
      · rw [Nat.min_eq_right hle, joinL_get hb, if_pos (Or.inr rfl)]
        congr 1
        omega
  · refine ⟨r, ?_, h2, ?_⟩
    · rw [joinL_get h1, if_neg hab]
    · rw [joinL_get h3, if_neg hab]

/-- the least hub with which a hub is joined -/
def rt (R : List Int) (h : Int) : Int := R[h.toNat]?.getD 0
theorem rt_get {R : List Int} {h : Nat} (hh : h < R.length) : R[h]? = some (rt R (h : Int)) := by
  simp [rt, List.getElem?_eq_getElem hh]
theorem OkR.root {R : List Int} (hR : OkR R) {h : Nat} (hh : h < R.length) : ∃ r : Nat, rt R (h : Int) = r ∧ r ≤ h ∧ R[h]? = some (r : Int) ∧ R[r]? = some (r : Int) := by
  obtain ⟨r, h1, h2, h3⟩ := hR h hh
  exact ⟨r, by simp [rt, h1], h2, h1, h3⟩
/-- what a wire does -/
def stepR (R : List Int) (d : Int × Int) : List Int := joinL R (rt R d.1) (rt R d.2)
theorem stepR_length (R : List Int) (d : Int × Int) : (stepR R d).length = R.length := joinL_length _ _ _
theorem stepR_ok {R : List Int} (hR : OkR R) {d : Int × Int} (hd : wireB R.length d = true) : OkR (stepR R d) := by
  rw [wireB_iff] at hd
  obtain ⟨x, hx⟩ : ∃ x : Nat, d.1 = x := ⟨d.1.toNat, by omega⟩
  obtain ⟨y, hy⟩ : ∃ y : Nat, d.2 = y := ⟨d.2.toNat, by omega⟩
  obtain ⟨a, ea, _, ha, _⟩ := hR.root (h := x) (by omega)
  obtain ⟨b, eb, _, hb, _⟩ := hR.root (h := y) (by omega)
  unfold stepR
  rw [hx, hy, ea, eb]
  exact joinL_ok hR ha hb
def rootsW (R : List Int) (P : List (Int × Int)) : List Int := P.foldl stepR R
theorem rootsW_length (P : List (Int × Int)) : ∀ R, (rootsW R P).length = R.length := by
  induction P with
  | nil => intro R; rfl
  | cons d P ih =>
    intro R
    show (rootsW (stepR R d) P).length = _
    rw [ih, stepR_length]
theorem rootsW_ok (H : Int) (P : List (Int × Int)) (hP : ∀ d ∈ P, wireB H d = true) : ∀ R : List Int, (R.length : Int) = H → OkR R → OkR (rootsW R P) := by
  induction P with
  | nil => intro R _ h; exact h
  | cons d P ih =>
    intro R hl h
    have hd := hP d (by simp)
    exact ih (fun x hx => hP x (by simp [hx])) (stepR R d) (by rw [stepR_length]; exact hl) (stepR_ok h (by rw [hl]; exact hd))
theorem rootsW_take {P : List (Int × Int)} {k : Nat} {d : Int × Int} (R : List Int) (h : P[k]? = some d) : rootsW R (P.take (k + 1)) = stepR (rootsW R (P.take k)) d := by
  obtain ⟨hk, e⟩ := List.getElem?_eq_some_iff.1 h
  rw [List.take_succ_eq_append_getElem hk, e]
  simp [rootsW]

/-- the hubs below a number that are joined with a hub -/
def withR (R : List Int) (hub : Int) (to : Nat) : List Int := ((List.range to).filter fun k : Nat => decide (rt R (k : Int) = rt R hub)).map fun k : Nat => (k : Int)
theorem withR_succ (R : List Int) (hub : Int) (k : Nat) : withR R hub (k + 1) = if rt R (k : Int) = rt R hub then withR R hub k ++ [(k : Int)] else withR R hub k := by
  by_cases h : rt R (k : Int) = rt R hub
  · simp [withR, List.range_succ, List.filter_append, h]
  · simp [withR, List.range_succ, List.filter_append, h]
theorem withR_length (R : List Int) (hub : Int) (k : Nat) : (withR R hub k).length ≤ k := by
  have := List.length_filter_le (fun k : Nat => decide (rt R (k : Int) = rt R hub)) (List.range k)
  simpa [withR] using this
theorem withR_mem {R : List Int} {hub : Int} {k : Nat} {x : Int} (h : x ∈ withR R hub k) : ∃ j : Nat, x = j ∧ j < k := by
  obtain ⟨j, hj, rfl⟩ := List.mem_map.1 h
  exact ⟨j, rfl, by simpa using (List.mem_filter.1 hj).1⟩

section
variable {H : Type}
/-- what a map of lesser hubs says, for the hubs of a list of least hubs -/
def ForD (D : DataW H) (R : List Int) : Prop := ∀ h : Nat, h < R.length →
  (Maps.has D (.int .i64 (h : Int)) = false → R[h]? = some (h : Int)) ∧
  (Maps.has D (.int .i64 (h : Int)) = true → ∃ l : Nat, l < h ∧ D.atKey (.int .i64 (h : Int)) (.lit (.int .i64 0)) = .lit (.int .i64 (l : Int)) ∧ R[l]? = R[h]?)
theorem ForD.start (n : Nat) : ForD (H := H) (.map []) (startR n) := fun h hh => by
  rw [startR_length] at hh
  refine ⟨fun _ => startR_get hh, fun e => ?_⟩
  simp [Maps.has] at e
theorem ForD.join {D : DataW H} {R : List Int} (hF : ForD D R) (hD : IsMap D) (hR : OkR R) {x y a b : Nat} (hx : R[x]? = some (a : Int)) (hy : R[y]? = some (b : Int)) (hne : a ≠ b) :
    ForD (D.put (.int .i64 (max (a : Int) b)) (.lit (.int .i64 (min (a : Int) b)))) (joinL R a b) := by
  have look : ∀ z c : Nat, R[z]? = some (c : Int) → c < R.length ∧ R[c]? = some (c : Int) := fun z c hz => by
    obtain ⟨hlt, _⟩ := List.getElem?_eq_some_iff.1 hz
    obtain ⟨r, h1, h2, h3⟩ := hR z hlt
    rw [hz] at h1
    have : (c : Int) = r := Option.some.inj h1
    obtain rfl : c = r := by omega
    exact ⟨by omega, h3⟩
  obtain ⟨la, ha⟩ := look x a hx
  obtain ⟨lb, hb⟩ := look y b hy
  intro h hh
  rw [joinL_length] at hh
  have hkl : WideAt.IsKeyLit (.int .i64 (max (a : Int) b)) := by first | exact trivial | exact rfl | simp [WideAt.IsKeyLit]
  by_cases hm : (h : Int) = max (a : Int) b
  · rw [hm]
    refine ⟨fun e => ?_, fun _ => ?_⟩
    · rw [has_put_same hD hkl] at e
      cases e
    · refine ⟨min a b, by omega, ?_, ?_⟩
      · rw [atKey_put_same hD hkl]
        congr 2
        omega
      · have e1 : R[h]? = some (h : Int) := by
          rcases Nat.le_total a b with hle | hle
          · obtain rfl : h = b := by omega
            exact hb
          · obtain rfl : h = a := by omega
            exact ha
        have e2 : R[min a b]? = some ((min a b : Nat) : Int) := by
          rcases Nat.le_total a b with hle | hle
          · rw [Nat.min_eq_left hle]; exact ha
          · rw [Nat.min_eq_right hle]; exact hb
        rw [joinL_get e1, joinL_get e2, if_pos (by omega), if_pos (by omega)]
  · have hk : (Lit.int .i64 (h : Int)) ≠ .int .i64 (max (a : Int) b) := fun e => hm (by injection e)
    rw [has_put_other hk, atKey_put_other hk]
    obtain ⟨f1, f2⟩ := hF h hh
    refine ⟨fun e => ?_, fun e => ?_⟩
    · have g := f1 e
      rw [joinL_get g]
      by_cases hab : (h : Int) = a ∨ (h : Int) = b
      · rw [if_pos hab]
        congr 1
        omega
      · rw [if_neg hab]
    · obtain ⟨l, l1, l2, l3⟩ := f2 e
      refine ⟨l, l1, l2, ?_⟩
      simp only [joinL, List.getElem?_map, l3]
end
end Go.Proofs.Ytpklmhffgbgakaa
