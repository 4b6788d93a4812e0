/- spec.ReadDecimal and impl.ReadDecimal read the decimal form of a number of at most 18 digits, or tell that there is none, for every text of at most 1048576 bytes: contracts. -/
import Derived.Test.YtfjokjdfekkbiacDoorReadDec
import Derived.Test.YtfjokjdfekkbiacDoorDecimal
import Derived.Stop.IfaceNil
import Derived.Lib.AtoiErrMem
import Derived.Lib.ParseIntBTie
namespace Go.Proofs.YtfjokjdfekkbiacDoor
open Go.ChangeShapes Go.WideShapes Go.ChangeAt Go.RowKit

theorem l01Number_any (s : ByteArray) (hs : s.size ≤ 1048576) (w : World) : Calls Tryd.prog 62 #[.string s] w (ReadsTo s w) := by
  by_cases h : ∃ r, s.data.toList = 45 :: r
  · obtain ⟨r, h⟩ := h
    exact l01Number_neg s r hs h w
  · refine l01Number_pos s hs (fun r e => h ⟨r, e⟩) (fun hp => ?_) w
    rw [beq_eq_false_iff_ne]
    intro e
    have e2 : s[0]'hp = s.data.toList[0]'(by simpa using hp) := rfl
    cases hl : s.data.toList with
    | nil =>
      have h2 : s.data.toList.length = 0 := by rw [hl]; rfl
      rw [Array.length_toList] at h2
      have h3 : s.size = s.data.size := rfl
      omega
    | cons c r =>
      have e3 : s.data.toList[0]'(by simpa using hp) = c := by simp only [hl]; rfl
      rw [e2, e3] at e
      have : c = 45 := by
        apply UInt8.toNat_inj.1
        have : (45 : UInt8).toNat = 45 := rfl
        omega
      subst this
      exact h ⟨r, hl⟩

theorem specReadDecimal_any (s : ByteArray) (hs : s.size ≤ 1048576) (w : World) : Calls Tryd.prog 28 #[.string s] w (ReadsTo s w) := by
  have HF := Lib.hid (l01Number_any s hs w)
  clear hs
  go_enter Tryd.func28, Tryd.ntmps28
  go_wp2_with fail
  refine HF.out.mono ?_
  rintro e w1 ⟨hr, hb⟩
  have B1 := Lib.hid hb
  clear hb
  rcases hr with ⟨n, hn, rfl⟩ | ⟨hn, rfl⟩
  · have HN := Lib.hid hn
    clear hn
    go_wp2
    go_ret2
    exact ⟨Or.inl ⟨n, HN.out, rfl⟩, B1.out⟩
  · have HN := Lib.hid hn
    clear hn
    go_wp2
    go_ret2
    exact ⟨Or.inr ⟨HN.out, rfl⟩, B1.out⟩

/-- the library's sentinels of texts that are no numbers -/
def NumSents (w : World) : Prop := ∃ a b : Addr, w.cell? ⟨6, 0, none⟩ = some (.iface 174 (.pointer (some a))) ∧ w.cell? ⟨7, 0, none⟩ = some (.iface 174 (.pointer (some b)))
theorem NumSents.below {w w' : World} (h : NumSents w) (hb : Below w.heap.size w w') : NumSents w' := by
  obtain ⟨a, b, h1, h2⟩ := h
  exact ⟨a, b, cell_kept h1 hb, cell_kept h2 hb⟩

theorem reads_none {s : ByteArray} (h : ∀ v, Lib.parseIntB 64 s.data.toList ≠ .ok v) : ∀ n, ¬ Reads s n := fun n hn => by
  have := parse_itoa n hn.2.1 hn.2.2
  rw [← hn.1] at this
  exact h n this

theorem below_parse {w w' : World} {T : TypeId} (h : w' = w ∨ ∃ t, w' = Lib.bytesWorld w T t) : Below w.heap.size w w' := by
  rcases h with rfl | ⟨t, rfl⟩
  · exact Below.refl _ _
  · exact Lib.bytesWorld_below w T t

set_option maxHeartbeats 1000000 in
theorem implReadDecimal_any (s : ByteArray) (hs : s.size ≤ 1048576) (w : World) (hP : Pow10 w) (hS : NumSents w) : Calls Tryd.prog 29 #[.string s] w (ReadsTo s w) := by
  have hne : ∀ (T : TypeId) (v : Value) (w : World), (binOp .neq 59 (.iface T v) .nilIface).run Tryd.prog w = .ok (.bool true) w := fun T v w => run_neq_iface_nil w 59 (by kernel_rfl) _ _
  obtain ⟨a, b, hsy, hra⟩ := hS
  cases hp : Lib.parseIntB 64 s.data.toList with
  | «syntax» =>
    have HC := Lib.hid (Tryd.strconv_ParseInt_10_at64_syntax s (by omega) hp _ w hsy (Or.inr ⟨_, _, rfl⟩))
    have HN := Lib.hid (reads_none (s := s) (fun v e => by rw [hp] at e; cases e))
    clear hp hsy hra hP hs
    go_enter Tryd.func29, Tryd.ntmps29
    go_wp2_with fail
    refine HC.out.mono ?_
    rintro e w1 ⟨N, rfl, _, _, hb⟩
    have B1 := Lib.hid hb
    clear hb
    go_wp2
    go_ret2
    exact ⟨Or.inr ⟨HN.out, rfl⟩, B1.out⟩
  | range =>
    have HC := Lib.hid (Tryd.strconv_ParseInt_10_at64_range s (by omega) hp _ w hra (Or.inr ⟨_, _, rfl⟩))
    have HN := Lib.hid (reads_none (s := s) (fun v e => by rw [hp] at e; cases e))
    obtain ⟨q, hq⟩ : ∃ q, Lib.intSat 64 s.data.toList = q := ⟨_, rfl⟩
    rw [hq] at HC
    clear hp hsy hra hP hs hq
    go_enter Tryd.func29, Tryd.ntmps29
    go_wp2_with fail
    refine HC.out.mono ?_
    rintro e w1 ⟨N, rfl, _, _, hb⟩
    have B1 := Lib.hid hb
    clear hb
    go_wp2
    go_ret2
    exact ⟨Or.inr ⟨HN.out, rfl⟩, B1.out⟩
  | ok v =>
    have hbd := Lib.parseIntB_bounds hp
    have hv0 : -9223372036854775808 ≤ v := by have := hbd.1; simp at this; omega
    have hv1 : v ≤ 9223372036854775807 := by have := hbd.2; simp at this; omega
    have HC := Lib.hid (Tryd.strconv_ParseInt_10_at64_ok s (by omega) v hp w)
    have HPO := Lib.hid hP
    have hd := fun W hW => implDecimal_any v hv0 hv1 W hW
    have hone : ∀ n, Reads s n → n = v := fun n hn => by
      have := parse_itoa n hn.2.1 hn.2.2
      rw [← hn.1, hp] at this
      injection this with this
      exact this.symm
    have HO := Lib.hid hone
    obtain ⟨z, hz⟩ : ∃ z : ByteArray, (⟨(Lib.itoa v).toArray⟩ : ByteArray) = z := ⟨_, rfl⟩
    rw [hz] at hd
    have HZ := Lib.hid hz
    have HD := Lib.hid hd
    clear hp hsy hra hP hs hbd hone hd hz
    by_cases hb0 : v < -999999999999999999
    · have HN : Hid (∀ n, ¬ Reads s n) := fun n hn => by
        have e := HO.out n hn
        have := hn.2.1
        omega
      clear HD HZ HO
      go_enter Tryd.func29, Tryd.ntmps29
      go_wp2_with fail
      refine HC.out.mono ?_
      rintro e w1 ⟨rfl, hw⟩
      have B1 : Hid (Below w.heap.size w w1) := below_parse hw
      clear hw
      go_wp2
      go_ret2
      exact ⟨Or.inr ⟨HN.out, rfl⟩, B1.out⟩
    · by_cases hb1 : 999999999999999999 < v
      · have HN : Hid (∀ n, ¬ Reads s n) := fun n hn => by
          have e := HO.out n hn
          have := hn.2.2
          omega
        clear HD HZ HO
        go_enter Tryd.func29, Tryd.ntmps29
        go_wp2_with fail
        refine HC.out.mono ?_
        rintro e w1 ⟨rfl, hw⟩
        have B1 : Hid (Below w.heap.size w w1) := below_parse hw
        clear hw
        go_wp2
        go_ret2
        exact ⟨Or.inr ⟨HN.out, rfl⟩, B1.out⟩
      · by_cases hzs : z = s
        · have HR : Hid (Reads s v) := ⟨by rw [← hzs, ← HZ.out], by omega, by omega⟩
          have hq1 : (z.toList == s.toList) = true := by rw [hzs]; simp
          have hq2 : (z.toList != s.toList) = false := by rw [hzs]; simp
          clear hzs HZ HO
          go_enter Tryd.func29, Tryd.ntmps29
          go_wp2_with fail
          refine HC.out.mono ?_
          rintro e w1 ⟨rfl, hw⟩
          have B1 : Hid (Below w.heap.size w w1) := below_parse hw
          have P1 := Lib.hid (HPO.out.below B1.out)
          clear hw
          go_wp2_with fail
          refine (HD.out _ P1.out).mono ?_
          rintro e w2 ⟨rfl, hb⟩
          have B2 := Lib.hid (below_step B1.out hb)
          clear hb
          go_wp2
          go_ret2
          exact ⟨Or.inl ⟨_, HR.out, rfl⟩, B2.out⟩
        · have HN : Hid (∀ n, ¬ Reads s n) := fun n hn => by
            have e := HO.out n hn
            subst e
            exact hzs (by rw [← HZ.out, bytes_of hn.1])
          have hq1 : (z.toList == s.toList) = false := beq_eq_false_iff_ne.2 (fun e => hzs (bytes_eq e))
          have hq2 : (z.toList != s.toList) = true := bne_iff_ne.2 (fun e => hzs (bytes_eq e))
          clear hzs HZ HO
          go_enter Tryd.func29, Tryd.ntmps29
          go_wp2_with fail
          refine HC.out.mono ?_
          rintro e w1 ⟨rfl, hw⟩
          have B1 : Hid (Below w.heap.size w w1) := below_parse hw
          have P1 := Lib.hid (HPO.out.below B1.out)
          clear hw
          go_wp2_with fail
          refine (HD.out _ P1.out).mono ?_
          rintro e w2 ⟨rfl, hb⟩
          have B2 := Lib.hid (below_step B1.out hb)
          clear hb
          go_wp2
          go_ret2
          exact ⟨Or.inr ⟨HN.out, rfl⟩, B2.out⟩
end Go.Proofs.YtfjokjdfekkbiacDoor
