/- One bit of a frame that is turned: it is none. -/
import Derived.Test.YtoiooohdenfpmaaQc
namespace Go.Proofs.Ytoiooohdenfpmaa
open Go.RowKit

/-- The byte at m is xored with x. -/
def turnB (s : List UInt8) (m : Nat) (x : UInt8) : List UInt8 := s.set m (s.getD m 0 ^^^ x)
theorem turnB_len (s : List UInt8) (m : Nat) (x : UInt8) : (turnB s m x).length = s.length := by simp [turnB]
theorem turnB_left {a b : List UInt8} {m : Nat} (h : m < a.length) (x : UInt8) : turnB (a ++ b) m x = turnB a m x ++ b := by
  unfold turnB
  rw [List.set_append_left _ _ h]
  congr 2
  simp [List.getElem?_append_left, h]
theorem turnB_right {a b : List UInt8} {m : Nat} (h : a.length ≤ m) (x : UInt8) : turnB (a ++ b) m x = a ++ turnB b (m - a.length) x := by
  unfold turnB
  rw [List.set_append_right _ _ h]
  congr 2
  simp [List.getElem?_append_right, h]
theorem xor_ne {b x : UInt8} (hx : x ≠ 0) : b ^^^ x ≠ b := fun h => hx (by
  have := congrArg (b ^^^ ·) h
  simpa [← UInt8.xor_assoc] using this)
theorem turnB_ne {s : List UInt8} {m : Nat} (h : m < s.length) {x : UInt8} (hx : x ≠ 0) : turnB s m x ≠ s := fun e => by
  have := congrArg (fun l => l.getD m 0) e
  simp only [turnB, List.getD_eq_getElem?_getD, List.getElem?_set_self h, Option.getD_some] at this
  exact xor_ne hx this
theorem be4_inj {a b : Nat} (ha : a < 4294967296) (hb : b < 4294967296) (h : be4 a = be4 b) : a = b := by rw [← num_be4 ha, h, num_be4 hb]
theorem turn_none {t : Nm} (ht : t.length ≤ 65536) {j : Nat} (h4 : 4 ≤ j) (hj : j < (fr t).length) {x : UInt8} (hx : x ≠ 0) (r : Nm) : firstP (turnB (fr t) j x ++ r) = none := by
  cases h : firstP (turnB (fr t) j x ++ r) with
  | none => rfl
  | some u =>
    exfalso
    obtain ⟨h1, r', hr⟩ := firstP_some.1 h
    rw [fr_len] at hj
    have e0 : turnB (fr t) j x = be4 t.length ++ turnB (be4 (sumN (str (be4 t.length ++ t))) ++ t) (j - 4) x := by
      unfold fr
      rw [turnB_right (by rw [be4_len]; exact h4), be4_len]
    have e1 : be4 t.length = be4 u.length := by
      have := congrArg (List.take 4) hr
      rw [fr_take, e0, List.append_assoc] at this
      simpa [be4] using this
    have e2 := be4_inj (by omega) (by omega) e1
    have e3 : turnB (fr t) j x = fr u := List.append_inj_left hr (by rw [turnB_len, fr_len, fr_len, e2])
    rw [e0] at e3
    unfold fr at e3
    rw [← e1] at e3
    have e4 := List.append_cancel_left e3
    by_cases h8 : j < 8
    · rw [turnB_left (by rw [be4_len]; omega)] at e4
      have hlen : (turnB (be4 (sumN (str (be4 t.length ++ t)))) (j - 4) x).length = (be4 (sumN (str (be4 t.length ++ u)))).length := by rw [turnB_len, be4_len, be4_len]
      obtain ⟨e5, e6⟩ := List.append_inj e4 hlen
      rw [← e6] at e5
      exact turnB_ne (by rw [be4_len]; omega) hx e5
    · rw [turnB_right (by rw [be4_len]; omega), be4_len] at e4
      obtain ⟨e5, e6⟩ := List.append_inj e4 (by rw [be4_len, be4_len])
      have e7 := be4_inj (sumN_lt _) (sumN_lt _) e5
      have hjt : j - 8 < t.length := by omega
      have hut : u = turnB t (j - 8) x := by rw [← e6]; congr 1
      rw [hut] at e7
      unfold sumN at e7
      have hl1 : (str (be4 t.length ++ t)).size = t.length + 4 := by rw [str_size, List.length_append, be4_len]; omega
      have hl2 : (str (be4 t.length ++ turnB t (j - 8) x)).size = t.length + 4 := by rw [str_size, List.length_append, be4_len, turnB_len]; omega
      rw [hl1, hl2] at e7
      have hk := moreN_turn (byteAt_lt _) (byteAt_lt _) (k := j - 4) (m := 1) (by omega) (by omega) (fun i hi ho => by
        rw [byteAt_str, byteAt_str]
        congr 1
        simp only [List.getD_eq_getElem?_getD]
        by_cases hi4 : i < 4
        · rw [List.getElem?_append_left (by rw [be4_len]; exact hi4), List.getElem?_append_left (by rw [be4_len]; exact hi4)]
        · rw [List.getElem?_append_right (by rw [be4_len]; omega), List.getElem?_append_right (by rw [be4_len]; omega), be4_len]
          unfold turnB
          rw [List.getElem?_set_ne (by omega)]) e7 (j - 4) (by omega)
      rw [byteAt_str, byteAt_str] at hk
      simp only [List.getD_eq_getElem?_getD] at hk
      rw [List.getElem?_append_right (by rw [be4_len]; omega), List.getElem?_append_right (by rw [be4_len]; omega), be4_len, show j - 4 - 4 = j - 8 by omega] at hk
      unfold turnB at hk
      rw [List.getElem?_set_self hjt, List.getElem?_eq_getElem hjt] at hk
      simp only [Option.getD_some] at hk
      have := UInt8.toNat_inj.1 hk
      rw [List.getD_eq_getElem?_getD, List.getElem?_eq_getElem hjt] at this
      exact xor_ne hx this.symm
/-- A frame that is cut is none. -/
theorem firstP_cut' {t : Nm} (ht : t.length ≤ 65536) {k : Nat} (hk : k < (fr t).length) : firstP ((fr t).take k) = none := by
  cases h : firstP ((fr t).take k) with
  | none => rfl
  | some u =>
    obtain ⟨h1, r, hr⟩ := firstP_some.1 h
    have hl := congrArg List.length hr
    rw [List.length_append, List.length_take, Nat.min_eq_left (Nat.le_of_lt hk), fr_len] at hl
    have he : fr t = fr u ++ (r ++ (fr t).drop k) := by rw [← List.append_assoc, ← hr, List.take_append_drop]
    have e1 := firstP_fr ht []
    have e2 := firstP_fr h1 (r ++ (fr t).drop k)
    rw [List.append_nil, he, e2] at e1
    injection e1 with e1
    subst e1
    rw [fr_len] at hk
    omega
/-- In which frame a byte stands. -/
theorem frs_split {ts : List Nm} {m : Nat} (hm : m < (frs ts).length) : ∃ pre t post, ts = pre ++ t :: post ∧ (frs pre).length ≤ m ∧ m < (frs pre).length + (fr t).length := by
  induction ts generalizing m with
  | nil => simp [frs] at hm
  | cons t l ih =>
    simp only [frs, List.length_append] at hm
    by_cases h : m < (fr t).length
    · exact ⟨[], t, l, rfl, Nat.zero_le _, by simp only [frs, List.length_nil]; omega⟩
    · obtain ⟨pre, u, post, e, h1, h2⟩ := ih (m := m - (fr t).length) (by omega)
      refine ⟨t :: pre, u, post, by rw [e]; rfl, ?_, ?_⟩
      · simp only [frs, List.length_append]; omega
      · simp only [frs, List.length_append]; omega
theorem back_pure {pre post : List Nm} {t : Nm} (hall : ∀ u ∈ pre ++ t :: post, u.length ≤ 65536) {m : Nat} (h1 : (frs pre).length ≤ m) (h2 : m < (frs pre).length + (fr t).length) :
    (∃ r, Fs ((frs (pre ++ t :: post)).take m) pre r) ∧ (4 ≤ m - (frs pre).length → ∀ x : UInt8, x ≠ 0 → ∃ r, Fs (turnB (frs (pre ++ t :: post)) m x) pre r) := by
  have ht := hall t (by simp)
  have hp : ∀ u ∈ pre, u.length ≤ 65536 := fun u hu => hall u (by simp [hu])
  have e : frs (pre ++ t :: post) = frs pre ++ (fr t ++ frs post) := frs_append pre (t :: post)
  refine ⟨⟨(fr t).take (m - (frs pre).length), ?_, hp, firstP_cut' ht (by omega)⟩, fun h4 x hx => ⟨turnB (fr t) (m - (frs pre).length) x ++ frs post, ?_, hp, turn_none ht h4 (by omega) hx _⟩⟩
  · rw [e, List.take_append, List.take_of_length_le h1, List.take_append_of_le_length (by omega)]
  · rw [e, turnB_right h1, turnB_left (by omega)]
end Go.Proofs.Ytoiooohdenfpmaa
