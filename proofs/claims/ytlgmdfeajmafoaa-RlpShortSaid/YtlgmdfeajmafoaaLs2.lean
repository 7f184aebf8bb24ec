/- How much stands ahead: all sizes. -/
import Derived.Test.YtlgmdfeajmafoaaLs1
namespace Go.Proofs.Ytlgmdfeajmafoaa
open Go.RowKit

theorem num_len1 {n : Nat} (h0 : n ≠ 0) (h : n < 256) : (num n).length = 1 := by
  have h1 := num_length_pos h0
  have h2 := num_length_le (n := n) 1 (by simpa using h)
  omega
theorem num_len2 {n : Nat} (h0 : 256 ≤ n) (h : n < 65536) : (num n).length = 2 := by
  rw [num_pos (by omega), List.length_append, num_len1 (n := n / 256) (by omega) (by omega)]
  rfl
theorem hd_sz (k : Nat) {n : Nat} (h : n < 65536) : (hd k n).length = if n ≤ 55 then 1 else if n < 256 then 2 else 3 := by
  unfold hd
  by_cases h1 : n ≤ 55
  · rw [if_pos h1, if_pos h1]; rfl
  · rw [if_neg h1, if_neg h1, List.length_cons]
    by_cases h2 : n < 256
    · rw [if_pos h2, num_len1 (by omega) h2]
    · rw [if_neg h2, num_len2 (by omega) h]
theorem encB_eq (s : List UInt8) : encB s = hd 192 (encT s).length ++ encT s := by simp [encB, It.enc, Fo.enc]
theorem drop_run (p s : List UInt8) (A : Nat) (hA : p.length = A) (W : World) : (Instr.slice 9 (.string (str (p ++ s))) (some (.int .i64 (A : Nat))) none none).run Try.prog W = .ok (.string (str s)) W := by
  rw [run_slice_string_l W _ _ Try.underlying9 .i64 _ (by omega) (by rw [str_size, List.length_append]; omega), Int.toNat_natCast, str_drop, ← hA, List.drop_left]
theorem first_run (b : UInt8) (W : World) : (Instr.index 9 (.string (str [b])) (.int .i64 0)).run Try.prog W = .ok (.int .u8 (b.toNat : Nat)) W := by
  rw [run_index_string W _ _ _ _ Try.underlying9, dif_pos ⟨by omega, by rw [str_size]; simp⟩]
  rfl
theorem short_c (l : List UInt8) (w : World) : Calls Try.prog 9 #[.string (str l)] w fun e w' => e = .returned (.bool true) ∧ Below w.heap.size w w' := by
  obtain ⟨s, hs⟩ : ∃ s, s = l.take 400 := ⟨_, rfl⟩
  have hlen : s.length ≤ 400 := by rw [hs, List.length_take]; omega
  have hsz := str_size l
  have hmin : (min (((str l).size : Nat) : Int) 400).toNat = min (str l).size 400 := by omega
  have hsl : ∀ W, (Instr.slice 9 (.string (str l)) none (some (.int .i64 (min (((str l).size : Nat) : Int) 400))) none).run Try.prog W = .ok (.string (str s)) W := fun W => by
    rw [run_slice_string_h W _ _ Try.underlying9 .i64 _ (by omega) (by omega), hmin, str_take, hs, hsz, show l.take (min l.length 400) = l.take 400 from by first | exact List.take_eq_take_iff.2 (by omega) | (apply List.ext_getElem <;> simp; omega)]
  have hT : encT s = hdT s ++ s := rfl
  have hTl : (encT s).length = (hdT s).length + s.length := by rw [hT, List.length_append]
  have hBl : (encB s).length = (hd 192 (encT s).length).length + (encT s).length := by rw [encB_eq, List.length_append]
  have S1 : ∀ A : Nat, (hdT s).length = A → ∀ W, (Instr.slice 9 (.string (str (encT s))) (some (.int .i64 (A : Nat))) none none).run Try.prog W = .ok (.string (str s)) W := fun A hA W => drop_run (hdT s) s A hA W
  have S2 : ∀ A : Nat, (hd 192 (encT s).length).length = A → ∀ W, (Instr.slice 9 (.string (str (encB s))) (some (.int .i64 (A : Nat))) none none).run Try.prog W = .ok (.string (str (encT s))) W := fun A hA W => by
    rw [encB_eq]; exact drop_run _ _ A hA W
  have n1 := str_size s
  have n2 := str_size (encT s)
  have n3 := str_size (encB s)
  by_cases hb : bareL s = true
  · obtain ⟨b, rfl, hb1⟩ : ∃ b, s = [b] ∧ b.toNat < 128 := by
      rcases s with _ | ⟨b, _ | ⟨c, r⟩⟩
      · cases hb
      · exact ⟨b, rfl, by simpa [bareL] using hb⟩
      · cases hb
    have h0 : (hdT [b]).length = 0 := by simp [hdT, hb]
    have h1 := hd_sz 192 (n := (encT [b]).length) (by simp at hTl; omega)
    rw [if_pos (by simp at hTl; omega)] at h1
    simp only [List.length_cons, List.length_nil] at *
    exact short1 l [b] hsl (by omega) (by omega) b.toNat (by omega) (first_run b) (by omega) (by omega) (beq_iff_eq.2 (by omega)) (beq_iff_eq.2 (by omega)) (S1 0 h0) (S2 1 h1) (by omega) (by omega) w
  · have h0 : (hdT s).length = if s.length ≤ 55 then 1 else if s.length < 256 then 2 else 3 := by
      rw [← hd_sz 128 (by omega)]
      simp [hdT, hb]
    have h1 := hd_sz 192 (n := (encT s).length) (by rw [hTl, h0]; split; omega; split <;> omega)
    by_cases hn1 : s.length = 1
    · obtain ⟨b, rfl⟩ : ∃ b, s = [b] := by
        rcases s with _ | ⟨b, _ | ⟨c, r⟩⟩
        · simp at hn1
        · exact ⟨b, rfl⟩
        · simp at hn1
      have hb1 : ¬ b.toNat < 128 := fun h => hb (by simp [bareL, h])
      rw [if_pos (by omega)] at h0
      rw [if_pos (by omega)] at h1
      simp only [List.length_cons, List.length_nil] at *
      exact short2 l [b] hsl (by omega) (by omega) b.toNat (by omega) (first_run b) (by omega) (by omega) (beq_iff_eq.2 (by omega)) (beq_iff_eq.2 (by omega)) (S1 1 h0) (S2 1 h1) (by omega) (by omega) w
    · have c1 : ¬ ((str s).size : Int) = 1 := by omega
      have c1' : (((str s).size : Int) == 1) = false := beq_eq_false_iff_ne.2 c1
      by_cases h55 : s.length ≤ 55
      · rw [if_pos h55] at h0
        by_cases h54 : s.length ≤ 54
        · rw [if_pos (by omega)] at h1
          exact short3 l s hsl (by omega) (by omega) (by omega) c1 c1' (by omega) (by omega) (beq_iff_eq.2 (by omega)) (beq_iff_eq.2 (by omega)) (S1 1 h0) (S2 1 h1) (by omega) (by omega) w
        · rw [if_neg (by omega), if_pos (by omega)] at h1
          exact short4 l s hsl (by omega) (by omega) (by omega) c1 c1' (by omega) (by omega) (beq_iff_eq.2 (by omega)) (beq_iff_eq.2 (by omega)) (S1 1 h0) (S2 2 h1) (by omega) (by omega) w
      · rw [if_neg h55] at h0
        by_cases h255 : s.length < 256
        · rw [if_pos h255] at h0
          by_cases h253 : s.length ≤ 253
          · rw [if_neg (by omega), if_pos (by omega)] at h1
            exact short5 l s hsl (by omega) (by omega) (by omega) c1 c1' (by omega) (by omega) (beq_iff_eq.2 (by omega)) (beq_iff_eq.2 (by omega)) (S1 2 h0) (S2 2 h1) (by omega) (by omega) w
          · rw [if_neg (by omega), if_neg (by omega)] at h1
            exact short6 l s hsl (by omega) (by omega) (by omega) c1 c1' (by omega) (by omega) (beq_iff_eq.2 (by omega)) (beq_iff_eq.2 (by omega)) (S1 2 h0) (S2 3 h1) (by omega) (by omega) w
        · rw [if_neg h255] at h0
          rw [if_neg (by omega), if_neg (by omega)] at h1
          exact short7 l s hsl (by omega) (by omega) (by omega) c1 c1' (by omega) (by omega) (beq_iff_eq.2 (by omega)) (beq_iff_eq.2 (by omega)) (S1 3 h0) (S2 3 h1) (by omega) (by omega) w
end Go.Proofs.Ytlgmdfeajmafoaa
