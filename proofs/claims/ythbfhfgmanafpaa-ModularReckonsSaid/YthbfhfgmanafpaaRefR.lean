/- The numbers of the reference's Divide. -/
import Derived.Test.YthbfhfgmanafpaaRefQ
namespace Go.Proofs.Ythbfhfgmanafpaa
open Go.RowKit Go.Joins

/-- A number without its lowest t bits. -/
def keepN (q t : Nat) : Nat := q / 2 ^ t * 2 ^ t
theorem keep_testBit (q t m : Nat) : (keepN q t).testBit m = (decide (t ≤ m) && q.testBit m) := by
  unfold keepN
  rw [← Nat.shiftLeft_eq, Nat.testBit_shiftLeft, Nat.testBit_div_two_pow]
  by_cases h : t ≤ m
  · rw [Nat.sub_add_cancel h]
  · simp [h]
theorem byteOf_testBit (x j k : Nat) : (byteOf x j).testBit k = (decide (k < 8) && x.testBit (8 * j + k)) := by
  unfold byteOf
  rw [show (256 : Nat) ^ j = 2 ^ (8 * j) by rw [show (256 : Nat) = 2 ^ 8 by rfl, ← Nat.pow_mul], show (256 : Nat) = 2 ^ 8 by rfl, Nat.testBit_mod_two_pow, Nat.testBit_div_two_pow, Nat.add_comm k]
theorem keep_bit {q i : Nat} (h : q.testBit i = true) (j : Nat) : byteOf (keepN q i) j = ups (byteOf (keepN q (i + 1))) (i / 8) (byteOf (keepN q (i + 1)) (i / 8) ||| 2 ^ (i % 8)) j := by
  apply Nat.eq_of_testBit_eq
  intro k
  have e : (ups (byteOf (keepN q (i + 1))) (i / 8) (byteOf (keepN q (i + 1)) (i / 8) ||| 2 ^ (i % 8)) j).testBit k = ((decide (k < 8) && (decide (i + 1 ≤ 8 * j + k) && q.testBit (8 * j + k))) || decide (j = i / 8 ∧ i % 8 = k)) := by
    unfold ups
    by_cases hj : j = i / 8
    · rw [if_pos hj, Nat.testBit_or, Nat.testBit_two_pow, ← hj, byteOf_testBit, keep_testBit]
      simp
    · rw [if_neg hj, byteOf_testBit, keep_testBit]
      simp [hj]
  rw [e, byteOf_testBit, keep_testBit]
  by_cases hk : k < 8
  · by_cases h1 : i + 1 ≤ 8 * j + k
    · simp [hk, h1, show i ≤ 8 * j + k by omega, show ¬ (j = i / 8 ∧ i % 8 = k) by omega]
    · by_cases h2 : i = 8 * j + k
      · rw [← h2]
        simp [hk, h, show j = i / 8 ∧ i % 8 = k by omega]
      · simp [hk, h1, show ¬ i ≤ 8 * j + k by omega, show ¬ (j = i / 8 ∧ i % 8 = k) by omega]
  · simp [hk, show ¬ (j = i / 8 ∧ i % 8 = k) by omega]
theorem keep_same {q i : Nat} (h : q.testBit i = false) : keepN q i = keepN q (i + 1) := by
  apply Nat.eq_of_testBit_eq
  intro m
  rw [keep_testBit, keep_testBit]
  by_cases e : i = m
  · subst e; simp [h]
  · by_cases h1 : i ≤ m
    · simp [h1, show i + 1 ≤ m by omega]
    · simp [h1, show ¬ i + 1 ≤ m by omega]
theorem keep_none {q t : Nat} (h : q < 2 ^ t) : keepN q t = 0 := by unfold keepN; rw [Nat.div_eq_of_lt h, Nat.zero_mul]
theorem keep_all (q : Nat) : keepN q 0 = q := by unfold keepN; simp
/-- One bit of a long division. -/
theorem div_bit {x y : Nat} (hy : 0 < y) (i : Nat) :
    x / 2 ^ i % y = (if y ≤ 2 * (x / 2 ^ (i + 1) % y) + x / 2 ^ i % 2 then 2 * (x / 2 ^ (i + 1) % y) + x / 2 ^ i % 2 - y else 2 * (x / 2 ^ (i + 1) % y) + x / 2 ^ i % 2) ∧
    (x / y).testBit i = decide (y ≤ 2 * (x / 2 ^ (i + 1) % y) + x / 2 ^ i % 2) := by
  have h1 : x / 2 ^ (i + 1) = x / 2 ^ i / 2 := by rw [Nat.div_div_eq_div_mul, Nat.pow_succ]
  have h2 : x / y / 2 ^ i = x / 2 ^ i / y := by rw [Nat.div_div_eq_div_mul, Nat.div_div_eq_div_mul, Nat.mul_comm]
  rw [Nat.testBit_eq_decide_div_mod_eq, h2, h1]
  generalize x / 2 ^ i = z
  have h3 := Nat.div_add_mod (z / 2) y
  have h4 := Nat.mod_lt (z / 2) hy
  generalize z / 2 % y = r at *
  generalize hq : z / 2 / y = q at *
  have hz : z = y * (2 * q) + (2 * r + z % 2) := by
    rw [show y * (2 * q) = 2 * (y * q) by rw [Nat.mul_left_comm]]
    omega
  have hm : z % 2 < 2 := Nat.mod_lt _ (by decide)
  generalize z % 2 = b at *
  by_cases h : y ≤ 2 * r + b
  · rw [if_pos h]
    have e1 : z = (2 * r + b - y) + y * (2 * q + 1) := by rw [Nat.mul_add, Nat.mul_one]; omega
    have h5 : 2 * r + b - y < y := by omega
    refine ⟨by rw [e1, Nat.add_mul_mod_self_left, Nat.mod_eq_of_lt h5], ?_⟩
    rw [e1, Nat.add_mul_div_left _ _ hy, Nat.div_eq_of_lt h5]
    simp [h]
  · rw [if_neg h]
    have h5 : 2 * r + b < y := by omega
    have e1 : z = (2 * r + b) + y * (2 * q) := by omega
    refine ⟨by rw [e1, Nat.add_mul_mod_self_left, Nat.mod_eq_of_lt h5], ?_⟩
    rw [e1, Nat.add_mul_div_left _ _ hy, Nat.div_eq_of_lt h5]
    simp [h]
/-- Twice a number, and a bit, limb by limb. -/
theorem twice {r r0 r1 r2 r3 b : Nat} (h : Dig r r0 r1 r2 r3) (hb : b < 2) :
    Dig ((2 * r + b) % W256) (r0 * 2 % M64 + b) (r1 * 2 % M64 + r0 / 9223372036854775808) (r2 * 2 % M64 + r1 / 9223372036854775808) (r3 * 2 % M64 + r2 / 9223372036854775808) := by
  obtain ⟨h0, h1, h2, h3, rfl⟩ := h
  unfold M64 W256 at *
  refine ⟨?_, ?_, ?_, ?_, ?_⟩ <;> (try unfold M64) <;> omega
theorem or_low (x : Nat) {b : Nat} (hb : b < 2) : (x * 2 % M64) ||| b = x * 2 % M64 + b := by
  have h1 : x * 2 % M64 = 2 ^ 1 * (x % 9223372036854775808) := by unfold M64; omega
  rw [h1, Nat.two_pow_add_eq_or_of_lt (by simpa using hb)]
theorem or_twice {x b : Nat} (hb : b < 2) : Go.bits .or .u64 (IntKind.u64.wrap ((x : Int) * 2)) (b : Int) = ((x * 2 % M64 + b : Nat) : Int) := by
  have e : IntKind.u64.wrap ((x : Int) * 2) = ((x * 2 % M64 : Nat) : Int) := by rw [IntKind.wrap_u64]; unfold M64; omega
  have h := bits_or_u64_nat (x * 2 % M64) b (Nat.mod_lt _ (by decide)) (by omega)
  rw [e]
  exact h.trans (by rw [or_low x hb])
theorem lowB_inj {a : Nat → Nat} (ha : ∀ j, a j < 256) {n j : Nat} (hj : j < n) : byteOf (lowB a n) j = a j := by
  induction n with
  | zero => omega
  | succ n ih =>
    have hl := lowB_lt ha n
    show (lowB a n + a n * 256 ^ n) / 256 ^ j % 256 = a j
    by_cases e : j = n
    · subst e
      rw [Nat.add_mul_div_right _ _ (Nat.pow_pos (by decide)), Nat.div_eq_of_lt hl, Nat.zero_add, Nat.mod_eq_of_lt (ha j)]
    · obtain ⟨d, rfl⟩ : ∃ d, n = j + 1 + d := ⟨n - j - 1, by omega⟩
      rw [show a (j + 1 + d) * 256 ^ (j + 1 + d) = 256 * (a (j + 1 + d) * 256 ^ d) * 256 ^ j by
        rw [Nat.pow_add, Nat.pow_succ]; simp only [Nat.mul_assoc, Nat.mul_comm, Nat.mul_left_comm], Nat.add_mul_div_right _ _ (Nat.pow_pos (by decide)), Nat.add_mul_mod_self_left]
      exact ih (by omega)
end Go.Proofs.Ythbfhfgmanafpaa
