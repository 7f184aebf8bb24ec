/- Numbers and their bits, for WordBits. -/
import Derived.Test.YtofoiifckkafcaaDoorBitB
import Derived.Test.YtofoiifckkafcaaDoorBack
namespace Go.Proofs.YtofoiifckkafcaaDoor
open Go.RowKit

theorem bit_cat {i a : Nat} (X : Nat) (ha : a < 2 ^ i) (j : Nat) : (a + 2 ^ i * X).testBit j = if j < i then a.testBit j else X.testBit (j - i) := by
  rw [Nat.add_comm, Nat.testBit_two_pow_mul_add _ ha]
theorem and_cat {i a b : Nat} (X Y : Nat) (ha : a < 2 ^ i) (hb : b < 2 ^ i) : (a + 2 ^ i * X) &&& (b + 2 ^ i * Y) = (a &&& b) + 2 ^ i * (X &&& Y) := by
  apply Nat.eq_of_testBit_eq
  intro j
  rw [Nat.testBit_and, bit_cat X ha, bit_cat Y hb, bit_cat _ (Nat.and_lt_two_pow a hb)]
  split <;> rw [Nat.testBit_and]
theorem or_cat {i a b : Nat} (X Y : Nat) (ha : a < 2 ^ i) (hb : b < 2 ^ i) : (a + 2 ^ i * X) ||| (b + 2 ^ i * Y) = (a ||| b) + 2 ^ i * (X ||| Y) := by
  apply Nat.eq_of_testBit_eq
  intro j
  rw [Nat.testBit_or, bit_cat X ha, bit_cat Y hb, bit_cat _ (Nat.or_lt_two_pow ha hb)]
  split <;> rw [Nat.testBit_or]
theorem xor_cat {i a b : Nat} (X Y : Nat) (ha : a < 2 ^ i) (hb : b < 2 ^ i) : (a + 2 ^ i * X) ^^^ (b + 2 ^ i * Y) = (a ^^^ b) + 2 ^ i * (X ^^^ Y) := by
  apply Nat.eq_of_testBit_eq
  intro j
  rw [Nat.testBit_xor, bit_cat X ha, bit_cat Y hb, bit_cat _ (Nat.xor_lt_two_pow ha hb)]
  split <;> rw [Nat.testBit_xor]

theorem Dig.and {x y a0 a1 a2 a3 b0 b1 b2 b3 : Nat} (h : Dig x a0 a1 a2 a3) (k : Dig y b0 b1 b2 b3) : Dig (x &&& y) (a0 &&& b0) (a1 &&& b1) (a2 &&& b2) (a3 &&& b3) := by
  obtain ⟨h0, h1, h2, h3, rfl⟩ := h
  obtain ⟨k0, k1, k2, k3, rfl⟩ := k
  have e : M64 = 2 ^ 64 := rfl
  rw [e] at h0 h1 h2 h3 k0 k1 k2 k3
  refine ⟨?_, ?_, ?_, ?_, ?_⟩ <;> rw [e]
  · exact Nat.and_lt_two_pow _ k0
  · exact Nat.and_lt_two_pow _ k1
  · exact Nat.and_lt_two_pow _ k2
  · exact Nat.and_lt_two_pow _ k3
  · rw [and_cat _ _ h0 k0, and_cat _ _ h1 k1, and_cat _ _ h2 k2]
theorem Dig.or {x y a0 a1 a2 a3 b0 b1 b2 b3 : Nat} (h : Dig x a0 a1 a2 a3) (k : Dig y b0 b1 b2 b3) : Dig (x ||| y) (a0 ||| b0) (a1 ||| b1) (a2 ||| b2) (a3 ||| b3) := by
  obtain ⟨h0, h1, h2, h3, rfl⟩ := h
  obtain ⟨k0, k1, k2, k3, rfl⟩ := k
  have e : M64 = 2 ^ 64 := rfl
  rw [e] at h0 h1 h2 h3 k0 k1 k2 k3
  refine ⟨?_, ?_, ?_, ?_, ?_⟩ <;> rw [e]
  · exact Nat.or_lt_two_pow h0 k0
  · exact Nat.or_lt_two_pow h1 k1
  · exact Nat.or_lt_two_pow h2 k2
  · exact Nat.or_lt_two_pow h3 k3
  · rw [or_cat _ _ h0 k0, or_cat _ _ h1 k1, or_cat _ _ h2 k2]
theorem Dig.xor {x y a0 a1 a2 a3 b0 b1 b2 b3 : Nat} (h : Dig x a0 a1 a2 a3) (k : Dig y b0 b1 b2 b3) : Dig (x ^^^ y) (a0 ^^^ b0) (a1 ^^^ b1) (a2 ^^^ b2) (a3 ^^^ b3) := by
  obtain ⟨h0, h1, h2, h3, rfl⟩ := h
  obtain ⟨k0, k1, k2, k3, rfl⟩ := k
  have e : M64 = 2 ^ 64 := rfl
  rw [e] at h0 h1 h2 h3 k0 k1 k2 k3
  refine ⟨?_, ?_, ?_, ?_, ?_⟩ <;> rw [e]
  · exact Nat.xor_lt_two_pow h0 k0
  · exact Nat.xor_lt_two_pow h1 k1
  · exact Nat.xor_lt_two_pow h2 k2
  · exact Nat.xor_lt_two_pow h3 k3
  · rw [xor_cat _ _ h0 k0, xor_cat _ _ h1 k1, xor_cat _ _ h2 k2]

theorem or_and_sums : ∀ n x y : Nat, x ≤ n → x ||| y = (x ^^^ y) + (x &&& y) ∧ x + y = (x ||| y) + (x &&& y) := by
  intro n
  induction n with
  | zero => intro x y hx; obtain rfl : x = 0 := by omega
            simp
  | succ n ih =>
    intro x y hx
    by_cases h0 : x = 0
    · subst h0; simp
    obtain ⟨i1, i2⟩ := ih (x / 2) (y / 2) (by omega)
    have ex : x = x % 2 + 2 ^ 1 * (x / 2) := by omega
    have ey : y = y % 2 + 2 ^ 1 * (y / 2) := by omega
    have hx2 : x % 2 < 2 ^ 1 := by omega
    have hy2 : y % 2 < 2 ^ 1 := by omega
    rw [ex, ey, and_cat _ _ hx2 hy2, or_cat _ _ hx2 hy2, xor_cat _ _ hx2 hy2]
    have hb : (x % 2 = 0 ∨ x % 2 = 1) ∧ (y % 2 = 0 ∨ y % 2 = 1) := by omega
    rcases hb with ⟨p | p, q | q⟩ <;> rw [p, q] <;> simp <;> omega

theorem W256_two : W256 = 2 ^ 256 := by rw [W256_pow]
theorem not_and {x y : Nat} (hx : x < W256) (hy : y < W256) : W256 - 1 - (x &&& y) = (W256 - 1 - x) ||| (W256 - 1 - y) := by
  rw [W256_two] at *
  apply Nat.eq_of_testBit_eq
  intro j
  rw [Nat.testBit_or, Nat.sub_sub, Nat.sub_sub, Nat.sub_sub, Nat.add_comm 1, Nat.add_comm 1, Nat.add_comm 1, Nat.testBit_two_pow_sub_succ hx, Nat.testBit_two_pow_sub_succ hy, Nat.testBit_two_pow_sub_succ (Nat.and_lt_two_pow _ hy), Nat.testBit_and]
  cases decide (j < 256) <;> cases x.testBit j <;> cases y.testBit j <;> rfl
theorem low_mask (x : Nat) {k : Nat} (hk : k ≤ 256) : x * 2 ^ k % W256 / 2 ^ k = x &&& ((W256 - 1) / 2 ^ k) := by
  have hp : 0 < 2 ^ k := Nat.pow_pos (by decide)
  have e : 2 ^ 256 = 2 ^ (256 - k) * 2 ^ k := by rw [← Nat.pow_add, show 256 - k + k = 256 by omega]
  have hm : (2 ^ 256 - 1) / 2 ^ k = 2 ^ (256 - k) - 1 := by
    have h1 : 2 ^ 256 - 1 = (2 ^ k - 1) + 2 ^ k * (2 ^ (256 - k) - 1) := by
      rw [e, Nat.mul_sub, Nat.mul_one, Nat.mul_comm (2 ^ k)]
      have : 1 * 2 ^ k ≤ 2 ^ (256 - k) * 2 ^ k := Nat.mul_le_mul_right _ (Nat.pow_pos (by decide))
      omega
    rw [h1, Nat.add_mul_div_left _ _ hp, Nat.div_eq_of_lt (by omega), Nat.zero_add]
  rw [W256_two, hm, Nat.and_two_pow_sub_one_eq_mod, e, Nat.mul_mod_mul_right, Nat.mul_div_cancel _ hp]

end Go.Proofs.YtofoiifckkafcaaDoor
