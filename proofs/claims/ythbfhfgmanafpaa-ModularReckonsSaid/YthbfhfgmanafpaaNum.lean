/- Plain arithmetic of numbers of four limbs: no program. -/
import Derived.Test.YthbfhfgmanafpaaBase
namespace Go.Proofs.Ythbfhfgmanafpaa
open Go.RowKit

/-- Limb i of four, lowest first. -/
def nth (d c b a : Nat) (i : Nat) : Nat := match i with | 0 => d | 1 => c | 2 => b | _ => a

/-- 2^256, kept from the walk. -/
def W256 : Nat := M64 * (M64 * (M64 * M64))

/-- n's limbs, the lowest first. -/
structure Dig (n d0 d1 d2 d3 : Nat) : Prop where
  h0 : d0 < M64
  h1 : d1 < M64
  h2 : d2 < M64
  h3 : d3 < M64
  eq : n = d0 + M64 * (d1 + M64 * (d2 + M64 * d3))

theorem Dig.lt {n d0 d1 d2 d3 : Nat} (h : Dig n d0 d1 d2 d3) : n < W256 := by
  obtain ⟨h0, h1, h2, h3, rfl⟩ := h
  unfold W256 M64 at *
  omega

theorem Dig.nth {n d0 d1 d2 d3 : Nat} (h : Dig n d0 d1 d2 d3) (k : Nat) : nth d0 d1 d2 d3 k < M64 := by
  obtain ⟨h0, h1, h2, h3, _⟩ := h
  unfold Go.Proofs.Ythbfhfgmanafpaa.nth; split <;> assumption

theorem Dig.inj {n d0 d1 d2 d3 e0 e1 e2 e3 : Nat} (h : Dig n d0 d1 d2 d3) (k : Dig n e0 e1 e2 e3) : d0 = e0 ∧ d1 = e1 ∧ d2 = e2 ∧ d3 = e3 := by
  obtain ⟨h0, h1, h2, h3, rfl⟩ := h
  obtain ⟨k0, k1, k2, k3, e⟩ := k
  unfold M64 at *
  omega

/-- Every number below 2^256 has limbs. -/
theorem Dig.of {n : Nat} (h : n < W256) : Dig n (n % M64) (n / M64 % M64) (n / M64 / M64 % M64) (n / M64 / M64 / M64) := by
  unfold W256 M64 at h
  refine ⟨?_, ?_, ?_, ?_, ?_⟩ <;> unfold M64 <;> omega

/-- What is carried into limb k, and limb k of the sum. -/
def addC (x y : Nat → Nat) : Nat → Nat
  | 0 => 0
  | k + 1 => (x k + y k + addC x y k) / M64
def addD (x y : Nat → Nat) (k : Nat) : Nat := (x k + y k + addC x y k) % M64
/-- What is borrowed from limb k, and limb k of the difference. -/
def subC (x y : Nat → Nat) : Nat → Nat
  | 0 => 0
  | k + 1 => if x k < y k + subC x y k then 1 else 0
def subD (x y : Nat → Nat) (k : Nat) : Nat := (x k + M64 - y k - subC x y k) % M64

theorem addC_le {x y : Nat → Nat} (hx : ∀ k, x k < M64) (hy : ∀ k, y k < M64) (k : Nat) : addC x y k ≤ 1 := by
  induction k with
  | zero => simp [addC]
  | succ k ih =>
    have := hx k; have := hy k
    simp only [addC]
    unfold M64 at *
    omega
theorem subC_le {x y : Nat → Nat} (k : Nat) : subC x y k ≤ 1 := by
  cases k with
  | zero => simp [subC]
  | succ k => simp only [subC]; split <;> omega

theorem add_step (x y c : Nat) : x + y + c = (x + y + c) % M64 + M64 * ((x + y + c) / M64) := (Nat.mod_add_div _ _).symm
theorem sub_step (x y c : Nat) (hx : x < M64) (hy : y < M64) (hc : c ≤ 1) : x + M64 * (if x < y + c then 1 else 0) = (x + M64 - y - c) % M64 + y + c := by
  unfold M64 at *
  split <;> omega

theorem add_digits {x y x0 x1 x2 x3 y0 y1 y2 y3 : Nat} (hx : Dig x x0 x1 x2 x3) (hy : Dig y y0 y1 y2 y3) :
    ∃ s, Dig s (addD (nth x0 x1 x2 x3) (nth y0 y1 y2 y3) 0) (addD (nth x0 x1 x2 x3) (nth y0 y1 y2 y3) 1) (addD (nth x0 x1 x2 x3) (nth y0 y1 y2 y3) 2) (addD (nth x0 x1 x2 x3) (nth y0 y1 y2 y3) 3) ∧
      x + y = s + W256 * addC (nth x0 x1 x2 x3) (nth y0 y1 y2 y3) 4 := by
  have pos : 0 < M64 := by unfold M64; omega
  refine ⟨_, ⟨Nat.mod_lt _ pos, Nat.mod_lt _ pos, Nat.mod_lt _ pos, Nat.mod_lt _ pos, rfl⟩, ?_⟩
  obtain ⟨_, _, _, _, rfl⟩ := hx
  obtain ⟨_, _, _, _, rfl⟩ := hy
  have a0 := add_step x0 y0 (addC (nth x0 x1 x2 x3) (nth y0 y1 y2 y3) 0)
  have a1 := add_step x1 y1 (addC (nth x0 x1 x2 x3) (nth y0 y1 y2 y3) 1)
  have a2 := add_step x2 y2 (addC (nth x0 x1 x2 x3) (nth y0 y1 y2 y3) 2)
  have a3 := add_step x3 y3 (addC (nth x0 x1 x2 x3) (nth y0 y1 y2 y3) 3)
  have z : addC (nth x0 x1 x2 x3) (nth y0 y1 y2 y3) 0 = 0 := rfl
  have d0 : addD (nth x0 x1 x2 x3) (nth y0 y1 y2 y3) 0 = (x0 + y0 + addC (nth x0 x1 x2 x3) (nth y0 y1 y2 y3) 0) % M64 := rfl
  have d1 : addD (nth x0 x1 x2 x3) (nth y0 y1 y2 y3) 1 = (x1 + y1 + addC (nth x0 x1 x2 x3) (nth y0 y1 y2 y3) 1) % M64 := rfl
  have d2 : addD (nth x0 x1 x2 x3) (nth y0 y1 y2 y3) 2 = (x2 + y2 + addC (nth x0 x1 x2 x3) (nth y0 y1 y2 y3) 2) % M64 := rfl
  have d3 : addD (nth x0 x1 x2 x3) (nth y0 y1 y2 y3) 3 = (x3 + y3 + addC (nth x0 x1 x2 x3) (nth y0 y1 y2 y3) 3) % M64 := rfl
  have c1 : addC (nth x0 x1 x2 x3) (nth y0 y1 y2 y3) 1 = (x0 + y0 + addC (nth x0 x1 x2 x3) (nth y0 y1 y2 y3) 0) / M64 := rfl
  have c2 : addC (nth x0 x1 x2 x3) (nth y0 y1 y2 y3) 2 = (x1 + y1 + addC (nth x0 x1 x2 x3) (nth y0 y1 y2 y3) 1) / M64 := rfl
  have c3 : addC (nth x0 x1 x2 x3) (nth y0 y1 y2 y3) 3 = (x2 + y2 + addC (nth x0 x1 x2 x3) (nth y0 y1 y2 y3) 2) / M64 := rfl
  have c4 : addC (nth x0 x1 x2 x3) (nth y0 y1 y2 y3) 4 = (x3 + y3 + addC (nth x0 x1 x2 x3) (nth y0 y1 y2 y3) 3) / M64 := rfl
  rw [← d0, ← c1] at a0
  rw [← d1, ← c2] at a1
  rw [← d2, ← c3] at a2
  rw [← d3, ← c4] at a3
  clear d0 d1 d2 d3 c1 c2 c3 c4
  generalize addC (nth x0 x1 x2 x3) (nth y0 y1 y2 y3) 0 = k0 at *
  generalize addC (nth x0 x1 x2 x3) (nth y0 y1 y2 y3) 1 = k1 at *
  generalize addC (nth x0 x1 x2 x3) (nth y0 y1 y2 y3) 2 = k2 at *
  generalize addC (nth x0 x1 x2 x3) (nth y0 y1 y2 y3) 3 = k3 at *
  generalize addC (nth x0 x1 x2 x3) (nth y0 y1 y2 y3) 4 = k4 at *
  generalize addD (nth x0 x1 x2 x3) (nth y0 y1 y2 y3) 0 = s0 at *
  generalize addD (nth x0 x1 x2 x3) (nth y0 y1 y2 y3) 1 = s1 at *
  generalize addD (nth x0 x1 x2 x3) (nth y0 y1 y2 y3) 2 = s2 at *
  generalize addD (nth x0 x1 x2 x3) (nth y0 y1 y2 y3) 3 = s3 at *
  unfold W256 M64 at *
  omega

theorem sub_digits {x y x0 x1 x2 x3 y0 y1 y2 y3 : Nat} (hx : Dig x x0 x1 x2 x3) (hy : Dig y y0 y1 y2 y3) :
    ∃ s, Dig s (subD (nth x0 x1 x2 x3) (nth y0 y1 y2 y3) 0) (subD (nth x0 x1 x2 x3) (nth y0 y1 y2 y3) 1) (subD (nth x0 x1 x2 x3) (nth y0 y1 y2 y3) 2) (subD (nth x0 x1 x2 x3) (nth y0 y1 y2 y3) 3) ∧
      x + W256 * subC (nth x0 x1 x2 x3) (nth y0 y1 y2 y3) 4 = s + y := by
  have pos : 0 < M64 := by unfold M64; omega
  refine ⟨_, ⟨Nat.mod_lt _ pos, Nat.mod_lt _ pos, Nat.mod_lt _ pos, Nat.mod_lt _ pos, rfl⟩, ?_⟩
  obtain ⟨hx0, hx1, hx2, hx3, rfl⟩ := hx
  obtain ⟨hy0, hy1, hy2, hy3, rfl⟩ := hy
  have a0 := sub_step x0 y0 (subC (nth x0 x1 x2 x3) (nth y0 y1 y2 y3) 0) hx0 hy0 (subC_le _)
  have a1 := sub_step x1 y1 (subC (nth x0 x1 x2 x3) (nth y0 y1 y2 y3) 1) hx1 hy1 (subC_le _)
  have a2 := sub_step x2 y2 (subC (nth x0 x1 x2 x3) (nth y0 y1 y2 y3) 2) hx2 hy2 (subC_le _)
  have a3 := sub_step x3 y3 (subC (nth x0 x1 x2 x3) (nth y0 y1 y2 y3) 3) hx3 hy3 (subC_le _)
  have z : subC (nth x0 x1 x2 x3) (nth y0 y1 y2 y3) 0 = 0 := rfl
  have d0 : subD (nth x0 x1 x2 x3) (nth y0 y1 y2 y3) 0 = (x0 + M64 - y0 - subC (nth x0 x1 x2 x3) (nth y0 y1 y2 y3) 0) % M64 := rfl
  have d1 : subD (nth x0 x1 x2 x3) (nth y0 y1 y2 y3) 1 = (x1 + M64 - y1 - subC (nth x0 x1 x2 x3) (nth y0 y1 y2 y3) 1) % M64 := rfl
  have d2 : subD (nth x0 x1 x2 x3) (nth y0 y1 y2 y3) 2 = (x2 + M64 - y2 - subC (nth x0 x1 x2 x3) (nth y0 y1 y2 y3) 2) % M64 := rfl
  have d3 : subD (nth x0 x1 x2 x3) (nth y0 y1 y2 y3) 3 = (x3 + M64 - y3 - subC (nth x0 x1 x2 x3) (nth y0 y1 y2 y3) 3) % M64 := rfl
  have c1 : subC (nth x0 x1 x2 x3) (nth y0 y1 y2 y3) 1 = (if x0 < y0 + subC (nth x0 x1 x2 x3) (nth y0 y1 y2 y3) 0 then 1 else 0) := rfl
  have c2 : subC (nth x0 x1 x2 x3) (nth y0 y1 y2 y3) 2 = (if x1 < y1 + subC (nth x0 x1 x2 x3) (nth y0 y1 y2 y3) 1 then 1 else 0) := rfl
  have c3 : subC (nth x0 x1 x2 x3) (nth y0 y1 y2 y3) 3 = (if x2 < y2 + subC (nth x0 x1 x2 x3) (nth y0 y1 y2 y3) 2 then 1 else 0) := rfl
  have c4 : subC (nth x0 x1 x2 x3) (nth y0 y1 y2 y3) 4 = (if x3 < y3 + subC (nth x0 x1 x2 x3) (nth y0 y1 y2 y3) 3 then 1 else 0) := rfl
  rw [← d0, ← c1] at a0
  rw [← d1, ← c2] at a1
  rw [← d2, ← c3] at a2
  rw [← d3, ← c4] at a3
  clear d0 d1 d2 d3 c1 c2 c3 c4
  generalize subC (nth x0 x1 x2 x3) (nth y0 y1 y2 y3) 0 = k0 at *
  generalize subC (nth x0 x1 x2 x3) (nth y0 y1 y2 y3) 1 = k1 at *
  generalize subC (nth x0 x1 x2 x3) (nth y0 y1 y2 y3) 2 = k2 at *
  generalize subC (nth x0 x1 x2 x3) (nth y0 y1 y2 y3) 3 = k3 at *
  generalize subC (nth x0 x1 x2 x3) (nth y0 y1 y2 y3) 4 = k4 at *
  generalize subD (nth x0 x1 x2 x3) (nth y0 y1 y2 y3) 0 = s0 at *
  generalize subD (nth x0 x1 x2 x3) (nth y0 y1 y2 y3) 1 = s1 at *
  generalize subD (nth x0 x1 x2 x3) (nth y0 y1 y2 y3) 2 = s2 at *
  generalize subD (nth x0 x1 x2 x3) (nth y0 y1 y2 y3) 3 = s3 at *
  unfold W256 M64 at *
  omega


/-- The number with all bits turned round. -/
theorem Dig.not {n d0 d1 d2 d3 : Nat} (h : Dig n d0 d1 d2 d3) : Dig (W256 - 1 - n) (M64 - 1 - d0) (M64 - 1 - d1) (M64 - 1 - d2) (M64 - 1 - d3) := by
  obtain ⟨h0, h1, h2, h3, rfl⟩ := h
  unfold W256 M64 at *
  refine ⟨?_, ?_, ?_, ?_, ?_⟩ <;> unfold M64 <;> omega

theorem xor_low (y : Nat) (hy : y < 2 ^ 63) : y ^^^ 2 ^ 63 = 2 ^ 63 * 1 + y := by
  apply Nat.eq_of_testBit_eq
  intro j
  rw [Nat.testBit_xor, Nat.testBit_two_pow, Nat.testBit_two_pow_mul_add 1 hy]
  by_cases h : j < 63
  · rw [if_pos h, decide_eq_false (by omega)]; simp
  · rw [if_neg h, Nat.testBit_lt_two_pow (Nat.lt_of_lt_of_le hy (Nat.pow_le_pow_right (by omega) (by omega)))]
    by_cases e : j = 63
    · subst e; rfl
    · rw [decide_eq_false (by omega)]
      have : Nat.testBit 1 (j - 63) = false := Nat.testBit_lt_two_pow (Nat.one_lt_two_pow (by omega))
      rw [this]; rfl
theorem xor_top (x : Nat) (hx : x < 2 ^ 64) : x ^^^ 2 ^ 63 = (x + 2 ^ 63) % 2 ^ 64 := by
  by_cases h : x < 2 ^ 63
  · rw [xor_low x h, Nat.mod_eq_of_lt (by omega)]; omega
  · have e : x = 2 ^ 63 * 1 + (x - 2 ^ 63) := by omega
    have hy : x - 2 ^ 63 < 2 ^ 63 := by omega
    rw [e, ← xor_low _ hy, Nat.xor_assoc, Nat.xor_self, Nat.xor_zero, xor_low _ hy]
    omega

theorem or_eq_zero (a b : Nat) : a ||| b = 0 ↔ a = 0 ∧ b = 0 := by
  constructor
  · intro h
    have h1 : a ≤ a ||| b := Nat.left_le_or
    have h2 : b ≤ a ||| b := Nat.right_le_or
    omega
  · rintro ⟨rfl, rfl⟩; rfl
theorem small_of {x a0 a1 a2 a3 : Nat} (hx : Dig x a0 a1 a2 a3) : (((a3 ||| a2 ||| a1 : Nat) : Int) == 0) = decide (x < M64) := by
  obtain ⟨h0, h1, h2, h3, rfl⟩ := hx
  rw [Bool.eq_iff_iff]
  simp only [beq_iff_eq, decide_eq_true_eq]
  have e : ((a3 ||| a2 ||| a1 : Nat) : Int) = 0 ↔ a3 ||| a2 ||| a1 = 0 := by omega
  rw [e, or_eq_zero, or_eq_zero]
  unfold M64 at *
  omega
theorem or_lt {a b : Nat} (ha : a < M64) (hb : b < M64) : a ||| b < M64 := Nat.or_lt_two_pow (n := 64) ha hb

/-- With the highest bit turned round. -/
def flip63 (a : Nat) : Nat := (a + M64 / 2) % M64
def flip255 (n : Nat) : Nat := (n + W256 / 2) % W256
theorem Dig.flip {n d0 d1 d2 d3 : Nat} (h : Dig n d0 d1 d2 d3) : Dig (flip255 n) d0 d1 d2 (flip63 d3) := by
  obtain ⟨h0, h1, h2, h3, rfl⟩ := h
  unfold flip255 flip63 W256 M64 at *
  refine ⟨?_, ?_, ?_, ?_, ?_⟩ <;> unfold M64 <;> omega
theorem dig_zero : Dig 0 0 0 0 0 := ⟨by decide, by decide, by decide, by decide, rfl⟩
theorem dig_small {n : Nat} (h : n < M64) : Dig n n 0 0 0 := ⟨h, by decide, by decide, by decide, by simp⟩
theorem dig_all : Dig (W256 - 1) (M64 - 1) (M64 - 1) (M64 - 1) (M64 - 1) := by
  refine ⟨?_, ?_, ?_, ?_, ?_⟩ <;> simp only [W256, M64] <;> omega

end Go.Proofs.Ythbfhfgmanafpaa
