/- The contracts of the reference's bit, moved. -/
import Derived.Test.YthbfhfgmanafpaaDoorRefE
namespace Go.Proofs.YthbfhfgmanafpaaDoor
open Go.RowKit Go.Joins

theorem i64_and_nat (a b : Nat) (ha : a < 9223372036854775808) (hb : b < 9223372036854775808) : Go.bits .and .i64 (a : Int) (b : Int) = ((a &&& b : Nat) : Int) := by
  have hx : a &&& b < 2 ^ 63 := Nat.and_lt_two_pow _ (by omega)
  show IntKind.i64.wrap ((BitVec.ofInt 64 (a : Int) &&& BitVec.ofInt 64 (b : Int)).toNat : Int) = _
  rw [BitVec.toNat_and, ofInt_u64 a (by omega), ofInt_u64 b (by omega), IntKind.wrap_i64]
  omega
theorem i64_or_nat (a b : Nat) (ha : a < 9223372036854775808) (hb : b < 9223372036854775808) : Go.bits .or .i64 (a : Int) (b : Int) = ((a ||| b : Nat) : Int) := by
  have hx : a ||| b < 2 ^ 63 := Nat.or_lt_two_pow (by omega) (by omega)
  show IntKind.i64.wrap ((BitVec.ofInt 64 (a : Int) ||| BitVec.ofInt 64 (b : Int)).toNat : Int) = _
  rw [BitVec.toNat_or, ofInt_u64 a (by omega), ofInt_u64 b (by omega), IntKind.wrap_i64]
  omega

/-- The number of the first k bits. -/
def bitsTo (f : Nat → Nat) : Nat → Nat
  | 0 => 0
  | k + 1 => bitsTo f k + f k * 2 ^ k
theorem bitsTo_lt {f : Nat → Nat} (hf : ∀ i, f i ≤ 1) (k : Nat) : bitsTo f k < 2 ^ k := by
  induction k with
  | zero => simp [bitsTo]
  | succ k ih =>
    simp only [bitsTo]
    have := Nat.mul_le_mul_right (2 ^ k) (hf k)
    rw [Nat.pow_succ]; omega
theorem byte_grow {R b k q : Nat} (hR : R < 2 ^ k) (hb : b ≤ 1) : byteOf (R + b * 2 ^ k) q = (if q = k / 8 then byteOf R q + b * 2 ^ (k % 8) else byteOf R q) ∧ byteOf R (k / 8) < 2 ^ (k % 8) ∧ byteOf R (k / 8) + b * 2 ^ (k % 8) < 256 := by
  have e : 2 ^ k = 2 ^ (k % 8) * 256 ^ (k / 8) := by
    rw [show (256 : Nat) = 2 ^ 8 by decide, ← Nat.pow_mul, ← Nat.pow_add, show k % 8 + 8 * (k / 8) = k by omega]
  have hs : k % 8 < 8 := Nat.mod_lt _ (by decide)
  have hs2 : 2 ^ (k % 8) ≤ 2 ^ 7 := Nat.pow_le_pow_right (by decide) (by omega)
  have hp : 0 < 256 ^ (k / 8) := Nat.pow_pos (by decide)
  generalize k % 8 = s at *
  generalize k / 8 = t at *
  rw [e] at hR ⊢
  have hq : R / 256 ^ t < 2 ^ s := (Nat.div_lt_iff_lt_mul hp).2 hR
  have hb2 : b * 2 ^ s ≤ 2 ^ s := by have := Nat.mul_le_mul_right (2 ^ s) hb; omega
  have hbyte : byteOf R t = R / 256 ^ t := by unfold byteOf; exact Nat.mod_eq_of_lt (by omega)
  refine ⟨?_, by rw [hbyte]; exact hq, by rw [hbyte]; omega⟩
  rw [← Nat.mul_assoc]
  split
  · rename_i h; subst h
    rw [hbyte]
    unfold byteOf
    rw [Nat.add_mul_div_right _ _ hp, Nat.mod_eq_of_lt (by omega)]
  · rename_i hne
    unfold byteOf
    rcases Nat.lt_or_ge q t with h | h
    · obtain ⟨d, rfl⟩ : ∃ d, t = q + 1 + d := ⟨t - q - 1, by omega⟩
      have hp2 : 0 < 256 ^ q := Nat.pow_pos (by decide)
      have e3 : b * 2 ^ s * 256 ^ (q + 1 + d) = 256 * (b * 2 ^ s * 256 ^ d) * 256 ^ q := by
        rw [Nat.pow_add, Nat.pow_succ]
        simp only [Nat.mul_assoc, Nat.mul_comm, Nat.mul_left_comm]
      rw [e3, Nat.add_mul_div_right _ _ hp2, Nat.add_mul_mod_self_left]
    · have hlt : 256 ^ (t + 1) ≤ 256 ^ q := Nat.pow_le_pow_right (by decide) (by omega)
      rw [Nat.pow_succ] at hlt
      have h1 : 2 ^ s * 256 ^ t ≤ 2 ^ 7 * 256 ^ t := Nat.mul_le_mul_right _ hs2
      have h2 : b * 2 ^ s * 256 ^ t ≤ 2 ^ s * 256 ^ t := Nat.mul_le_mul_right _ hb2
      rw [Nat.div_eq_of_lt (by omega), Nat.div_eq_of_lt (by omega)]

/-- Bit i of what is moved. -/
def movedBit (x : Nat) (n : Int) (fill : Nat) (i : Nat) : Nat := if 0 ≤ (i : Int) + n ∧ (i : Int) + n < 256 then x / 2 ^ ((i : Int) + n).toNat % 2 else fill
theorem movedBit_le {x : Nat} {n : Int} {fill : Nat} (hf : fill ≤ 1) (i : Nat) : movedBit x n fill i ≤ 1 := by
  unfold movedBit; split
  · have := Nat.mod_lt (x / 2 ^ ((i : Int) + n).toNat) (show 0 < 2 by decide); omega
  · exact hf

theorem bit_byte (x i : Nat) : byteOf x (i / 8) / 2 ^ (i % 8) % 2 = x / 2 ^ i % 2 := by
  unfold byteOf
  have e : 2 ^ i = 256 ^ (i / 8) * 2 ^ (i % 8) := by
    rw [show (256 : Nat) = 2 ^ 8 by decide, ← Nat.pow_mul, ← Nat.pow_add, show 8 * (i / 8) + i % 8 = i by omega]
  rw [e, ← Nat.div_div_eq_div_mul]
  generalize x / 256 ^ (i / 8) = y
  have hs : i % 8 = 0 ∨ i % 8 = 1 ∨ i % 8 = 2 ∨ i % 8 = 3 ∨ i % 8 = 4 ∨ i % 8 = 5 ∨ i % 8 = 6 ∨ i % 8 = 7 := by omega
  rcases hs with h | h | h | h | h | h | h | h <;> rw [h] <;> simp only [Nat.reducePow] <;> omega

set_option maxRecDepth 100000 in
set_option maxHeartbeats 1000000 in
theorem bit_c {x i : Nat} {v : Value} (hi : i < 256) (w : World) (hv : BytesRow w v 32 (byteOf x)) :
    Calls Tryd.prog 83 #[v, .int .i64 i] w fun e w' => e = .returned (.int .i64 (x / 2 ^ i % 2 : Nat)) ∧ w = w' := by
  obtain ⟨g, cap, rfl, hg, hc⟩ := hv
  have hcx := hc (i / 8) (by omega)
  have hb := byteOf_lt x (i / 8)
  rw [← bit_byte x i]
  have ha : Go.bits .and .i64 ((byteOf x (i / 8) : Int) / 2 ^ (i % 8)) 1 = ((byteOf x (i / 8) / 2 ^ (i % 8) % 2 : Nat) : Int) := by
    have h := i64_and_nat (byteOf x (i / 8) / 2 ^ (i % 8)) 1 (by have := Nat.div_le_self (byteOf x (i / 8)) (2 ^ (i % 8)); omega) (by decide)
    rw [Nat.and_one_is_mod] at h
    rw [← h]
    congr 1
  have h0 : (0 : Int) ≤ (i : Int) ∧ (i : Int) < 256 := by omega
  have g5 : (0 : Int) ≤ (i : Int) / 8 := by omega
  have g6 : (i : Int) / 8 < 32 := by omega
  have hr : ((byteOf x (i / 8) / 2 ^ (i % 8) % 2 : Nat) : Int) = ((byteOf x (i / 8) / 2 ^ (i % 8) % 2 : Nat) : Int) := rfl
  clear hc hr
  generalize byteOf x (i / 8) / 2 ^ (i % 8) % 2 = r at *
  generalize byteOf x (i / 8) = y at *
  go_enter Tryd.func83, Tryd.ntmps83
  go_wp2_with fail
  go_ret
  exact ⟨rfl, rfl⟩

end Go.Proofs.YthbfhfgmanafpaaDoor
