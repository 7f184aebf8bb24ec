/- Plain arithmetic of signs: no program. -/
import Derived.Test.YthbfhfgmanafpaaModG
import Derived.Test.YthbfhfgmanafpaaBytesN
import Derived.Lib.IndexBytes
namespace Go.Proofs.Ythbfhfgmanafpaa
open Go.RowKit

theorem low_byte (a k : Nat) : byteOf a k = a % 256 ^ (k + 1) / 256 ^ k := by
  unfold byteOf
  rw [Nat.pow_succ, Nat.mod_mul_right_div_self]
theorem low_half (a k : Nat) : byteOf a k < 128 ↔ 2 * (a % 256 ^ (k + 1)) < 256 ^ (k + 1) := by
  have hp : 0 < 256 ^ k := Nat.pow_pos (by decide)
  rw [low_byte, Nat.div_lt_iff_lt_mul hp, Nat.pow_succ]
  omega
theorem W_parts {k : Nat} (hk : k < 31) : W256 = 256 ^ (k + 1) * 2 ^ ((31 - k) * 8) := by
  rw [show (256 : Nat) = 2 ^ 8 by decide, ← Nat.pow_mul, ← Nat.pow_add, show 8 * (k + 1) + (31 - k) * 8 = 256 by omega]
  rfl

theorem sext_eq {k a : Nat} (hk : k < 31) : sext k a = if byteOf a k < 128 then a % 256 ^ (k + 1) else a % 256 ^ (k + 1) + (W256 - 256 ^ (k + 1)) := by
  unfold sext
  rw [if_pos hk]
  have hW := W_parts hk
  have hp : 0 < 2 ^ ((31 - k) * 8) := Nat.pow_pos (by decide)
  have hM : 0 < 256 ^ (k + 1) := Nat.pow_pos (by decide)
  have hl := Nat.mod_lt a hM
  have e : a * 2 ^ ((31 - k) * 8) % W256 = a % 256 ^ (k + 1) * 2 ^ ((31 - k) * 8) := by rw [hW, Nat.mul_mod_mul_right]
  have hh := low_half a k
  rw [e]
  unfold sarOf
  rw [Nat.min_eq_left (by omega)]
  have hev : W256 / 2 * 2 = W256 := by decide +kernel
  generalize 2 ^ ((31 - k) * 8) = P at *
  generalize hMM : 256 ^ (k + 1) = M at *
  generalize a % M = l at *
  have hlt : l * P < W256 / 2 ↔ 2 * l < M := by
    rw [show l * P < W256 / 2 ↔ 2 * (l * P) < W256 by omega, ← Nat.mul_assoc, hW, Nat.mul_lt_mul_right hp]
  by_cases hb : byteOf a k < 128
  · rw [if_pos hb, if_pos (hlt.2 (hh.1 hb)), Nat.mul_div_cancel _ hp]
  · rw [if_neg hb, if_neg (fun h => hb (hh.2 (hlt.1 h)))]
    have e2 : W256 - 1 - l * P = (P - 1) + P * (M - l - 1) := by
      rw [hW, Nat.mul_sub, Nat.mul_sub, Nat.mul_one, Nat.mul_comm P M, Nat.mul_comm P l]
      have h1 : l * P + P ≤ M * P := by
        have := Nat.mul_le_mul_right P (show l + 1 ≤ M by omega)
        rwa [Nat.succ_mul] at this
      omega
    rw [e2, Nat.add_mul_div_left _ _ hp, Nat.div_eq_of_lt (by omega), Nat.zero_add]
    have h3 : M ≤ W256 := by rw [hW]; exact Nat.le_mul_of_pos_right _ hp
    omega

theorem pow_le_W {k : Nat} (hk : k < 31) : 256 ^ (k + 1) ≤ W256 := by
  rw [W_parts hk]; exact Nat.le_mul_of_pos_right _ (Nat.pow_pos (by decide))
theorem sext_lt {k a : Nat} (hk : k < 31) : sext k a < W256 := by
  have hl := Nat.mod_lt a (show 0 < 256 ^ (k + 1) from Nat.pow_pos (by decide))
  have hw := pow_le_W hk
  rw [sext_eq hk]
  split <;> omega
theorem W_dvd {k : Nat} (hk : k < 31) : (W256 - 256 ^ (k + 1)) % 256 ^ (k + 1) = 0 := by
  rw [W_parts hk, Nat.mul_comm, ← Nat.sub_one_mul, Nat.mul_mod_left]
theorem sext_mod {k a : Nat} (hk : k < 31) : sext k a % 256 ^ (k + 1) = a % 256 ^ (k + 1) := by
  rw [sext_eq hk]
  split
  · exact Nat.mod_mod _ _
  · rw [Nat.add_mod, W_dvd hk, Nat.add_zero, Nat.mod_mod, Nat.mod_mod]
theorem sext_low {k a j : Nat} (hk : k < 31) (hj : j ≤ k) : byteOf (sext k a) j = byteOf a j := by
  rw [low_byte, low_byte]
  have d : 256 ^ (j + 1) ∣ 256 ^ (k + 1) := Nat.pow_dvd_pow _ (by omega)
  rw [← Nat.mod_mod_of_dvd (sext k a) d, sext_mod hk, Nat.mod_mod_of_dvd _ d]
theorem sext_again {k a : Nat} (hk : k < 31) : sext k (sext k a) = sext k a := by
  rw [sext_eq hk (a := sext k a), sext_low hk (Nat.le_refl _), sext_mod hk, ← sext_eq hk]

theorem ones_byte {m i : Nat} (h : i < m) : (256 ^ m - 1) / 256 ^ i % 256 = 255 := by
  obtain ⟨d, rfl⟩ : ∃ d, m = d + 1 + i := ⟨m - i - 1, by omega⟩
  have hp : 0 < 256 ^ i := Nat.pow_pos (by decide)
  have hd : 0 < 256 ^ d := Nat.pow_pos (by decide)
  have e : 256 ^ (d + 1 + i) - 1 = (256 ^ i - 1) + 256 ^ i * (256 ^ (d + 1) - 1) := by
    rw [Nat.pow_add 256 (d + 1) i, Nat.mul_sub, Nat.mul_one, Nat.mul_comm (256 ^ (d + 1))]
    have : 256 ^ i ≤ 256 ^ i * 256 ^ (d + 1) := Nat.le_mul_of_pos_right _ (Nat.pow_pos (by decide))
    omega
  rw [e, Nat.add_mul_div_left _ _ hp, Nat.div_eq_of_lt (by omega), Nat.zero_add, Nat.pow_succ]
  omega
theorem sext_high {k a j : Nat} (hk : k < 31) (hj : k < j) (hj2 : j < 32) : byteOf (sext k a) j = if byteOf a k < 128 then 0 else 255 := by
  have hl := Nat.mod_lt a (show 0 < 256 ^ (k + 1) from Nat.pow_pos (by decide))
  have hle : 256 ^ (k + 1) ≤ 256 ^ j := Nat.pow_le_pow_right (by decide) (by omega)
  rw [sext_eq hk]
  unfold byteOf
  by_cases hb : a / 256 ^ k % 256 < 128
  · rw [if_pos hb, if_pos hb, Nat.div_eq_of_lt (by omega)]
  · rw [if_neg hb, if_neg hb]
    have e : a % 256 ^ (k + 1) + (W256 - 256 ^ (k + 1)) = a % 256 ^ (k + 1) + 256 ^ (k + 1) * (256 ^ (31 - k) - 1) := by
      rw [Nat.mul_sub, Nat.mul_one, ← Nat.pow_add, show k + 1 + (31 - k) = 32 by omega]; rfl
    have e2 : 256 ^ j = 256 ^ (k + 1) * 256 ^ (j - (k + 1)) := by rw [← Nat.pow_add, show k + 1 + (j - (k + 1)) = j by omega]
    rw [e, e2, ← Nat.div_div_eq_div_mul, Nat.add_mul_div_left _ _ (Nat.pow_pos (by decide)), Nat.div_eq_of_lt hl, Nat.zero_add]
    exact ones_byte (by omega)

theorem drop_tail256 (x n d : Nat) : (tail256 x (d + n)).drop d = tail256 x n := by
  induction d with
  | zero => simp
  | succ d ih => rw [show d + 1 + n = (d + n) + 1 by omega]; simp only [tail256, List.drop_succ_cons]; exact ih
theorem tail256_congr {x y n : Nat} (h : ∀ j, j < n → byteOf x j = byteOf y j) : tail256 x n = tail256 y n := by
  induction n with
  | zero => rfl
  | succ n ih => simp only [tail256]; rw [h n (by omega), ih fun j hj => h j (by omega)]
theorem sext_tail {k a : Nat} (hk : k < 31) : (bytesOf (sext k a)).extract (31 - k) (bytesOf (sext k a)).size = (bytesOf a).extract (31 - k) (bytesOf a).size := by
  have key : ∀ x, ((bytesOf x).extract (31 - k) (bytesOf x).size).data.toList = tail256 x (k + 1) := by
    intro x
    rw [Lib.extract_to_end, ← ByteArray.toList_eq, bytesOf_list]
    have := drop_tail256 x (k + 1) (31 - k)
    rwa [show 31 - k + (k + 1) = 32 by omega] at this
  have h2 : ((bytesOf (sext k a)).extract (31 - k) (bytesOf (sext k a)).size).data.toList = ((bytesOf a).extract (31 - k) (bytesOf a).size).data.toList := by
    rw [key, key]
    exact tail256_congr fun j hj => sext_low hk (by omega)
  exact ByteArray.ext (Array.toList_inj.1 h2)

end Go.Proofs.Ythbfhfgmanafpaa
