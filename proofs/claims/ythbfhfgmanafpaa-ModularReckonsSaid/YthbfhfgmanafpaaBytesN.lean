/- Texts of a number's bytes. -/
import Derived.Test.YthbfhfgmanafpaaWordB
namespace Go.Proofs.Ythbfhfgmanafpaa
open Go.RowKit

theorem index_str (s : ByteArray) (i : Int) (j : Nat) (hj : j < s.size) (e : i = (j : Int)) (W : World) : (Instr.index 9 (.string s) (.int .i64 i)).run Try.prog W = .ok (.int .u8 ((s[j]'hj).toNat : Int)) W := by
  subst e
  rw [run_index_string W _ _ _ _ Try.underlying9, dif_pos ⟨by omega, by omega⟩]
  simp

/-- Byte j of a text (0 past its end); the number of its last k bytes. -/
def byteAt (s : ByteArray) (j : Nat) : Nat := if h : j < s.size then (s[j]'h).toNat else 0
theorem byteAt_lt (s : ByteArray) (j : Nat) : byteAt s j < 256 := by
  unfold byteAt; split
  · exact UInt8.toNat_lt _
  · omega

theorem bytesOf_size (x : Nat) : (bytesOf x).size = 32 := by unfold bytesOf; rw [strOfNums_size]; simp

theorem byteAt_bytes (x j : Nat) (hj : j < 32) : byteAt (bytesOf x) j = byteOf x (31 - j) := by
  have hb : byteOf x (31 - j) < 256 := Nat.mod_lt _ (by decide)
  have hs : j < (bytesOf x).size := by rw [bytesOf_size]; exact hj
  unfold byteAt
  rw [dif_pos hs]
  have : (bytesOf x)[j]'hs = UInt8.ofNat (byteOf x (31 - j)) := by
    simp [bytesOf, strOfNums, ByteArray.getElem_eq_getElem_data]
  rw [this, UInt8.toNat_ofNat_of_lt' hb]
def tail256 (x : Nat) : Nat → List UInt8
  | 0 => []
  | n + 1 => UInt8.ofNat (byteOf x n) :: tail256 x n
theorem tail256_length (x n : Nat) : (tail256 x n).length = n := by
  induction n with
  | zero => rfl
  | succ n ih => simp [tail256, ih]
theorem bytesOf_list (x : Nat) : (bytesOf x).toList = tail256 x 32 := by
  rw [ByteArray.toList_eq]
  simp [bytesOf, strOfNums, tail256, List.range_succ]

/-- An index of a text by an int. -/
theorem index_i64 (s : ByteArray) (i : Int) (j : Nat) (hj : j < s.size) (e : i = (j : Int)) (W : World) : (Instr.index 9 (.string s) (.int .i64 i)).run Try.prog W = .ok (.int .u8 (byteAt s j : Int)) W := by
  rw [index_str s i j hj e]
  unfold byteAt
  rw [dif_pos hj]
theorem of_step {v d0 d1 d2 d3 k b : Nat} (hD : Dig v d0 d1 d2 d3) (hv : v < 256 ^ k) (hk : k < 32) (hb : b < 256) :
    nth d0 d1 d2 d3 (k / 8) < 2 ^ (k % 8 * 8) ∧ b * 2 ^ (k % 8 * 8) < M64 ∧ v + b * 256 ^ k < 256 ^ (k + 1) ∧
      ∃ e0 e1 e2 e3, Dig (v + b * 256 ^ k) e0 e1 e2 e3 ∧ (four d0 d1 d2 d3).setIfInBounds (k / 8) (.int .u64 ((nth d0 d1 d2 d3 (k / 8) + b * 2 ^ (k % 8 * 8) : Nat) : Int)) = four e0 e1 e2 e3 := by
  obtain ⟨h0, h1, h2, h3, rfl⟩ := hD
  have e : k = k / 8 * 8 + k % 8 := by omega
  have hq : k / 8 = 0 ∨ k / 8 = 1 ∨ k / 8 = 2 ∨ k / 8 = 3 := by omega
  have hr : k % 8 = 0 ∨ k % 8 = 1 ∨ k % 8 = 2 ∨ k % 8 = 3 ∨ k % 8 = 4 ∨ k % 8 = 5 ∨ k % 8 = 6 ∨ k % 8 = 7 := by omega
  generalize k / 8 = q at *
  generalize k % 8 = r at *
  subst e
  clear hk
  unfold M64 at *
  refine ⟨?_, ?_, ?_, ?_⟩
  · rcases hq with rfl | rfl | rfl | rfl <;> rcases hr with rfl | rfl | rfl | rfl | rfl | rfl | rfl | rfl <;> simp only [nth, Nat.reduceMul, Nat.reduceAdd, Nat.reducePow] at * <;> omega
  · rcases hr with rfl | rfl | rfl | rfl | rfl | rfl | rfl | rfl <;> simp only [Nat.reduceMul, Nat.reducePow] at * <;> omega
  · rw [Nat.pow_succ]
    have : b * 256 ^ (q * 8 + r) ≤ 255 * 256 ^ (q * 8 + r) := Nat.mul_le_mul_right _ (by omega)
    omega
  · refine ⟨if q = 0 then d0 + b * 2 ^ (r * 8) else d0, if q = 1 then d1 + b * 2 ^ (r * 8) else d1, if q = 2 then d2 + b * 2 ^ (r * 8) else d2, if q = 3 then d3 + b * 2 ^ (r * 8) else d3, ?_, ?_⟩
    · rcases hq with rfl | rfl | rfl | rfl <;> rcases hr with rfl | rfl | rfl | rfl | rfl | rfl | rfl | rfl <;> simp only [Nat.reduceMul, Nat.reduceAdd, Nat.reducePow, Nat.reduceEqDiff, ↓reduceIte, Nat.succ_ne_self, Nat.zero_ne_one] at * <;> (refine ⟨?_, ?_, ?_, ?_, ?_⟩ <;> unfold M64 <;> omega)
    · rcases hq with rfl | rfl | rfl | rfl <;> simp [four, nth]

end Go.Proofs.Ythbfhfgmanafpaa
