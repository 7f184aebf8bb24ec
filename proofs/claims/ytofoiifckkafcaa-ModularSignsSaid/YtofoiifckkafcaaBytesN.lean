/- Texts of a number's bytes. -/
import Derived.Test.YtofoiifckkafcaaWordB
namespace Go.Proofs.Ytofoiifckkafcaa
open Go.RowKit

theorem index_str (s : ByteArray) (i : Int) (j : Nat) (hj : j < s.size) (e : i = (j : Int)) (W : World) : (Instr.index 9 (.string s) (.int .i64 i)).run Try.prog W = .ok (.int .u8 ((s[j]'hj).toNat : Int)) W := by
  subst e
  rw [run_index_string W _ _ _ _ Try.underlying9, dif_pos ⟨by omega, by omega⟩]
  simp

/-- Byte j of a text (0 past its end); the number of its last k bytes. -/
def byteAt (s : ByteArray) (j : Nat) : Nat := if h : j < s.size then (s[j]'h).toNat else 0
theorem byteAt_lt (s : ByteArray) (j : Nat) : byteAt s j < 256 := by
  unfold byteAt; split
  · exact UInt8.toNat_lt _
  · omega

theorem bytesOf_size (x : Nat) : (bytesOf x).size = 32 := by unfold bytesOf; rw [strOfNums_size]; simp

theorem byteAt_bytes (x j : Nat) (hj : j < 32) : byteAt (bytesOf x) j = byteOf x (31 - j) := by
  have hb : byteOf x (31 - j) < 256 := Nat.mod_lt _ (by decide)
  have hs : j < (bytesOf x).size := by rw [bytesOf_size]; exact hj
  unfold byteAt
  rw [dif_pos hs]
  have : (bytesOf x)[j]'hs = UInt8.ofNat (byteOf x (31 - j)) := by
    simp [bytesOf, strOfNums, ByteArray.getElem_eq_getElem_data]
  rw [this, UInt8.toNat_ofNat_of_lt' hb]
def tail256 (x : Nat) : Nat → List UInt8
  | 0 => []
  | n + 1 => UInt8.ofNat (byteOf x n) :: tail256 x n
theorem tail256_length (x n : Nat) : (tail256 x n).length = n := by
  induction n with
  | zero => rfl
  | succ n ih => simp [tail256, ih]
theorem bytesOf_list (x : Nat) : (bytesOf x).toList = tail256 x 32 := by
  rw [ByteArray.toList_eq]
  simp [bytesOf, strOfNums, tail256, List.range_succ]

/-- An index of a text by an int. -/
theorem index_i64 (s : ByteArray) (i : Int) (j : Nat) (hj : j < s.size) (e : i = (j : Int)) (W : World) : (Instr.index 9 (.string s) (.int .i64 i)).run Try.prog W = .ok (.int .u8 (byteAt s j : Int)) W := by
  rw [index_str s i j hj e]
  unfold byteAt
  rw [dif_pos hj]

end Go.Proofs.Ytofoiifckkafcaa
