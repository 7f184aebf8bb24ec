/- Keccak as plain numbers: rotations; blocks of cells that a function of the place tells. -/
import Derived.Test.YtialfpkmcafkmaaGreatAmong
import Derived.Deep.WholeRow
import Derived.Laws.Bits64
import Derived.Laws.Bits64b
namespace Go.Proofs.YtialfpkmcafkmaaGreat
open Go.RowKit

/-- A block of n numbers of one kind. -/
def blk (k : IntKind) (n : Nat) (f : Nat → Nat) : Array Value := ((List.range n).map fun i => Value.int k (f i : Int)).toArray
def upd (f : Nat → Nat) (j v : Nat) : Nat → Nat := fun i => if i = j then v else f i
theorem upd_same (f : Nat → Nat) (j v : Nat) : upd f j v j = v := if_pos rfl
theorem upd_other (f : Nat → Nat) {j i : Nat} (v : Nat) (h : i ≠ j) : upd f j v i = f i := if_neg h
theorem blk_size (k : IntKind) (n : Nat) (f : Nat → Nat) : (blk k n f).size = n := by simp [blk]
theorem blk_at (k : IntKind) {n : Nat} (f : Nat → Nat) {j : Nat} (hj : j < n) : (blk k n f)[j]? = some (.int k (f j : Int)) := by simp [blk, hj]
theorem blk_none (k : IntKind) {n : Nat} (f : Nat → Nat) {j : Nat} (hj : n ≤ j) : (blk k n f)[j]? = none := by simp [blk]; omega
theorem blk_set (k : IntKind) {n : Nat} (f : Nat → Nat) (q v : Nat) : (blk k n f).setIfInBounds q (.int k (v : Int)) = blk k n (upd f q v) := by
  apply Array.ext_getElem?
  intro j
  rw [Array.getElem?_setIfInBounds]
  by_cases hj : j < n
  · rw [blk_at _ _ hj, blk_at _ _ hj]
    by_cases e : q = j
    · subst e; simp [blk_size, hj, upd]
    · rw [if_neg e, upd_other _ _ (Ne.symm e)]
  · rw [blk_none _ _ (by omega), blk_none _ _ (by omega)]
    by_cases e : q = j
    · subst e; rw [if_pos rfl, if_neg (by rw [blk_size]; omega)]
    · rw [if_neg e]
theorem blk_congr (k : IntKind) {n : Nat} {f g : Nat → Nat} (h : ∀ j, j < n → f j = g j) : blk k n f = blk k n g := by
  unfold blk
  congr 1
  apply List.map_congr_left
  intro j hj
  rw [h j (by simpa using hj)]
theorem blk_one (k : IntKind) (n : Nat) (f : Nat → Nat) : (blk k n f).all (·.oneCell') = true := by
  rw [Array.all_eq_true_iff_forall_mem]
  intro v hv
  simp only [blk, List.mem_toArray, List.mem_map] at hv
  obtain ⟨i, _, rfl⟩ := hv
  rfl

/-- The number x, of 64 bits, turned left by k. -/
def rotN (x k : Nat) : Nat := (x * 2 ^ (k % 64) % M64) ||| (x / 2 ^ (64 - k % 64))
theorem M64_pow : M64 = 2 ^ 64 := by decide +kernel
theorem rotN_lt {x : Nat} (hx : x < M64) (k : Nat) : rotN x k < M64 := by
  unfold rotN
  rw [M64_pow] at *
  exact Nat.or_lt_two_pow (Nat.mod_lt _ (by decide)) (Nat.lt_of_le_of_lt (Nat.div_le_self _ _) hx)
theorem xor64 {x y : Nat} (hx : x < M64) (hy : y < M64) : Go.bits .xor .u64 (x : Int) (y : Int) = ((x ^^^ y : Nat) : Int) := bits_xor_u64_nat x y hx hy
theorem or64 {x y : Nat} (hx : x < M64) (hy : y < M64) : Go.bits .or .u64 (x : Int) (y : Int) = ((x ||| y : Nat) : Int) := bits_or_u64_nat x y hx hy
theorem and64 {x y : Nat} (hx : x < M64) (hy : y < M64) : Go.bits .and .u64 (x : Int) (y : Int) = ((x &&& y : Nat) : Int) := bits_and_u64_nat x y hx hy
theorem xor_lt {x y : Nat} (hx : x < M64) (hy : y < M64) : x ^^^ y < M64 := by rw [M64_pow] at *; exact Nat.xor_lt_two_pow hx hy
theorem or_lt {x y : Nat} (hx : x < M64) (hy : y < M64) : x ||| y < M64 := by rw [M64_pow] at *; exact Nat.or_lt_two_pow hx hy
theorem wrap_nat (x : Nat) (hx : x < M64) : IntKind.u64.wrap (x : Int) = (x : Int) := by
  rw [IntKind.wrap_u64]; unfold M64 at hx; omega
theorem wrap_mul_nat (x k : Nat) : IntKind.u64.wrap ((x : Int) * 2 ^ k) = ((x * 2 ^ k % M64 : Nat) : Int) := by
  rw [IntKind.wrap_u64]
  unfold M64
  simp
theorem ret_int {k : IntKind} {a b : Int} (h : a = b) : Ending.returned (.int k a) = .returned (.int k b) := by rw [h]
end Go.Proofs.YtialfpkmcafkmaaGreat
