/- The contract of (*register).next. -/
import Derived.Test.YtienelgkdhmelaaDoorRows
import Derived.Test.YtienelgkdhmelaaDoorKNum
import Derived.Laws.BitsLemmas
import Derived.RegionTactic
namespace Go.Proofs.YtienelgkdhmelaaDoor
open Go.RowKit

/-- The register's next state. -/
def nxt (r : Nat) : Nat := (r * 2 % 256) ^^^ (r / 128 * 113)
def rg (r : Nat) : Nat → Nat
  | 0 => r
  | k + 1 => nxt (rg r k)
def cn (r : Nat) : Nat → Nat
  | 0 => 0
  | k + 1 => cn r k ||| (rg r k % 2 * 2 ^ (2 ^ k - 1) % M64)
theorem nxt_lt {r : Nat} (h : r < 256) : nxt r < 256 := by
  unfold nxt
  refine Nat.xor_lt_two_pow (n := 8) (Nat.mod_lt _ (by decide)) ?_
  have : r / 128 ≤ 1 := by omega
  have := Nat.mul_le_mul_right 113 this
  omega
theorem rg_lt {r : Nat} (h : r < 256) (k : Nat) : rg r k < 256 := by
  induction k with
  | zero => exact h
  | succ k ih => exact nxt_lt ih
theorem cn_lt (r k : Nat) : cn r k < M64 := by
  induction k with
  | zero => show 0 < M64; decide
  | succ k ih => exact or_lt ih (Nat.mod_lt _ (by decide))
theorem u8_and1 (x : Nat) (h : x < 256) : Go.bits .and .u8 (x : Int) 1 = (x : Int) % 2 := bits_mask .u8 8 (by decide) wraps_u8 1 (by decide) x (by omega) (by omega)
theorem u8_xor {x y : Nat} (hx : x < 256) (hy : y < 256) : Go.bits .xor .u8 (x : Int) (y : Int) = ((x ^^^ y : Nat) : Int) := by
  have hu : (x ^^^ y) < 2 ^ 8 := Nat.xor_lt_two_pow hx hy
  have h1 : (BitVec.ofInt 8 (x : Int)).toNat = x := by
    rw [BitVec.ofInt_natCast, BitVec.toNat_ofNat]; exact Nat.mod_eq_of_lt (by omega)
  have h2 : (BitVec.ofInt 8 (y : Int)).toNat = y := by
    rw [BitVec.ofInt_natCast, BitVec.toNat_ofNat]; exact Nat.mod_eq_of_lt (by omega)
  show IntKind.u8.wrap ((BitVec.ofInt 8 (x : Int) ^^^ BitVec.ofInt 8 (y : Int)).toNat : Int) = _
  rw [BitVec.toNat_xor, h1, h2, IntKind.wrap_u8]
  omega
theorem next_word (r : Nat) {k : Nat} (hk : k < 7) :
    Go.bits .or .u64 (cn r k : Nat) (IntKind.u64.wrap ((rg r k : Int) % 2 * 2 ^ min (IntKind.u64.wrap (IntKind.u64.wrap (2 ^ k) - 1)).toNat 64)) = (cn r (k + 1) : Nat) := by
  have e : min (IntKind.u64.wrap (IntKind.u64.wrap (2 ^ k) - 1)).toNat 64 = 2 ^ k - 1 := by
    rcases (by omega : k = 0 ∨ k = 1 ∨ k = 2 ∨ k = 3 ∨ k = 4 ∨ k = 5 ∨ k = 6) with rfl | rfl | rfl | rfl | rfl | rfl | rfl <;> decide
  rw [e, show (rg r k : Int) % 2 = ((rg r k % 2 : Nat) : Int) by simp, wrap_mul_nat, or64 (cn_lt r k) (Nat.mod_lt _ (by decide))]
  rfl
theorem next_reg {r k : Nat} (hl : rg r k < 256) : Go.bits .xor .u8 ((rg r k : Int) * 2 % 256) ((rg r k : Int) / 128 * 113) = (rg r (k + 1) : Nat) := by
  have h := u8_xor (x := rg r k * 2 % 256) (y := rg r k / 128 * 113) (Nat.mod_lt _ (by decide)) (by
    have : rg r k / 128 ≤ 1 := by omega
    have := Nat.mul_le_mul_right 113 this
    omega)
  have e : rg r (k + 1) = (rg r k * 2 % 256) ^^^ (rg r k / 128 * 113) := rfl
  rw [e, ← h]
  simp

set_option maxRecDepth 100000 in
set_option maxHeartbeats 800000 in
theorem next_c {r b : Nat} (hr : r < 256) (w : World) (hc : w.heap[b]? = some (.cells #[.int .u8 r] 37 (0, 0))) :
    Calls Tryd.prog 17 #[.pointer (some ⟨b, 0, none⟩)] w fun e w' => e = .returned (.int .u64 (cn r 7 : Nat)) ∧ w' = w.setCell ⟨b, 0, none⟩ (.int .u8 (rg r 7 : Nat)) := by
  have c0 := cell_of hc 0
  have f0 := free_of hc 0
  simp at c0
  clear hc
  go_enter Tryd.func17, Tryd.ntmps17
  go_wp2
  go_loop [3, 4, 9] (fun c n i => ∃ k : Nat, k ≤ 7 ∧ i = .int .i64 k ∧ c = .int .u64 (cn r k : Nat) ∧ n = .int .u8 (rg r k : Nat)) (fun _ _ i => 7 - (intOf i).toNat)
  case atStart => exact ⟨0, by omega, rfl, rfl, rfl⟩
  case round =>
    obtain ⟨k, hk, rfl, rfl, rfl⟩ := hrel
    by_cases hlt : k < 7
    · have hl := rg_lt hr k
      have ha := u8_and1 _ hl
      go_wp2
      go_round
      case rel => exact ⟨k + 1, by omega, by go_num, by rw [next_word r hlt], by rw [next_reg hl]⟩
      case measure => simp [intOf]; omega
    · obtain rfl : k = 7 := by omega
      go_wp2
      go_ret
      exact ⟨rfl, rfl⟩
end Go.Proofs.YtienelgkdhmelaaDoor
