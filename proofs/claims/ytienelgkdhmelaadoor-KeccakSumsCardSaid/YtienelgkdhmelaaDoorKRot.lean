/- The contracts of math/bits.RotateLeft64, of the reference's turned. -/
import Derived.Test.YtienelgkdhmelaaDoorRows
import Derived.Test.YtienelgkdhmelaaDoorKNum
import Derived.Deep.QuietTactic
import Derived.BigQuiet
import Derived.RegionTactic
namespace Go.Proofs.YtienelgkdhmelaaDoor
open Go.RowKit

theorem and63 (k : Nat) (hk : k < 1000) : Go.bits .and .u64 (k : Int) 63 = ((k % 64 : Nat) : Int) := by
  have h := and64 (x := k) (y := 63) (by unfold M64; omega) (by decide)
  rw [show (63 : Nat) = 2 ^ 6 - 1 by rfl, Nat.and_two_pow_sub_one_eq_mod] at h
  exact h

set_option maxHeartbeats 400000 in
theorem rot_c {x k : Nat} (hx : x < M64) (hk : k < 1000) (w : World) :
    Calls Tryd.prog 25 #[.int .u64 x, .int .i64 k] w fun e w' => e = .returned (.int .u64 (rotN x k : Nat)) ∧ w = w' := by
  have hb := and63 k hk
  have hs : k % 64 < 64 := Nat.mod_lt _ (by decide)
  have hw := wrap_mul_nat x (k % 64)
  have ho : Go.bits .or .u64 ((x * 2 ^ (k % 64) % M64 : Nat) : Int) ((x / 2 ^ (64 - k % 64) : Nat) : Int) = (rotN x k : Nat) := or64 (Nat.mod_lt _ (by decide)) (Nat.lt_of_le_of_lt (Nat.div_le_self _ _) hx)
  generalize rotN x k = r at *
  generalize k % 64 = s at *
  go_enter Tryd.func25, Tryd.ntmps25
  go_wp2
  go_ret
  exact ⟨ret_int (by rw [← ho]; simp), rfl⟩

theorem tv1 {x s : Nat} (hx : x < M64) (h : 1 < s) (hs : s < 64) : IntKind.u64.wrap ((x : Int) / 2 ^ (-(s : Int) % 64).toNat) = ((x / 2 ^ (64 - s) : Nat) : Int) := by
  rw [show (-(s : Int) % 64).toNat = 64 - s by omega]
  have := wrap_nat (x / 2 ^ (64 - s)) (Nat.lt_of_le_of_lt (Nat.div_le_self _ _) hx)
  simpa using this
theorem tv2 {x s : Nat} (hx : x < M64) (h : s ≤ 1) : IntKind.u64.wrap ((x : Int) / 2 ^ (-(s : Int) % 64).toNat * s) = ((x / 2 ^ (64 - s) : Nat) : Int) := by
  rcases (by omega : s = 0 ∨ s = 1) with rfl | rfl
  · rw [Nat.div_eq_of_lt (by rw [M64_pow] at hx; exact hx)]
    simp [IntKind.wrap_u64]
  · have := wrap_nat (x / 2 ^ 63) (Nat.lt_of_le_of_lt (Nat.div_le_self _ _) hx)
    simpa using this

set_option maxHeartbeats 400000 in
theorem turned_c {x k : Nat} (hx : x < M64) (hk : k < 1000) (w : World) :
    Calls Tryd.prog 20 #[.int .u64 x, .int .i64 k] w fun e w' => e = .returned (.int .u64 (rotN x k : Nat)) ∧ ∃ n, w' = w.drewN n := by
  have hs : k % 64 < 64 := Nat.mod_lt _ (by decide)
  have hw := wrap_mul_nat x (k % 64)
  have ho : Go.bits .or .u64 ((x * 2 ^ (k % 64) % M64 : Nat) : Int) ((x / 2 ^ (64 - k % 64) : Nat) : Int) = (rotN x k : Nat) := or64 (Nat.mod_lt _ (by decide)) (Nat.lt_of_le_of_lt (Nat.div_le_self _ _) hx)
  have hm : (k : Int) % 64 = ((k % 64 : Nat) : Int) := by simp
  generalize rotN x k = r at *
  generalize k % 64 = s at *
  go_enter Tryd.func20, Tryd.ntmps20
  go_wp2_with fail
  go_quiet (fail)
  go_wp2
  · go_ret
    exact ⟨ret_int (by rw [tv1 hx (by omega) hs, ← ho]; simp), nq, rfl⟩
  · go_ret
    exact ⟨ret_int (by rw [tv2 hx (by omega), ← ho]; simp), nq, rfl⟩

/-- A callee that leaves the world alone, met in a quiet region; in one behind a quiet region. -/
theorem calm {P : Program} {f : FuncId} {args : Array Value} {W : World} {n : Nat} {v : Value} (h : Calls P f args (W.drewN n) fun e w' => e = .returned v ∧ W.drewN n = w') :
    Calls P f args (W.drewN n) fun e w' => e = .returned v ∧ ∃ m, w' = W.drewN m := h.mono fun _ _ k => ⟨k.1, n, k.2.symm⟩
theorem calm_draws {P : Program} {f : FuncId} {args : Array Value} {W : World} {n : Nat} {v : Value} (h : Calls P f args (W.drewN n) fun e w' => e = .returned v ∧ ∃ m, w' = (W.drewN n).drewN m) :
    Calls P f args (W.drewN n) fun e w' => e = .returned v ∧ ∃ m, w' = W.drewN m := h.mono fun _ _ ⟨k, m, hm⟩ => ⟨k, n + m, by rw [hm, World.drewN_drewN]⟩
end Go.Proofs.YtienelgkdhmelaaDoor
