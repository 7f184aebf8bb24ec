/- Contracts of package word: fuse, plusRow. -/
import Derived.Test.YthbfhfgmanafpaaWordD
import Derived.Test.YthbfhfgmanafpaaNum2
import Derived.Test.YthbfhfgmanafpaaShelf
namespace Go.Proofs.Ythbfhfgmanafpaa
open Go.RowKit
attribute [local go_sem ↓] Go.wp_at_zero Go.wp_at_succ

theorem mul64_c (x y : Nat) (hx : x < M64) (hy : y < M64) (w : World) :
    Calls Try.prog 95 #[.int .u64 x, .int .u64 y] w fun e w' => e = .returned (.tuple #[.int .u64 ((x * y / M64 : Nat) : Int), .int .u64 ((x * y % M64 : Nat) : Int)]) ∧ w = w' := by
  refine (Try.bits_Mul64 x y hx hy w).mono ?_
  rintro e w' ⟨rfl, rfl⟩
  exact ⟨rfl, rfl⟩

theorem wrap_nat (x : Nat) (hx : x < M64) : IntKind.u64.wrap (x : Int) = (x : Int) := by
  rw [IntKind.wrap_u64]; unfold M64 at hx; omega

theorem add64_zero (x y : Nat) (w : World) :
    (callFunc 76 #[.int .u64 x, .int .u64 y, .int .u64 0]).run Try.prog w =
      .ok (.value (.tuple #[.int .u64 (((x + y) % M64 : Nat) : Int), .int .u64 (((x + y) / M64 : Nat) : Int)])) w := add64_run x y 0 (by omega) w

set_option maxRecDepth 100000 in
set_option maxHeartbeats 1000000 in
theorem fuse_c (x y m n : Nat) (hx : x < M64) (hy : y < M64) (hm : m < M64) (hn : n < M64) (w : World) :
    Calls Try.prog 92 #[.int .u64 x, .int .u64 y, .int .u64 m, .int .u64 n] w fun e w' =>
      e = .returned (.tuple #[.int .u64 (fuseH x y m n : Nat), .int .u64 (fuseL x y m n : Nat)]) ∧ w = w' := by
  obtain ⟨q1, q2, q3, q4⟩ := fuse_arith (mul_le64 hx hy) hm hn
  have C := Lib.hid (mul64_c x y hx hy w)
  have ha := add64_zero (x * y % M64) m
  have hb := add64_zero ((x * y % M64 + m) % M64) n
  have hc := wrap_nat _ q2
  have hd := wrap_nat _ q3
  have HH := Lib.hid q4; have HL := Lib.hid q1
  clear q1 q2 q3 q4 hx hy hm hn
  unfold fuseH fuseL
  rw [← HH.out, ← HL.out]
  clear HH HL
  generalize x * y / M64 = h at *
  generalize x * y % M64 = l at *
  generalize (l + m) / M64 = c1 at *
  generalize (l + m) % M64 = l1 at *
  generalize (l1 + n) / M64 = c2 at *
  generalize (l1 + n) % M64 = l2 at *
  simp only [Int.natCast_add] at hc hd ⊢
  go_enter Try.func92, Try.ntmps92
  go_wp2_with fail
  refine C.out.mono ?_
  rintro e w' ⟨rfl, rfl⟩
  go_wp2_with fail
  go_ret2
  exact ⟨rfl, rfl⟩

end Go.Proofs.Ythbfhfgmanafpaa
