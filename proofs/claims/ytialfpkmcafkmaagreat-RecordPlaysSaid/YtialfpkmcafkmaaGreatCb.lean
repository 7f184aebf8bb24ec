/- The contracts of moved, of the reference's step. -/
import Derived.Test.YtialfpkmcafkmaaGreatCa
import Derived.Laws.BitsAllLaws
import Derived.RegionTactic
namespace Go.Proofs.YtialfpkmcafkmaaGreat
open Go.RowKit

theorem xor32 {x y : Nat} (hx : x < 2 ^ 32) (hy : y < 2 ^ 32) : Go.bits .xor .u32 (x : Int) (y : Int) = ((x ^^^ y : Nat) : Int) := u32_xor_nat x y hx hy
theorem and32_one {x : Nat} (hx : x < 2 ^ 32) : Go.bits .and .u32 (x : Int) 1 = ((x % 2 : Nat) : Int) := by
  have := u32_and_nat x 1 hx (by decide)
  rwa [Nat.and_one_is_mod] at this
theorem wrap32 {x : Nat} (hx : x < 2 ^ 32) : IntKind.u32.wrap (x : Int) = (x : Int) := by
  rw [IntKind.wrap_u32']; omega
theorem half_lt {x : Nat} (hx : x < 2 ^ 32) (k : Nat) : x / k < 2 ^ 32 := Nat.lt_of_le_of_lt (Nat.div_le_self _ _) hx
theorem par_lt (x : Nat) : x % 2 * P32 < 2 ^ 32 := by
  rcases Nat.mod_two_eq_zero_or_one x with e | e <;> rw [e] <;> decide

theorem mv_bits {x : Nat} (hx : x < 2 ^ 32) : Go.bits .xor .u32 ((x : Int) / 2) ((x : Int) % 2 * 3988292384) = (mv x : Nat) := by
  have h := xor32 (half_lt hx 2) (par_lt x)
  rw [show mv x = x / 2 ^^^ x % 2 * P32 from rfl, ← h]
  unfold P32
  simp

set_option maxRecDepth 100000 in
set_option maxHeartbeats 1000000 in
theorem moved_c {s : Nat} (hs : s < 2 ^ 32) (w : World) :
    Calls Tryz.prog 81 #[.int .u32 s] w fun e w' => e = .returned (.int .u32 (mvk 8 s : Nat)) ∧ w = w' := by
  have HL := Lib.hid fun k => mvk_lt k hs
  go_enter Tryz.func81, Tryz.ntmps81
  go_wp2_with fail
  go_loop [0, 4] (fun c i => ∃ k : Nat, k ≤ 8 ∧ i = .int .i64 k ∧ c = .int .u32 (mvk k s : Nat)) (fun _ i => 8 - (intOf i).toNat)
  case atStart => exact ⟨0, by omega, rfl, rfl⟩
  case round =>
    obtain ⟨k, hk, rfl, rfl⟩ := hrel
    by_cases hlt : k < 8
    · have hx := HL.out k
      have h1 := and32_one hx
      have h2 := wrap32 (par_lt (mvk k s))
      have h3 := mv_bits hx
      have HN := Lib.hid (show mvk (k + 1) s = mv (mvk k s) from rfl)
      generalize mv (mvk k s) = z at *
      generalize mvk k s = x at *
      have hlti : (k : Int) < 8 := by omega
      clear HL
      go_wp2_with fail
      go_round
      case rel => exact ⟨k + 1, by omega, by go_num, by rw [HN.out]⟩
      case measure => simp [intOf]; omega
    · obtain rfl : k = 8 := by omega
      go_wp2
      go_ret
      exact ⟨rfl, rfl⟩

/-- The reference's step. -/
def stepN (n b : Nat) : Nat := if (n ^^^ b) % 2 = 1 then n / 2 ^^^ P32 else n / 2
theorem stepN_lt {n : Nat} (hn : n < 2 ^ 32) (b : Nat) : stepN n b < 2 ^ 32 := by
  unfold stepN
  split
  · exact Nat.xor_lt_two_pow (by omega) (by decide)
  · omega
theorem step_mv (n b : Nat) : mv (n ^^^ b) = stepN n b ^^^ b / 2 := by
  unfold mv stepN
  rw [xor_half]
  rcases Nat.mod_two_eq_zero_or_one (n ^^^ b) with e | e <;> rw [e]
  · simp
  · rw [if_pos rfl, Nat.one_mul, Nat.xor_assoc, Nat.xor_assoc, Nat.xor_comm (b / 2)]
set_option maxRecDepth 100000 in
set_option maxHeartbeats 1000000 in
theorem step_c {n b : Nat} (hn : n < 2 ^ 32) (hb : b < 2 ^ 32) (w : World) :
    Calls Tryz.prog 91 #[.int .u32 n, .int .u32 b] w fun e w' => e = .returned (.int .u32 (stepN n b : Nat)) ∧ w = w' := by
  have h1 := xor32 hn hb
  have h2 : Go.bits .xor .u32 ((n : Int) / 2) 3988292384 = ((n / 2 ^^^ P32 : Nat) : Int) := xor32 (half_lt hn 2) (show P32 < 2 ^ 32 by decide)
  by_cases h : (n ^^^ b) % 2 = 1
  · have HN := Lib.hid (show stepN n b = n / 2 ^^^ P32 from if_pos h)
    generalize stepN n b = z at *
    generalize n / 2 ^^^ P32 = y at *
    generalize n ^^^ b = x at *
    have hd : ((x : Int) % 2 == 1) = true := by rw [beq_iff_eq]; omega
    go_enter Tryz.func91, Tryz.ntmps91
    go_wp2_with fail
    go_ret
    exact ⟨by rw [HN.out]; rfl, rfl⟩
  · have HN := Lib.hid (show stepN n b = n / 2 from if_neg h)
    generalize stepN n b = z at *
    generalize n ^^^ b = x at *
    have hd : ((x : Int) % 2 == 1) = false := by rw [beq_eq_false_iff_ne]; omega
    go_enter Tryz.func91, Tryz.ntmps91
    go_wp2_with fail
    go_ret
    exact ⟨ret_int (by rw [HN.out]; simp), rfl⟩
end Go.Proofs.YtialfpkmcafkmaaGreat
