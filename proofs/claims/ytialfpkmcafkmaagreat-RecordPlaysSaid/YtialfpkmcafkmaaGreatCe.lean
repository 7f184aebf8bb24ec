/- The reference's contracts: More, Sum, Entry. -/
import Derived.Test.YtialfpkmcafkmaaGreatCd
namespace Go.Proofs.YtialfpkmcafkmaaGreat
open Go.RowKit

/-- The reference's sum n behind k bits of c. -/
def bitsN (n c : Nat) : Nat → Nat
  | 0 => n
  | k + 1 => stepN (bitsN n c k) (c / 2 ^ k)
theorem bitsN_lt {n : Nat} (hn : n < 2 ^ 32) (c k : Nat) : bitsN n c k < 2 ^ 32 := by
  cases k with
  | zero => exact hn
  | succ k =>
    show stepN _ _ < _
    exact stepN_lt (by
      induction k with
      | zero => exact hn
      | succ k ih => exact stepN_lt ih _) _
theorem bitsN_mv (n c k : Nat) : mvk k (n ^^^ c) = bitsN n c k ^^^ c / 2 ^ k := by
  induction k with
  | zero => simp [mvk, bitsN]
  | succ k ih => rw [mvk, ih, step_mv, bitsN, Nat.div_div_eq_div_mul, Nat.pow_succ]
theorem bitsN_byte {c : Nat} (hc : c < 256) (n : Nat) : bitsN n c 8 = mvk 8 (n ^^^ c) := by
  rw [bitsN_mv, Nat.div_eq_of_lt (show c < 2 ^ 8 from hc), Nat.xor_zero]

set_option maxRecDepth 100000 in
set_option maxHeartbeats 2000000 in
theorem rmore_c {sum : Nat} (hm : sum < 2 ^ 32) {s : ByteArray} (hs : s.size ≤ maxLen) (w : World) :
    Calls Tryz.prog 87 #[.int .u32 sum, .string s] w fun e w' => e = .returned (.int .u32 (moreN sum (byteAt s) s.size : Nat)) ∧ w = w' := by
  have HX := Lib.hid (fun i j hj e W => index_i64 s i j hj e W)
  have HL := Lib.hid (fun k => cf_lt (Nat.xor_lt_two_pow (show F32 < 2 ^ 32 by decide) hm) (byteAt_lt s) k)
  have h0 := not32 hm
  have hsg : IntKind.u32.signed = false := rfl
  have HF := Lib.hid (show moreN sum (byteAt s) s.size = F32 ^^^ cf (F32 ^^^ sum) (byteAt s) s.size from rfl)
  have HN := Lib.hid (fun k => show cf (F32 ^^^ sum) (byteAt s) (k + 1) = mvk 8 (cf (F32 ^^^ sum) (byteAt s) k ^^^ byteAt s k) from rfl)
  have HZ := Lib.hid (show cf (F32 ^^^ sum) (byteAt s) 0 = F32 ^^^ sum from rfl)
  generalize moreN sum (byteAt s) s.size = out at *
  generalize F32 ^^^ sum = i0 at *
  have HS := Lib.hid hs; clear hs
  go_enter Tryz.func87, Tryz.ntmps87
  go_wp2_with fail
  go_loop [0, 5] (fun c i => ∃ k : Nat, k ≤ s.size ∧ i = .int .i64 k ∧ c = .int .u32 (cf i0 (byteAt s) k : Nat)) (fun _ i => s.size - (intOf i).toNat)
  case atStart => exact ⟨0, by omega, rfl, by rw [HZ.out]⟩
  case round =>
    obtain ⟨k, hk, rfl, rfl⟩ := hrel
    by_cases hlt : k < s.size
    · have hx := fun W => HX.out (k : Int) k hlt rfl W
      have hl := HL.out k
      have hb := byteAt_lt s k
      have hw : IntKind.i64.wrap ((k : Int) + 1) = (k : Int) + 1 := IntWalk.i64_in _ (by have := HS.out; unfold maxLen at this; omega)
      have hlti : (k : Int) < (s.size : Int) := by omega
      have HN' := Lib.hid (HN.out k)
      clear HN HX HL
      rw [← bitsN_byte hb] at HN'
      have BL := Lib.hid (fun j => bitsN_lt hl (byteAt s k) j)
      generalize cf i0 (byteAt s) k = x at *
      generalize byteAt s k = y at *
      have hyj := Lib.hid (fun j : Nat => show y / 2 ^ j < 256 from Nat.lt_of_le_of_lt (Nat.div_le_self _ _) hb)
      go_wp2_with fail
      go_loop [0, 6] (fun c i => ∃ j : Nat, j ≤ 8 ∧ i = .int .i64 j ∧ c = .int .u32 (bitsN x y j : Nat)) (fun _ i => 8 - (intOf i).toNat)
      case atStart => exact ⟨0, by omega, rfl, rfl⟩
      case round =>
        obtain ⟨j, hj, rfl, rfl⟩ := hrel
        by_cases hlt2 : j < 8
        · have R := Lib.hid (fun W => step_c (BL.out j) (show y / 2 ^ j < 2 ^ 32 by have := hyj.out j; omega) W)
          rw [show stepN (bitsN x y j) (y / 2 ^ j) = bitsN x y (j + 1) from rfl] at R
          have h8 : IntKind.u32.wrap ((y / 2 ^ j : Nat) : Int) = ((y / 2 ^ j : Nat) : Int) := wrap32 (by have := hyj.out j; omega)
          have hq : (y : Int) / 2 ^ j = ((y / 2 ^ j : Nat) : Int) := by simp
          clear hyj BL
          generalize y / 2 ^ j = q at *
          generalize hz : bitsN x y (j + 1) = z at *
          have HJ := Lib.hid hz; clear hz
          generalize bitsN x y j = v at *
          have hlt3 : (j : Int) < 8 := by omega
          go_wp2_with fail
          go_at_call 91
          refine (R.out _).mono ?_
          rintro e W ⟨rfl, rfl⟩
          clear R
          go_wp2_with fail
          go_round
          case rel => exact ⟨j + 1, by omega, by go_num, by rw [HJ.out]⟩
          case measure => simp [intOf]; omega
        · obtain rfl : j = 8 := by omega
          go_wp2_with fail
          go_round
          case rel => exact ⟨k + 1, by omega, by go_num, by rw [HN'.out]⟩
          case measure => simp [intOf]; omega
    · obtain rfl : k = s.size := by omega
      have h5 := not32 (HL.out s.size)
      rw [← HF.out] at h5
      clear HN HL HX h0
      go_wp2_with fail
      go_ret
      exact ⟨rfl, rfl⟩

set_option maxRecDepth 100000 in
set_option maxHeartbeats 1000000 in
theorem rsum_c {s : ByteArray} (hs : s.size ≤ maxLen) (w : World) :
    Calls Tryz.prog 75 #[.string s] w fun e w' => e = .returned (.int .u32 (sumN s : Nat)) ∧ w = w' := by
  have HT := Lib.hid (rmore_c (show 0 < 2 ^ 32 by decide) hs w)
  rw [show moreN 0 (byteAt s) s.size = sumN s from rfl] at HT
  generalize sumN s = z at *
  clear hs
  go_enter Tryz.func75, Tryz.ntmps75
  go_wp2_with fail
  go_at_call 87
  refine HT.out.mono ?_
  rintro e w1 ⟨rfl, rfl⟩
  clear HT
  go_wp2_with fail
  go_ret
  exact ⟨rfl, rfl⟩

end Go.Proofs.YtialfpkmcafkmaaGreat
