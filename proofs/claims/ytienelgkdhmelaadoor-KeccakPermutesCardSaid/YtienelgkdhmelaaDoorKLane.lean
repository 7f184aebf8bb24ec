/- The contract of laneOf. -/
import Derived.Test.YtienelgkdhmelaaDoorRows
import Derived.Test.YtienelgkdhmelaaDoorKText
import Derived.RegionTactic
namespace Go.Proofs.YtienelgkdhmelaaDoor
open Go.RowKit

set_option maxRecDepth 100000 in
set_option maxHeartbeats 1000000 in
theorem lane_c {s : ByteArray} (hs : 8 ≤ s.size) (w : World) :
    Calls Tryd.prog 21 #[.string s] w fun e w' => e = .returned (.int .u64 (lnK (byteAt s) 8 : Nat)) ∧ w = w' := by
  have HX := Lib.hid (fun i j hj e W => index_i64 s i j hj e W)
  go_enter Tryd.func21, Tryd.ntmps21
  go_wp2
  go_loop [3, 5] (fun c i => ∃ k : Nat, k ≤ 8 ∧ i = .int .i64 k ∧ c = .int .u64 (lnK (byteAt s) k : Nat)) (fun _ i => 8 - (intOf i).toNat)
  case atStart => exact ⟨0, by omega, rfl, rfl⟩
  case round =>
    obtain ⟨k, hk, rfl, rfl⟩ := hrel
    by_cases hlt : k < 8
    · have hx := fun W => HX.out (k : Int) k (by omega) rfl W
      have h1 := or64 (lnK_lt (byteAt s) k) (show byteAt s k * 2 ^ (8 * k) % M64 < M64 from Nat.mod_lt _ (by decide))
      have h2 := wrap_mul_nat (byteAt s k) (8 * k)
      have h3 := byteAt_lt s k
      have HN := Lib.hid (show lnK (byteAt s) (k + 1) = lnK (byteAt s) k ||| (byteAt s k * 2 ^ (8 * k) % M64) from rfl)
      have hw : ((k : Int) * 8).toNat = 8 * k := by omega
      generalize lnK (byteAt s) k ||| (byteAt s k * 2 ^ (8 * k) % M64) = z at *
      generalize byteAt s k * 2 ^ (8 * k) % M64 = y at *
      generalize lnK (byteAt s) k = l at *
      generalize byteAt s k = x at *
      have hlti : (k : Int) < 8 := by omega
      go_wp2
      go_round
      case rel => exact ⟨k + 1, by omega, by go_num, by rw [HN.out]⟩
      case measure => simp [intOf]; omega
    · obtain rfl : k = 8 := by omega
      go_wp2
      go_ret
      exact ⟨rfl, rfl⟩
end Go.Proofs.YtienelgkdhmelaaDoor
