/- The reference's Bytes, and head. -/
import Derived.Test.YtgaaalacoeainaaLr2
namespace Go.Proofs.Ytgaaalacoeainaa
open Go.RowKit

set_option maxRecDepth 100000 in
set_option maxHeartbeats 2000000 in
theorem rbytes_c (n : Nat) (hn : n < M64) (w : World) : Calls Try.prog 20 #[.int .u64 n] w fun e w' => e = .returned (.string (str (num n))) ∧ Below w.heap.size w w' := by
  have HL := Lib.hid (num_length_le (n := n) 8 (by unfold M64 at hn; exact hn))
  have HN := Lib.hid hn; clear hn
  go_enter Try.func20, Try.ntmps20
  go_wp2_with fail
  go_loopw [0, 3] (fun a s wr => ∃ (m : Nat) (acc : List UInt8), a = .int .u64 m ∧ s = .string (str acc) ∧ m < M64 ∧ num n = num m ++ acc ∧ Below w.heap.size w wr) (fun a _ _ => (intOf a).toNat)
  case atStart => exact ⟨n, [], rfl, rfl, HN.out, by simp, Below.refl _ _⟩
  case round =>
    obtain ⟨m, acc, rfl, rfl, hm, he, hb⟩ := hrel
    by_cases hz : m = 0
    · subst hz
      rw [num_zero, List.nil_append] at he
      have HB := Lib.hid hb; clear hb hm
      rw [← he]
      clear he
      go_wp2_with fail
      go_ret
      exact ⟨rfl, HB.out⟩
    · obtain ⟨x, hx⟩ : ∃ x, x = m % 256 := ⟨_, rfl⟩
      have hx1 : x < 256 := by rw [hx]; exact Nat.mod_lt _ (by decide)
      have hc := conv1 wr x hx1
      have hmi : (0 : Int) < (m : Int) := by omega
      have h7 : (m : Int) % 256 = (x : Int) := by omega
      have h8 : IntKind.u8.wrap (x : Int) = (x : Int) := by rw [IntKind.wrap_u8]; omega
      have ha := str_append [UInt8.ofNat x] acc
      obtain ⟨y, hy⟩ : ∃ y, y = m / 256 := ⟨_, rfl⟩
      have h9 : (m : Int) / 256 = (y : Int) := by omega
      have hym : y < m := by omega
      have h10 : IntKind.u64.wrap (y : Int) = (y : Int) := by rw [IntKind.wrap_u64]; unfold M64 at hm; omega
      have HE := Lib.hid (show num n = num y ++ ([UInt8.ofNat x] ++ acc) by rw [he, num_pos hz, List.append_assoc, hx, hy])
      have HB := Lib.hid (And.intro (hb.alloc hb.size (.cells #[.int .u8 (x : Int)] 5)) (Nat.lt_trans hym hm))
      have hal : acc.length ≤ 8 := by
        have h1 := congrArg List.length he
        rw [List.length_append] at h1
        have := HL.out; omega
      have hsum : ¬ 9223372036854775807 < (str [UInt8.ofNat x]).size + (str acc).size := by rw [str_size, str_size, List.length_singleton]; omega
      clear he hb hm hx hy hal
      generalize [UInt8.ofNat x] ++ acc = acc2 at *
      generalize str [UInt8.ofNat x] = sx at *
      go_wp2_with fail
      go_roundw
      case rel => exact ⟨y, acc2, rfl, rfl, HB.out.2, HE.out, HB.out.1⟩
      case measure => simp [intOf]; omega

set_option maxRecDepth 100000 in
set_option maxHeartbeats 2000000 in
theorem rhead_c (k n : Nat) (hk : k = 128 ∨ k = 192) (hn : n ≤ 800000000) (w : World) : Calls Try.prog 34 #[.int .i64 k, .int .i64 n] w fun e w' => e = .returned (.string (str (hd k n))) ∧ Below w.heap.size w w' := by
  by_cases h : n ≤ 55
  · have hh := Lib.hid (show hd k n = [UInt8.ofNat (k + n)] from if_pos h)
    obtain ⟨x, hx⟩ : ∃ x, x = k + n := ⟨_, rfl⟩
    have hx1 : x < 256 := by omega
    have h1 : (n : Int) ≤ 55 := by omega
    have h2 : (k : Int) + (n : Int) = (x : Int) := by omega
    have h3 : IntKind.u8.wrap (x : Int) = (x : Int) := by rw [IntKind.wrap_u8]; omega
    have h4 : IntKind.i64.wrap ((k : Int) + (n : Int)) = (k : Int) + (n : Int) := IntWalk.i64_in _ (by omega)
    have hc := conv1 w x hx1
    rw [← hx] at hh
    have HB := Lib.hid (bel_al w (.cells #[.int .u8 (x : Int)] 5))
    clear hx hk hn h
    go_enter Try.func34, Try.ntmps34
    go_wp2_with fail
    go_ret
    exact ⟨by rw [hh.out]; rfl, HB.out⟩
  · have hh := Lib.hid (show hd k n = UInt8.ofNat (k + 55 + (num n).length) :: num n from if_neg h)
    have hl : (num n).length ≤ 8 := num_length_le 8 (by simp; omega)
    obtain ⟨x, hx⟩ : ∃ x, x = k + 55 + (num n).length := ⟨_, rfl⟩
    have hx1 : x < 256 := by omega
    have h1 : ¬ (n : Int) ≤ 55 := by omega
    have hsz := str_size (num n)
    have h2 : (k : Int) + 55 + ((str (num n)).size : Int) = (x : Int) := by omega
    have h3 : IntKind.u8.wrap (x : Int) = (x : Int) := by rw [IntKind.wrap_u8]; omega
    have h4 : IntKind.u64.wrap (n : Int) = (n : Int) := by rw [IntKind.wrap_u64]; omega
    have hc := fun W => conv1 W x hx1
    have HR := Lib.hid (fun W => rbytes_c n (by unfold M64; omega) W)
    have ha := str_append [UInt8.ofNat x] (num n)
    rw [← hx] at hh
    rw [List.singleton_append, ← hh.out] at ha
    have hsum : ¬ 9223372036854775807 < (str [UInt8.ofNat x]).size + (str (num n)).size := by rw [str_size, hsz, List.length_singleton]; omega
    clear hx hk hn h hh hl hsz
    generalize str (num n) = sn at *
    generalize str [UInt8.ofNat x] = sx at *
    go_enter Try.func34, Try.ntmps34
    go_wp2_with fail
    go_at_call 20
    refine (HR.out _).mono ?_
    rintro e w1 ⟨rfl, hb⟩
    have HB := Lib.hid (bel_then hb (bel_al w1 (.cells #[.int .u8 (x : Int)] 5)))
    clear hb
    go_wp2_with fail
    go_ret
    exact ⟨rfl, HB.out⟩
end Go.Proofs.Ytgaaalacoeainaa
