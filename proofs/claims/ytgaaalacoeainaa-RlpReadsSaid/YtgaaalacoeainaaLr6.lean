/- The reference's Small. -/
import Derived.Test.YtgaaalacoeainaaLr5
namespace Go.Proofs.Ytgaaalacoeainaa
open Go.RowKit

theorem rsmall_list_c (x v : Value) (w : World) : Calls Try.prog 13 #[.agg #[.bool true, x, v]] w fun e w' => e = .returned (.tuple #[.int .u64 0, .bool false]) ∧ Below w.heap.size w w' := by
  go_enter Try.func13, Try.ntmps13
  go_wp2_with fail
  exact bodyPost_ret (v := .tuple #[.int .u64 0, .bool false]) (by simp [results, Try.results13, go_sem]) rfl ⟨rfl, (Below.refl _ _).alloc (Nat.le_refl _) _⟩
theorem rsmall_long_c (s : ByteArray) (v : Value) (h : 8 < s.size) (w : World) : Calls Try.prog 13 #[.agg #[.bool false, .string s, v]] w fun e w' => e = .returned (.tuple #[.int .u64 0, .bool false]) ∧ Below w.heap.size w w' := by
  have hi : (8 : Int) < (s.size : Int) := by omega
  go_enter Try.func13, Try.ntmps13
  go_wp2_with fail
  exact bodyPost_ret (v := .tuple #[.int .u64 0, .bool false]) (by simp [results, Try.results13, go_sem]) rfl ⟨rfl, (Below.refl _ _).alloc (Nat.le_refl _) _⟩
theorem rsmall_zero_c (s : ByteArray) (v : Value) (h : s.size ≤ 8) (h0 : 0 < s.size) (hz : (s[0]'h0).toNat = 0) (w : World) : Calls Try.prog 13 #[.agg #[.bool false, .string s, v]] w fun e w' => e = .returned (.tuple #[.int .u64 0, .bool false]) ∧ Below w.heap.size w w' := by
  have hi : ¬ (8 : Int) < (s.size : Int) := by omega
  have hj : (0 : Int) < (s.size : Int) := by omega
  have hx : ∀ W, (Instr.index 9 (.string s) (.int .i64 0)).run Try.prog W = .ok (.int .u8 0) W := fun W => by
    rw [run_index_string W _ _ _ _ Try.underlying9, dif_pos ⟨by omega, by omega⟩]
    simp [hz]
  clear hz
  go_enter Try.func13, Try.ntmps13
  go_wp2_with fail
  exact bodyPost_ret (v := .tuple #[.int .u64 0, .bool false]) (by simp [results, Try.results13, go_sem]) rfl ⟨rfl, (Below.refl _ _).alloc (Nat.le_refl _) _⟩
set_option maxRecDepth 100000 in
set_option maxHeartbeats 2000000 in
theorem rsmall_ok_c (s : List UInt8) (v : Value) (h : s.length ≤ 8) (hh : s.head? ≠ some 0) (w : World) : Calls Try.prog 13 #[.agg #[.bool false, .string (str s), v]] w fun e w' => e = .returned (.tuple #[.int .u64 (val s), .bool true]) ∧ Below w.heap.size w w' := by
  have hsz := str_size s
  have hi : ¬ (8 : Int) < ((str s).size : Int) := by omega
  have hx0 : 0 < (str s).size → ∃ z : Nat, z ≠ 0 ∧ z < 256 ∧ ∀ W, (Instr.index 9 (.string (str s)) (.int .i64 0)).run Try.prog W = .ok (.int .u8 (z : Nat)) W := by
    intro h0
    rcases s with _ | ⟨b, r⟩
    · simp [str_size] at h0
    · refine ⟨b.toNat, fun e => hh (by simp; exact UInt8.toNat_inj.1 (by simpa using e)), b.toNat_lt, fun W => ?_⟩
      rw [run_index_string W _ _ _ _ Try.underlying9, dif_pos ⟨by omega, by omega⟩]
      simp [str_get]
  have hx : ∀ k (hk : k < s.length) (W : World), (Instr.index 9 (.string (str s)) (.int .i64 (k : Nat))).run Try.prog W = .ok (.int .u8 ((s[k]'hk).toNat : Nat)) W := fun k hk W => by
    rw [run_index_string W _ _ _ _ Try.underlying9, dif_pos ⟨by omega, by omega⟩]
    simp [str_get]
  have HX := Lib.hid hx; clear hx
  have HV : ∀ k, k < s.length → ∃ b : Nat, b < 256 ∧ val (s.take k) < 256 ^ 7 ∧ val (s.take (k + 1)) = val (s.take k) * 256 + b ∧ ∀ W : World, (Instr.index 9 (.string (str s)) (.int .i64 (k : Nat))).run Try.prog W = .ok (.int .u8 (b : Nat)) W := fun k hk => by
    refine ⟨(s[k]'hk).toNat, (s[k]'hk).toNat_lt, ?_, ?_, HX.out k hk⟩
    · refine Nat.lt_of_lt_of_le (val_lt _) (Nat.pow_le_pow_right (by decide) ?_)
      rw [List.length_take]; omega
    · rw [List.take_succ_eq_append_getElem hk, val_snoc]
  replace HV := Lib.hid HV
  have HT := Lib.hid (show val (s.take s.length) = val s by rw [List.take_length])
  have H0 := Lib.hid (show val (s.take 0) = 0 from rfl)
  clear HX hh
  rw [← hsz] at HV HT h
  generalize str s = x at *
  have hsl := Lib.hid hsz
  clear hsz
  have loop : ∀ h0 : (0 < x.size) ∨ ¬ 0 < x.size, Calls Try.prog 13 #[.agg #[.bool false, .string x, v]] w fun e w' => e = .returned (.tuple #[.int .u64 (val s), .bool true]) ∧ Below w.heap.size w w' := by
    intro h0
    rcases h0 with h0 | h0
    · obtain ⟨z, hz0, hz1, hz⟩ := hx0 h0
      have hj : (0 : Int) < (x.size : Int) := by omega
      have hzz : ((z : Int) == 0) = false := by simpa using hz0
      go_enter Try.func13, Try.ntmps13
      go_wp2_with fail
      clear hx0
      obtain ⟨w1, hw1⟩ : ∃ w1, w1 = w.alloc (.cells #[.bool false, .string x, v] 35) := ⟨_, rfl⟩
      have hc1 : w1.cell? ⟨w.heap.size, 1, none⟩ = some (.string x) := by rw [hw1]; exact cell_of (heap_alloc_new w (.cells #[.bool false, .string x, v] 35)) 1
      have HB := Lib.hid (show Below w.heap.size w w1 from by rw [hw1]; exact (Below.refl w.heap.size w).alloc (Nat.le_refl _) _)
      rw [← hw1]
      clear hw1
      go_loopw [4, 5] (fun a i wr => ∃ k : Nat, a = .int .u64 (val (s.take k) : Nat) ∧ i = .int .i64 k ∧ k ≤ x.size ∧ wr = w1) (fun _ i _ => x.size - (intOf i).toNat)
      case atStart => exact ⟨0, by rw [H0.out]; rfl, rfl, by omega, rfl⟩
      case round =>
        obtain ⟨k, rfl, rfl, hk, rfl⟩ := hrel
        by_cases hlt : k < x.size
        · have hli : (k : Int) < (x.size : Int) := by omega
          obtain ⟨b, hb, hv, hn, hix⟩ := HV.out k (by have := hsl.out; omega)
          have HN := Lib.hid hn; clear hn
          generalize hm : val (s.take k) = m at *
          go_wp2_with fail
          refine ⟨⟨k + 1, ?_, by simp, by omega, trivial⟩, by simp [intOf]; omega⟩
          rw [HN.out]
          have hm' : m < 72057594037927936 := by simpa using hv
          exact congrArg (Value.int .u64) (by omega)
        · have hli : ¬ (k : Int) < (x.size : Int) := by omega
          obtain rfl : k = x.size := by omega
          rw [HT.out]
          go_wp2_with fail
          exact bodyPost_ret (v := .tuple #[.int .u64 (val s : Nat), .bool true]) (by simp [results, Try.results13, go_sem]) rfl ⟨rfl, HB.out⟩
    · have hj : ¬ (0 : Int) < (x.size : Int) := by omega
      go_enter Try.func13, Try.ntmps13
      go_wp2_with fail
      clear hx0
      obtain ⟨w1, hw1⟩ : ∃ w1, w1 = w.alloc (.cells #[.bool false, .string x, v] 35) := ⟨_, rfl⟩
      have hc1 : w1.cell? ⟨w.heap.size, 1, none⟩ = some (.string x) := by rw [hw1]; exact cell_of (heap_alloc_new w (.cells #[.bool false, .string x, v] 35)) 1
      have HB := Lib.hid (show Below w.heap.size w w1 from by rw [hw1]; exact (Below.refl w.heap.size w).alloc (Nat.le_refl _) _)
      rw [← hw1]
      clear hw1
      go_loopw [4, 5] (fun a i wr => ∃ k : Nat, a = .int .u64 (val (s.take k) : Nat) ∧ i = .int .i64 k ∧ k ≤ x.size ∧ wr = w1) (fun _ i _ => x.size - (intOf i).toNat)
      case atStart => exact ⟨0, by rw [H0.out]; rfl, rfl, by omega, rfl⟩
      case round =>
        obtain ⟨k, rfl, rfl, hk, rfl⟩ := hrel
        by_cases hlt : k < x.size
        · omega
        · have hli : ¬ (k : Int) < (x.size : Int) := by omega
          obtain rfl : k = x.size := by omega
          rw [HT.out]
          go_wp2_with fail
          exact bodyPost_ret (v := .tuple #[.int .u64 (val s : Nat), .bool true]) (by simp [results, Try.results13, go_sem]) rfl ⟨rfl, HB.out⟩
  exact loop (Classical.em _)
end Go.Proofs.Ytgaaalacoeainaa
