/- Contracts of package modular: partsOf, length, isSet, Size. -/
import Derived.Test.YthbfhfgmanafpaaModA
namespace Go.Proofs.Ythbfhfgmanafpaa
open Go.RowKit
attribute [local go_sem ↓] Go.wp_at_zero Go.wp_at_succ

set_option maxHeartbeats 400000 in
theorem partsOf_c (a b c d : Nat) (w : World) :
    Calls Try.prog 72 #[.agg #[.int .u64 a, .int .u64 b, .int .u64 c, .int .u64 d]] w fun e w' =>
      e = .returned (.agg #[.int .u64 d, .int .u64 c, .int .u64 b, .int .u64 a]) ∧ Below w.heap.size w w' := by
  go_enter Try.func72, Try.ntmps72
  go_wp2
  exact bodyPost_ret (v := .agg #[.int .u64 d, .int .u64 c, .int .u64 b, .int .u64 a]) (by simp [results, Try.results72, go_sem]) rfl ⟨rfl, ((Below.refl _ _).alloc (Nat.le_refl _) _).alloc (by simp) _⟩

/-- x has just so many bits. -/
def BitLen (x l : Nat) : Prop := l ≤ 256 ∧ x < 2 ^ l ∧ (0 < l → 2 ^ (l - 1) ≤ x)
def RetLen (x : Nat) (w : World) (e : Ending) (w' : World) : Prop := ∃ l : Nat, BitLen x l ∧ e = .returned (.int .i64 l) ∧ Below w.heap.size w w'

/-- What length knows at the head of a round: the limb that is asked next, or that all are 0. -/
def LenRel (x : Nat) (i : Value) : Prop := (∃ k : Nat, k ≤ 3 ∧ i = .int .i64 k ∧ x < M64 ^ (k + 1)) ∨ (i = .int .i64 (-1) ∧ x = 0)

theorem LenRel.limb {x a0 a1 a2 a3 k : Nat} (ha : Dig x a0 a1 a2 a3) (hk : k ≤ 3) (h : x < M64 ^ (k + 1)) :
    nth a0 a1 a2 a3 k < M64 ∧ ∃ l, x = nth a0 a1 a2 a3 k * M64 ^ k + l ∧ l < M64 ^ k := by
  have := LeadRel.limb (a := x) (k := 3 - k) ⟨by omega, by rwa [show 4 - (3 - k) = k + 1 by omega]⟩ ha
  rwa [show 3 - (3 - k) = k by omega] at this

theorem len_of {x k v l : Nat} (hk : k ≤ 3) (hx : x = v * M64 ^ k + l) (hl : l < M64 ^ k) (h0 : v ≠ 0) (hv : v < M64) : BitLen x (k * 64 + Lib.bitLen v) := by
  obtain ⟨b1, b2, b3, b4⟩ := bitLen_top h0 hv
  have eM : M64 ^ k = 2 ^ (k * 64) := by rw [show M64 = 2 ^ 64 from rfl, ← Nat.pow_mul, Nat.mul_comm]
  refine ⟨by omega, ?_, fun _ => ?_⟩
  · have h1 := Nat.mul_le_mul_right (M64 ^ k) b4
    rw [Nat.succ_mul] at h1
    have : x < 2 ^ Lib.bitLen v * M64 ^ k := by omega
    rwa [eM, ← Nat.pow_add, Nat.add_comm] at this
  · have h1 := Nat.mul_le_mul_right (M64 ^ k) b3
    have : 2 ^ (Lib.bitLen v - 1) * M64 ^ k ≤ x := by omega
    rwa [eM, ← Nat.pow_add, show Lib.bitLen v - 1 + k * 64 = k * 64 + Lib.bitLen v - 1 by omega] at this

set_option maxRecDepth 100000 in
set_option maxHeartbeats 1000000 in
theorem length_c {x a3 a2 a1 a0 : Nat} (hx : Dig x a0 a1 a2 a3) (w : World) :
    Calls Try.prog 57 #[.agg #[.int .u64 a3, .int .u64 a2, .int .u64 a1, .int .u64 a0]] w (RetLen x w) := by
  have H := ((Fx.start w).new #[.int .u64 a3, .int .u64 a2, .int .u64 a1, .int .u64 a0] 24).1
  have HA := Lib.hid hx; clear hx
  have HS := Lib.hid (show LenRel x (.int .i64 3) from .inl ⟨3, by omega, rfl, by have := HA.out.lt; unfold W256 at this; simpa [Nat.pow_succ, Nat.mul_assoc] using this⟩)
  go_enter Try.func57, Try.ntmps57
  go_wp2_with fail
  refine (partsOf_c _ _ _ _ _).mono ?_
  rintro e w1 ⟨rfl, hb1⟩
  have H1 := ((H.call hb1).up).new #[.int .u64 a0, .int .u64 a1, .int .u64 a2, .int .u64 a3] 44
  have hc : ∀ j, j < 4 → (w1.alloc (.cells #[.int .u64 a0, .int .u64 a1, .int .u64 a2, .int .u64 a3] 44)).cell? ⟨w1.heap.size, j, none⟩ = some (.int .u64 (nth a0 a1 a2 a3 j)) := by
    intro j hj
    rw [cell_of (heap_alloc_new _ _)]
    match j, hj with
    | 0, _ | 1, _ | 2, _ | 3, _ => rfl
  have HC := Lib.hid hc; clear hc
  replace H1 := Lib.hid H1
  clear hb1 H
  go_wp2_with fail
  go_loop [4] (fun i => LenRel x i) (fun i => (intOf i + 1).toNat)
  case atStart => exact HS.out
  case round =>
    clear HS
    rcases hrel with ⟨k, hk, rfl, hlt⟩ | ⟨rfl, h0⟩
    · obtain ⟨hv, l, he, hl⟩ := LenRel.limb HA.out hk hlt
      have hcell := HC.out k (by omega)
      have Hlt := Lib.hid hlt; clear hlt
      rcases Nat.eq_zero_or_pos (nth a0 a1 a2 a3 k) with hz | hz
      · rw [hz] at hcell he
        have hn : LenRel x (.int .i64 ((k : Int) - 1)) := by
          rw [Nat.zero_mul, Nat.zero_add] at he
          rcases Nat.eq_zero_or_pos k with rfl | hkp
          · rw [Nat.pow_zero] at hl; exact .inr ⟨rfl, by omega⟩
          · obtain ⟨j, rfl⟩ : ∃ j, k = j + 1 := ⟨k - 1, by omega⟩
            exact .inl ⟨j, by omega, by congr 1; omega, by omega⟩
        have HN := Lib.hid hn
        clear hn he hl hv hz
        have hk0 : (0 : Int) ≤ (k : Int) ∧ (k : Int) ≤ 3 := by omega
        go_wp2_with fail
        go_round
        case rel => exact HN.out
        case measure => (simp [intOf]; try omega)
      · have HL := Lib.hid (len_of hk he hl (by omega) hv)
        have hxz : ((nth a0 a1 a2 a3 k : Int) == 0) = false := by simp; omega
        have L := Lib.hid (fun W => Try.bits_Len64 (nth a0 a1 a2 a3 k : Nat) W (by omega) (by unfold M64 at hv; omega))
        have hbl := (bitLen_top (show nth a0 a1 a2 a3 k ≠ 0 by omega) hv).1
        simp only [Int.toNat_natCast] at L
        clear he hl hv hz
        generalize nth a0 a1 a2 a3 k = v at *
        generalize Lib.bitLen v = b at *
        have hk0 : (0 : Int) ≤ (k : Int) ∧ (k : Int) ≤ 3 := by omega
        go_wp2_with fail
        refine (L.out _).mono ?_
        rintro e w' ⟨rfl, rfl⟩
        go_wp2_with fail
        go_ret
        exact ⟨_, HL.out, by simp, H1.out.below⟩
    · have H0 := Lib.hid h0; clear h0
      go_wp2_with fail
      go_ret
      exact ⟨0, ⟨by omega, by rw [H0.out]; decide, by omega⟩, rfl, H1.out.below⟩

set_option maxRecDepth 100000 in
set_option maxHeartbeats 400000 in
theorem Size_c {x a3 a2 a1 a0 : Nat} (hx : Dig x a0 a1 a2 a3) (w : World) :
    Calls Try.prog 22 #[.agg #[.int .u64 a3, .int .u64 a2, .int .u64 a1, .int .u64 a0]] w
      fun e w' => ∃ l : Nat, BitLen x l ∧ e = .returned (.int .i64 ((l + 7) / 8 : Nat)) ∧ Below w.heap.size w w' := by
  have L := Lib.hid (fun W => length_c hx W); clear hx
  have H := ((Fx.start w).new #[.int .u64 a3, .int .u64 a2, .int .u64 a1, .int .u64 a0] 24).1
  go_enter Try.func22, Try.ntmps22
  go_wp2_with fail
  refine (L.out _).mono ?_
  rintro e w1 ⟨l, hl, rfl, hb⟩
  have hl1 : (0 : Int) ≤ (l : Int) ∧ (l : Int) ≤ 256 := ⟨by omega, by have := hl.1; omega⟩
  have HL := Lib.hid hl
  have H1 := Lib.hid (H.call hb)
  clear hl hb H L
  go_wp2_with fail
  go_ret
  refine ⟨l, HL.out, ?_, H1.out.below⟩
  have e : ((l : Int) + 8 - 1) / 8 = (((l + 7) / 8 : Nat) : Int) := by omega
  rw [← e]
  rfl

theorem index_parts (d0 d1 d2 d3 k : Nat) (hk : k < 4) (W : World) :
    (Instr.index 44 (.agg #[.int .u64 d0, .int .u64 d1, .int .u64 d2, .int .u64 d3]) (.int .i64 (k : Int))).run Try.prog W = .ok (.int .u64 (nth d0 d1 d2 d3 k : Nat)) W := by
  have h : k = 0 ∨ k = 1 ∨ k = 2 ∨ k = 3 := by omega
  rcases h with rfl | rfl | rfl | rfl <;> simp [Instr.index, run_underlying Try.underlying44, asIntOf, go_sem, nth]

theorem bit_of {x a0 a1 a2 a3 i : Nat} (ha : Dig x a0 a1 a2 a3) (hi : i < 256) : nth a0 a1 a2 a3 (i / 64) / 2 ^ (i % 64) % 2 = x / 2 ^ i % 2 := by
  have hs := sunk_sum ha (l := i / 64) (by omega)
  have e : x / 2 ^ i = x / M64 ^ (i / 64) / 2 ^ (i % 64) := by
    rw [show M64 = 2 ^ 64 from rfl, ← Nat.pow_mul, Nat.div_div_eq_div_mul, ← Nat.pow_add, show 64 * (i / 64) + i % 64 = i by omega]
  have e0 : sunk (nth a0 a1 a2 a3) (i / 64) 0 = nth a0 a1 a2 a3 (i / 64) := by unfold sunk; rw [if_pos (by omega), Nat.zero_add]
  rw [e, hs, e0]
  generalize sunk (nth a0 a1 a2 a3) (i / 64) 1 + M64 * (sunk (nth a0 a1 a2 a3) (i / 64) 2 + M64 * sunk (nth a0 a1 a2 a3) (i / 64) 3) = r
  generalize nth a0 a1 a2 a3 (i / 64) = v
  have hd : i % 64 < 64 := by omega
  generalize i % 64 = d at hd ⊢
  have e2 : M64 * r = 2 ^ d * (2 * (2 ^ (63 - d) * r)) := by
    rw [← Nat.mul_assoc, ← Nat.mul_assoc, ← Nat.pow_succ, ← Nat.pow_add, show d + 1 + (63 - d) = 64 by omega]; rfl
  rw [e2, Nat.add_mul_div_left _ _ (Nat.pow_pos (by decide)), Nat.add_mul_mod_self_left]

set_option maxRecDepth 100000 in
set_option maxHeartbeats 1000000 in
theorem isSet_c {x a3 a2 a1 a0 i : Nat} (hx : Dig x a0 a1 a2 a3) (hi : i < 256) (w : World) :
    Calls Try.prog 69 #[.agg #[.int .u64 a3, .int .u64 a2, .int .u64 a1, .int .u64 a0], .int .i64 i] w (RetBB (decide (x / 2 ^ i % 2 = 1)) w) := by
  have hix := index_parts a0 a1 a2 a3 (i / 64) (by omega)
  have hv := hx.nth (i / 64)
  have hb := bit_of hx hi
  have hl : (i : Int) / 64 = ((i / 64 : Nat) : Int) := by omega
  have hd : (i : Int) % 64 = ((i % 64 : Nat) : Int) := by omega
  have h0 : (0 : Int) ≤ (i : Int) := by omega
  have hl4 : (0 : Int) ≤ ((i / 64 : Nat) : Int) ∧ ((i / 64 : Nat) : Int) < 4 := by omega
  have hwl : wrap64 ((i / 64 : Nat) : Int) = ((i / 64 : Nat) : Int) := by unfold wrap64; omega
  have hd64 : (0 : Int) ≤ ((i % 64 : Nat) : Int) ∧ ((i % 64 : Nat) : Int) < 64 := by omega
  rw [← hb]
  have ha : Go.bits .and .u64 ((nth a0 a1 a2 a3 (i / 64) : Int) / 2 ^ (i % 64)) 1 = ((nth a0 a1 a2 a3 (i / 64) / 2 ^ (i % 64) % 2 : Nat) : Int) := by
    have hlt : nth a0 a1 a2 a3 (i / 64) / 2 ^ (i % 64) < M64 := Nat.lt_of_le_of_lt (Nat.div_le_self _ _) hv
    have h := and64 (nth a0 a1 a2 a3 (i / 64) / 2 ^ (i % 64)) 1 hlt (by decide)
    rw [Nat.and_one_is_mod] at h
    rw [← h]
    congr 1
  have hm : nth a0 a1 a2 a3 (i / 64) / 2 ^ (i % 64) % 2 < 2 := Nat.mod_lt _ (by decide)
  clear hx hi hv hb
  generalize nth a0 a1 a2 a3 (i / 64) = v at *
  generalize v / 2 ^ (i % 64) % 2 = r at *
  generalize i / 64 = q at *
  generalize i % 64 = s at *
  have H := ((Fx.start w).new #[.int .u64 a3, .int .u64 a2, .int .u64 a1, .int .u64 a0] 24).1
  go_enter Try.func69, Try.ntmps69
  go_wp2_with fail
  refine (partsOf_c _ _ _ _ _).mono ?_
  rintro e w1 ⟨rfl, hb1⟩
  have H1 := Lib.hid (H.call hb1)
  clear hb1 H
  go_wp2_with fail
  go_ret
  refine ⟨?_, H1.out.below⟩
  congr 2
  rcases (show r = 0 ∨ r = 1 by omega) with rfl | rfl <;> simp

end Go.Proofs.Ythbfhfgmanafpaa
