/- Contracts of package word: guess, leadingZeros. -/
import Derived.Test.YthbfhfgmanafpaaDiv64
namespace Go.Proofs.Ythbfhfgmanafpaa
open Go.RowKit

def IntB (p : Int → Prop) (w : World) (e : Ending) (w' : World) : Prop := ∃ n : Int, p n ∧ e = .returned (.int .i64 n) ∧ Below w.heap.size w w'

theorem div64_c (h l y : Nat) (hy : h < y) (hl : l < M64) (hyM : y < M64) (w : World) :
    Calls Try.prog 96 #[.int .u64 h, .int .u64 l, .int .u64 y] w (RetQ ((h * M64 + l) / y) w) := by
  rcases Nat.eq_zero_or_pos h with rfl | hp
  · have := div64_low l y hy hyM hl w
    simpa using this
  · obtain ⟨b1, b2, _, _⟩ := bitLen_top (show y ≠ 0 by omega) hyM
    exact div64_high h l y (64 - Lib.bitLen y) hy hl hyM hp (by omega) w

set_option maxRecDepth 100000 in
set_option maxHeartbeats 1000000 in
theorem guess_c (h l y : Nat) (hl : l < M64) (hyM : y < M64) (w : World) :
    Calls Try.prog 94 #[.int .u64 h, .int .u64 l, .int .u64 y] w fun e w' => e = .returned (.int .u64 (guessOf h l y : Nat)) ∧ Below w.heap.size w w' := by
  unfold guessOf
  by_cases hy : h < y
  · rw [if_pos hy]
    have D := Lib.hid (div64_c h l y hy hl hyM)
    unfold RetQ at D
    generalize (h * M64 + l) / y = q at *
    have hi : (h : Int) < (y : Int) := by omega
    clear hy hl hyM
    go_enter Try.func94, Try.ntmps94
    go_wp2_with fail
    refine (D.out _).mono ?_
    rintro e w' ⟨r, rfl, hb⟩
    go_wp2_with fail
    go_ret
    exact ⟨rfl, hb⟩
  · rw [if_neg hy]
    have hi : (y : Int) ≤ (h : Int) := by omega
    clear hy hl hyM
    go_enter Try.func94, Try.ntmps94
    go_wp2_with fail
    go_ret
    exact ⟨by unfold M64; rfl, Below.refl _ _⟩

/-- What leadingZeros knows ahead of round k: the limbs above are 0. -/
def LeadRel (a k : Nat) : Prop := k ≤ 3 ∧ a < M64 ^ (4 - k)

theorem LeadRel.limb {a a0 a1 a2 a3 k : Nat} (h : LeadRel a k) (ha : Dig a a0 a1 a2 a3) : nth a0 a1 a2 a3 (3 - k) < M64 ∧ ∃ l, a = nth a0 a1 a2 a3 (3 - k) * M64 ^ (3 - k) + l ∧ l < M64 ^ (3 - k) := by
  obtain ⟨hk, hl⟩ := h
  refine ⟨ha.nth _, ?_⟩
  obtain ⟨h0, h1, h2, h3, rfl⟩ := ha
  have : k = 0 ∨ k = 1 ∨ k = 2 ∨ k = 3 := by omega
  rcases this with rfl | rfl | rfl | rfl
  · exact ⟨a0 + M64 * (a1 + M64 * a2), by simp only [nth, Nat.sub_zero, Nat.pow_succ, Nat.pow_zero]; unfold M64; omega, by simp only [Nat.sub_zero, Nat.pow_succ, Nat.pow_zero]; unfold M64 at *; omega⟩
  · refine ⟨a0 + M64 * a1, ?_, ?_⟩
    · simp only [nth, Nat.reduceSub, Nat.pow_succ, Nat.pow_zero] at hl ⊢
      unfold M64 at *; omega
    · simp only [Nat.reduceSub, Nat.pow_succ, Nat.pow_zero]; unfold M64 at *; omega
  · refine ⟨a0, ?_, ?_⟩
    · simp only [nth, Nat.reduceSub, Nat.pow_succ, Nat.pow_zero] at hl ⊢
      unfold M64 at *; omega
    · simp only [Nat.reduceSub, Nat.pow_succ, Nat.pow_zero]; unfold M64 at *; omega
  · refine ⟨0, ?_, ?_⟩
    · simp only [nth, Nat.reduceSub, Nat.pow_succ, Nat.pow_zero] at hl ⊢
      unfold M64 at *; omega
    · simp
theorem LeadRel.next {a a0 a1 a2 a3 k : Nat} (h : LeadRel a k) (ha : Dig a a0 a1 a2 a3) (h0 : a ≠ 0) (hz : nth a0 a1 a2 a3 (3 - k) = 0) : LeadRel a (k + 1) ∧ k < 3 := by
  obtain ⟨_, l, e, hl⟩ := h.limb ha
  rw [hz, Nat.zero_mul, Nat.zero_add] at e
  subst e
  obtain ⟨hk, _⟩ := h
  have : k < 3 := by
    rcases Nat.lt_or_ge k 3 with h | h
    · exact h
    · obtain rfl : k = 3 := by omega
      simp at hl; omega
  exact ⟨⟨by omega, by rwa [show 4 - (k + 1) = 3 - k by omega]⟩, this⟩

def Lead (a z : Nat) : Prop := z ≤ 255 ∧ W256 / 2 ≤ a * 2 ^ z ∧ a * 2 ^ z < W256
def RetLead (a : Nat) (w : World) (e : Ending) (w' : World) : Prop := ∃ z : Nat, Lead a z ∧ e = .returned (.int .i64 z) ∧ Below w.heap.size w w'

theorem LeadRel.found {a a0 a1 a2 a3 k : Nat} (h : LeadRel a k) (ha : Dig a a0 a1 a2 a3) (hx : nth a0 a1 a2 a3 (3 - k) ≠ 0) :
    Lead a (64 * k + (64 - Lib.bitLen (nth a0 a1 a2 a3 (3 - k)))) ∧ Lib.bitLen (nth a0 a1 a2 a3 (3 - k)) ≤ 64 := by
  obtain ⟨hlt, l, e, hl⟩ := h.limb ha
  obtain ⟨b1, b2, _, _⟩ := bitLen_top hx hlt
  exact ⟨lead_of h.1 e hl hx hlt (by omega), b1⟩

set_option maxRecDepth 100000 in
set_option maxHeartbeats 1000000 in
theorem leadingZeros_c {a a0 a1 a2 a3 : Nat} (ha : Dig a a0 a1 a2 a3) (h0 : a ≠ 0) (w : World) :
    Calls Try.prog 80 #[.agg #[.int .u64 a0, .int .u64 a1, .int .u64 a2, .int .u64 a3]] w (RetLead a w) := by
  have hc : ∀ j, j < 4 → (w.alloc (.cells #[.int .u64 a0, .int .u64 a1, .int .u64 a2, .int .u64 a3] 45)).cell? ⟨w.heap.size, j, none⟩ = some (.int .u64 (nth a0 a1 a2 a3 j)) := by
    intro j hj
    rw [cell_of (heap_alloc_new _ _)]
    match j, hj with
    | 0, _ | 1, _ | 2, _ | 3, _ => rfl
  have HC := Lib.hid hc; clear hc
  have HA := Lib.hid ha; clear ha
  have L := Lib.hid lead64
  have H0 := Lib.hid h0; clear h0
  have HS := Lib.hid (show LeadRel a 0 from ⟨by omega, by have := HA.out.lt; unfold W256 at this; simpa [Nat.pow_succ, Nat.mul_assoc] using this⟩)
  go_enter Try.func80, Try.ntmps80
  go_wp2_with fail
  go_loop [3, 6] (fun z i => ∃ k : Nat, i = .int .i64 k ∧ z = .int .i64 ((64 * k : Nat) : Int) ∧ k ≤ 3 ∧ LeadRel a k) (fun _ i => 4 - (intOf i).toNat)
  case atStart => exact ⟨0, rfl, rfl, by omega, HS.out⟩
  case round =>
    clear HS
    obtain ⟨k, rfl, rfl, hk, hr⟩ := hrel
    have HR := Lib.hid hr; clear hr
    have hj : (3 : Int) - (k : Int) = ((3 - k : Nat) : Int) := by omega
    have hcell := HC.out (3 - k) (by omega)
    have hlt := (HR.out.limb HA.out).1
    have hj0 : (0 : Int) ≤ ((3 - k : Nat) : Int) ∧ ((3 - k : Nat) : Int) < 4 := by omega
    rcases Nat.eq_zero_or_pos (nth a0 a1 a2 a3 (3 - k)) with hx | hx
    · obtain ⟨hn, hk3⟩ := HR.out.next HA.out H0.out hx
      have HN := Lib.hid hn; clear hn
      have Hx := Lib.hid hx
      rw [hx] at hcell
      have L0 := Lib.hid (L.out 0 (by decide))
      rw [show (64 : Int) - (Lib.bitLen 0 : Nat) = 64 by decide] at L0
      clear hx hlt
      generalize 3 - k = j at *
      go_wp2_with fail
      refine (L0.out _).mono ?_
      rintro e w' ⟨rfl, rfl⟩
      go_wp2_with fail
      go_round
      case rel => exact ⟨k + 1, by go_num, by go_num, by omega, HN.out⟩
      case measure => simp [intOf]; omega
    · obtain ⟨hl, hb⟩ := HR.out.found HA.out (by omega)
      have HL := Lib.hid hl; clear hl
      have L0 := Lib.hid (L.out _ hlt)
      generalize nth a0 a1 a2 a3 (3 - k) = x at *
      obtain ⟨t, ht⟩ : ∃ t : Nat, t = 64 - Lib.bitLen x := ⟨_, rfl⟩
      rw [← ht] at HL
      rw [show (64 : Int) - (Lib.bitLen x : Nat) = (t : Int) by omega] at L0
      have ht64 : t ≤ 64 := by omega
      clear ht hb hlt
      have hxz : ((x : Int) == 0) = false := by simp; omega
      generalize 3 - k = j at *
      go_wp2_with fail
      refine (L0.out _).mono ?_
      rintro e w' ⟨rfl, rfl⟩
      go_wp2_with fail
      go_ret
      exact ⟨_, HL.out, by simp, (Below.refl _ _).alloc (Nat.le_refl _) _⟩

end Go.Proofs.Ythbfhfgmanafpaa
