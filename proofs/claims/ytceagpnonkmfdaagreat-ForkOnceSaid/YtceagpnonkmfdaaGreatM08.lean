/- Merged: LPlain, Num, VPlain, WordA, WordUp, WordPlus, WordC, WordD, WordB, BytesN, Num2, WordM, WordO, WordR, WordT, WordE. -/
import Derived.Test.YtceagpnonkmfdaaGreatRows
import Derived.ProofKit
import Derived.OpenShut
import Derived.WalkKit
import Derived.Lib.SmallJoins
import Derived.ChangeMaps5
import Derived.ShutString
import Derived.Test.YtceagpnonkmfdaaGreatM01
import Derived.WalkSpells
import Derived.WalkLawsBesides
import Derived.Lib.Hide
import Derived.Shelf.Spec.BitsCarry
import Derived.BigQuiet
import Derived.Deep.RegionHeld3
import Derived.Deep.DrawnRows
section
namespace Go.Proofs.YtceagpnonkmfdaaGreat
open Go.ChangeShapes Go.WideShapes Go.ChangeAt Go.RowKit

theorem u64_of {n : Int} (h : (Lit.int .u64 n).wf = true) : ∃ k : Nat, n = (k : Int) ∧ k < 18446744073709551616 := by
  have h' : 0 ≤ n ∧ n ≤ 18446744073709551615 := by simpa [Lit.wf, IntKind.min, IntKind.max, IntKind.signed, IntKind.bits] using h
  exact ⟨n.toNat, by omega, by omega⟩
theorem ownKnob_none : ownKnob Tryz.prog.godebug = none := by kernel_rfl
end Go.Proofs.YtceagpnonkmfdaaGreat
end
section
namespace Go.Proofs.YtceagpnonkmfdaaGreat
open Go.RowKit

/-- Limb i of four, lowest first. -/
def nth (d c b a : Nat) (i : Nat) : Nat := match i with | 0 => d | 1 => c | 2 => b | _ => a

/-- 2^256, kept from the walk. -/
def W256 : Nat := M64 * (M64 * (M64 * M64))

/-- n's limbs, the lowest first. -/
structure Dig (n d0 d1 d2 d3 : Nat) : Prop where
  h0 : d0 < M64
  h1 : d1 < M64
  h2 : d2 < M64
  h3 : d3 < M64
  eq : n = d0 + M64 * (d1 + M64 * (d2 + M64 * d3))

theorem Dig.lt {n d0 d1 d2 d3 : Nat} (h : Dig n d0 d1 d2 d3) : n < W256 := by
  obtain ⟨h0, h1, h2, h3, rfl⟩ := h
  unfold W256 M64 at *
  omega

theorem Dig.nth {n d0 d1 d2 d3 : Nat} (h : Dig n d0 d1 d2 d3) (k : Nat) : nth d0 d1 d2 d3 k < M64 := by
  obtain ⟨h0, h1, h2, h3, _⟩ := h
  unfold Go.Proofs.YtceagpnonkmfdaaGreat.nth; split <;> assumption

theorem Dig.inj {n d0 d1 d2 d3 e0 e1 e2 e3 : Nat} (h : Dig n d0 d1 d2 d3) (k : Dig n e0 e1 e2 e3) : d0 = e0 ∧ d1 = e1 ∧ d2 = e2 ∧ d3 = e3 := by
  obtain ⟨h0, h1, h2, h3, rfl⟩ := h
  obtain ⟨k0, k1, k2, k3, e⟩ := k
  unfold M64 at *
  omega

/-- Every number below 2^256 has limbs. -/
theorem Dig.of {n : Nat} (h : n < W256) : Dig n (n % M64) (n / M64 % M64) (n / M64 / M64 % M64) (n / M64 / M64 / M64) := by
  unfold W256 M64 at h
  refine ⟨?_, ?_, ?_, ?_, ?_⟩ <;> unfold M64 <;> omega

/-- What is carried into limb k, and limb k of the sum. -/
def addC (x y : Nat → Nat) : Nat → Nat
  | 0 => 0
  | k + 1 => (x k + y k + addC x y k) / M64
def addD (x y : Nat → Nat) (k : Nat) : Nat := (x k + y k + addC x y k) % M64
/-- What is borrowed from limb k, and limb k of the difference. -/
def subC (x y : Nat → Nat) : Nat → Nat
  | 0 => 0
  | k + 1 => if x k < y k + subC x y k then 1 else 0
def subD (x y : Nat → Nat) (k : Nat) : Nat := (x k + M64 - y k - subC x y k) % M64

theorem addC_le {x y : Nat → Nat} (hx : ∀ k, x k < M64) (hy : ∀ k, y k < M64) (k : Nat) : addC x y k ≤ 1 := by
  induction k with
  | zero => simp [addC]
  | succ k ih =>
    have := hx k; have := hy k
    simp only [addC]
    unfold M64 at *
    omega
theorem subC_le {x y : Nat → Nat} (k : Nat) : subC x y k ≤ 1 := by
  cases k with
  | zero => simp [subC]
  | succ k => simp only [subC]; split <;> omega

theorem add_step (x y c : Nat) : x + y + c = (x + y + c) % M64 + M64 * ((x + y + c) / M64) := (Nat.mod_add_div _ _).symm
theorem sub_step (x y c : Nat) (hx : x < M64) (hy : y < M64) (hc : c ≤ 1) : x + M64 * (if x < y + c then 1 else 0) = (x + M64 - y - c) % M64 + y + c := by
  unfold M64 at *
  split <;> omega

theorem add_digits {x y x0 x1 x2 x3 y0 y1 y2 y3 : Nat} (hx : Dig x x0 x1 x2 x3) (hy : Dig y y0 y1 y2 y3) :
    ∃ s, Dig s (addD (nth x0 x1 x2 x3) (nth y0 y1 y2 y3) 0) (addD (nth x0 x1 x2 x3) (nth y0 y1 y2 y3) 1) (addD (nth x0 x1 x2 x3) (nth y0 y1 y2 y3) 2) (addD (nth x0 x1 x2 x3) (nth y0 y1 y2 y3) 3) ∧
      x + y = s + W256 * addC (nth x0 x1 x2 x3) (nth y0 y1 y2 y3) 4 := by
  have pos : 0 < M64 := by unfold M64; omega
  refine ⟨_, ⟨Nat.mod_lt _ pos, Nat.mod_lt _ pos, Nat.mod_lt _ pos, Nat.mod_lt _ pos, rfl⟩, ?_⟩
  obtain ⟨_, _, _, _, rfl⟩ := hx
  obtain ⟨_, _, _, _, rfl⟩ := hy
  have a0 := add_step x0 y0 (addC (nth x0 x1 x2 x3) (nth y0 y1 y2 y3) 0)
  have a1 := add_step x1 y1 (addC (nth x0 x1 x2 x3) (nth y0 y1 y2 y3) 1)
  have a2 := add_step x2 y2 (addC (nth x0 x1 x2 x3) (nth y0 y1 y2 y3) 2)
  have a3 := add_step x3 y3 (addC (nth x0 x1 x2 x3) (nth y0 y1 y2 y3) 3)
  have z : addC (nth x0 x1 x2 x3) (nth y0 y1 y2 y3) 0 = 0 := rfl
  have d0 : addD (nth x0 x1 x2 x3) (nth y0 y1 y2 y3) 0 = (x0 + y0 + addC (nth x0 x1 x2 x3) (nth y0 y1 y2 y3) 0) % M64 := rfl
  have d1 : addD (nth x0 x1 x2 x3) (nth y0 y1 y2 y3) 1 = (x1 + y1 + addC (nth x0 x1 x2 x3) (nth y0 y1 y2 y3) 1) % M64 := rfl
  have d2 : addD (nth x0 x1 x2 x3) (nth y0 y1 y2 y3) 2 = (x2 + y2 + addC (nth x0 x1 x2 x3) (nth y0 y1 y2 y3) 2) % M64 := rfl
  have d3 : addD (nth x0 x1 x2 x3) (nth y0 y1 y2 y3) 3 = (x3 + y3 + addC (nth x0 x1 x2 x3) (nth y0 y1 y2 y3) 3) % M64 := rfl
  have c1 : addC (nth x0 x1 x2 x3) (nth y0 y1 y2 y3) 1 = (x0 + y0 + addC (nth x0 x1 x2 x3) (nth y0 y1 y2 y3) 0) / M64 := rfl
  have c2 : addC (nth x0 x1 x2 x3) (nth y0 y1 y2 y3) 2 = (x1 + y1 + addC (nth x0 x1 x2 x3) (nth y0 y1 y2 y3) 1) / M64 := rfl
  have c3 : addC (nth x0 x1 x2 x3) (nth y0 y1 y2 y3) 3 = (x2 + y2 + addC (nth x0 x1 x2 x3) (nth y0 y1 y2 y3) 2) / M64 := rfl
  have c4 : addC (nth x0 x1 x2 x3) (nth y0 y1 y2 y3) 4 = (x3 + y3 + addC (nth x0 x1 x2 x3) (nth y0 y1 y2 y3) 3) / M64 := rfl
  rw [← d0, ← c1] at a0
  rw [← d1, ← c2] at a1
  rw [← d2, ← c3] at a2
  rw [← d3, ← c4] at a3
  clear d0 d1 d2 d3 c1 c2 c3 c4
  generalize addC (nth x0 x1 x2 x3) (nth y0 y1 y2 y3) 0 = k0 at *
  generalize addC (nth x0 x1 x2 x3) (nth y0 y1 y2 y3) 1 = k1 at *
  generalize addC (nth x0 x1 x2 x3) (nth y0 y1 y2 y3) 2 = k2 at *
  generalize addC (nth x0 x1 x2 x3) (nth y0 y1 y2 y3) 3 = k3 at *
  generalize addC (nth x0 x1 x2 x3) (nth y0 y1 y2 y3) 4 = k4 at *
  generalize addD (nth x0 x1 x2 x3) (nth y0 y1 y2 y3) 0 = s0 at *
  generalize addD (nth x0 x1 x2 x3) (nth y0 y1 y2 y3) 1 = s1 at *
  generalize addD (nth x0 x1 x2 x3) (nth y0 y1 y2 y3) 2 = s2 at *
  generalize addD (nth x0 x1 x2 x3) (nth y0 y1 y2 y3) 3 = s3 at *
  unfold W256 M64 at *
  omega

theorem sub_digits {x y x0 x1 x2 x3 y0 y1 y2 y3 : Nat} (hx : Dig x x0 x1 x2 x3) (hy : Dig y y0 y1 y2 y3) :
    ∃ s, Dig s (subD (nth x0 x1 x2 x3) (nth y0 y1 y2 y3) 0) (subD (nth x0 x1 x2 x3) (nth y0 y1 y2 y3) 1) (subD (nth x0 x1 x2 x3) (nth y0 y1 y2 y3) 2) (subD (nth x0 x1 x2 x3) (nth y0 y1 y2 y3) 3) ∧
      x + W256 * subC (nth x0 x1 x2 x3) (nth y0 y1 y2 y3) 4 = s + y := by
  have pos : 0 < M64 := by unfold M64; omega
  refine ⟨_, ⟨Nat.mod_lt _ pos, Nat.mod_lt _ pos, Nat.mod_lt _ pos, Nat.mod_lt _ pos, rfl⟩, ?_⟩
  obtain ⟨hx0, hx1, hx2, hx3, rfl⟩ := hx
  obtain ⟨hy0, hy1, hy2, hy3, rfl⟩ := hy
  have a0 := sub_step x0 y0 (subC (nth x0 x1 x2 x3) (nth y0 y1 y2 y3) 0) hx0 hy0 (subC_le _)
  have a1 := sub_step x1 y1 (subC (nth x0 x1 x2 x3) (nth y0 y1 y2 y3) 1) hx1 hy1 (subC_le _)
  have a2 := sub_step x2 y2 (subC (nth x0 x1 x2 x3) (nth y0 y1 y2 y3) 2) hx2 hy2 (subC_le _)
  have a3 := sub_step x3 y3 (subC (nth x0 x1 x2 x3) (nth y0 y1 y2 y3) 3) hx3 hy3 (subC_le _)
  have z : subC (nth x0 x1 x2 x3) (nth y0 y1 y2 y3) 0 = 0 := rfl
  have d0 : subD (nth x0 x1 x2 x3) (nth y0 y1 y2 y3) 0 = (x0 + M64 - y0 - subC (nth x0 x1 x2 x3) (nth y0 y1 y2 y3) 0) % M64 := rfl
  have d1 : subD (nth x0 x1 x2 x3) (nth y0 y1 y2 y3) 1 = (x1 + M64 - y1 - subC (nth x0 x1 x2 x3) (nth y0 y1 y2 y3) 1) % M64 := rfl
  have d2 : subD (nth x0 x1 x2 x3) (nth y0 y1 y2 y3) 2 = (x2 + M64 - y2 - subC (nth x0 x1 x2 x3) (nth y0 y1 y2 y3) 2) % M64 := rfl
  have d3 : subD (nth x0 x1 x2 x3) (nth y0 y1 y2 y3) 3 = (x3 + M64 - y3 - subC (nth x0 x1 x2 x3) (nth y0 y1 y2 y3) 3) % M64 := rfl
  have c1 : subC (nth x0 x1 x2 x3) (nth y0 y1 y2 y3) 1 = (if x0 < y0 + subC (nth x0 x1 x2 x3) (nth y0 y1 y2 y3) 0 then 1 else 0) := rfl
  have c2 : subC (nth x0 x1 x2 x3) (nth y0 y1 y2 y3) 2 = (if x1 < y1 + subC (nth x0 x1 x2 x3) (nth y0 y1 y2 y3) 1 then 1 else 0) := rfl
  have c3 : subC (nth x0 x1 x2 x3) (nth y0 y1 y2 y3) 3 = (if x2 < y2 + subC (nth x0 x1 x2 x3) (nth y0 y1 y2 y3) 2 then 1 else 0) := rfl
  have c4 : subC (nth x0 x1 x2 x3) (nth y0 y1 y2 y3) 4 = (if x3 < y3 + subC (nth x0 x1 x2 x3) (nth y0 y1 y2 y3) 3 then 1 else 0) := rfl
  rw [← d0, ← c1] at a0
  rw [← d1, ← c2] at a1
  rw [← d2, ← c3] at a2
  rw [← d3, ← c4] at a3
  clear d0 d1 d2 d3 c1 c2 c3 c4
  generalize subC (nth x0 x1 x2 x3) (nth y0 y1 y2 y3) 0 = k0 at *
  generalize subC (nth x0 x1 x2 x3) (nth y0 y1 y2 y3) 1 = k1 at *
  generalize subC (nth x0 x1 x2 x3) (nth y0 y1 y2 y3) 2 = k2 at *
  generalize subC (nth x0 x1 x2 x3) (nth y0 y1 y2 y3) 3 = k3 at *
  generalize subC (nth x0 x1 x2 x3) (nth y0 y1 y2 y3) 4 = k4 at *
  generalize subD (nth x0 x1 x2 x3) (nth y0 y1 y2 y3) 0 = s0 at *
  generalize subD (nth x0 x1 x2 x3) (nth y0 y1 y2 y3) 1 = s1 at *
  generalize subD (nth x0 x1 x2 x3) (nth y0 y1 y2 y3) 2 = s2 at *
  generalize subD (nth x0 x1 x2 x3) (nth y0 y1 y2 y3) 3 = s3 at *
  unfold W256 M64 at *
  omega


/-- The number with all bits turned round. -/
theorem Dig.not {n d0 d1 d2 d3 : Nat} (h : Dig n d0 d1 d2 d3) : Dig (W256 - 1 - n) (M64 - 1 - d0) (M64 - 1 - d1) (M64 - 1 - d2) (M64 - 1 - d3) := by
  obtain ⟨h0, h1, h2, h3, rfl⟩ := h
  unfold W256 M64 at *
  refine ⟨?_, ?_, ?_, ?_, ?_⟩ <;> unfold M64 <;> omega

theorem xor_low (y : Nat) (hy : y < 2 ^ 63) : y ^^^ 2 ^ 63 = 2 ^ 63 * 1 + y := by
  apply Nat.eq_of_testBit_eq
  intro j
  rw [Nat.testBit_xor, Nat.testBit_two_pow, Nat.testBit_two_pow_mul_add 1 hy]
  by_cases h : j < 63
  · rw [if_pos h, decide_eq_false (by omega)]; simp
  · rw [if_neg h, Nat.testBit_lt_two_pow (Nat.lt_of_lt_of_le hy (Nat.pow_le_pow_right (by omega) (by omega)))]
    by_cases e : j = 63
    · subst e; rfl
    · rw [decide_eq_false (by omega)]
      have : Nat.testBit 1 (j - 63) = false := Nat.testBit_lt_two_pow (Nat.one_lt_two_pow (by omega))
      rw [this]; rfl
theorem xor_top (x : Nat) (hx : x < 2 ^ 64) : x ^^^ 2 ^ 63 = (x + 2 ^ 63) % 2 ^ 64 := by
  by_cases h : x < 2 ^ 63
  · rw [xor_low x h, Nat.mod_eq_of_lt (by omega)]; omega
  · have e : x = 2 ^ 63 * 1 + (x - 2 ^ 63) := by omega
    have hy : x - 2 ^ 63 < 2 ^ 63 := by omega
    rw [e, ← xor_low _ hy, Nat.xor_assoc, Nat.xor_self, Nat.xor_zero, xor_low _ hy]
    omega

theorem or_eq_zero (a b : Nat) : a ||| b = 0 ↔ a = 0 ∧ b = 0 := by
  constructor
  · intro h
    have h1 : a ≤ a ||| b := Nat.left_le_or
    have h2 : b ≤ a ||| b := Nat.right_le_or
    omega
  · rintro ⟨rfl, rfl⟩; rfl
theorem small_of {x a0 a1 a2 a3 : Nat} (hx : Dig x a0 a1 a2 a3) : (((a3 ||| a2 ||| a1 : Nat) : Int) == 0) = decide (x < M64) := by
  obtain ⟨h0, h1, h2, h3, rfl⟩ := hx
  rw [Bool.eq_iff_iff]
  simp only [beq_iff_eq, decide_eq_true_eq]
  have e : ((a3 ||| a2 ||| a1 : Nat) : Int) = 0 ↔ a3 ||| a2 ||| a1 = 0 := by omega
  rw [e, or_eq_zero, or_eq_zero]
  unfold M64 at *
  omega
theorem or_lt {a b : Nat} (ha : a < M64) (hb : b < M64) : a ||| b < M64 := Nat.or_lt_two_pow (n := 64) ha hb

/-- With the highest bit turned round. -/
def flip63 (a : Nat) : Nat := (a + M64 / 2) % M64
def flip255 (n : Nat) : Nat := (n + W256 / 2) % W256
theorem Dig.flip {n d0 d1 d2 d3 : Nat} (h : Dig n d0 d1 d2 d3) : Dig (flip255 n) d0 d1 d2 (flip63 d3) := by
  obtain ⟨h0, h1, h2, h3, rfl⟩ := h
  unfold flip255 flip63 W256 M64 at *
  refine ⟨?_, ?_, ?_, ?_, ?_⟩ <;> unfold M64 <;> omega
theorem dig_zero : Dig 0 0 0 0 0 := ⟨by decide, by decide, by decide, by decide, rfl⟩
theorem dig_small {n : Nat} (h : n < M64) : Dig n n 0 0 0 := ⟨h, by decide, by decide, by decide, by simp⟩
theorem dig_all : Dig (W256 - 1) (M64 - 1) (M64 - 1) (M64 - 1) (M64 - 1) := by
  refine ⟨?_, ?_, ?_, ?_, ?_⟩ <;> simp only [W256, M64] <;> omega

end Go.Proofs.YtceagpnonkmfdaaGreat
end
section
set_option maxRecDepth 100000
namespace Go.Proofs.YtceagpnonkmfdaaGreat
open Go.ChangeShapes Go.WideShapes Go.ChangeAt Go.RowKit

/-- The datum of the word with the digits d3, d2, d1, d0. -/
def wordD {H : Type} (d3 d2 d1 d0 : Nat) : DataW H := .agg [.lit (.int .u64 d3), .lit (.int .u64 d2), .lit (.int .u64 d1), .lit (.int .u64 d0)]
theorem wf_of {k : Nat} (h : k < M64) : (Lit.int .u64 (k : Int)).wf = true := by
  unfold M64 at h
  simp [Lit.wf, IntKind.min, IntKind.max, IntKind.signed, IntKind.bits]; omega
theorem cellsWord : Tryz.prog.cellsOf 51 = 4 := by kernel_rfl
theorem open_word {H : Type} {enc : TypeId × Value → H} {w : World} {base : Nat} {spare : Nat → Bool} {held : Bool} {r : Reach} {b0 : Nat} {v : Value} {d : DataW H} {p : List MemPlace}
    (hv : Value.okWide Tryz.prog w r b0 51 v) (h : DataW.Trod enc Tryz.prog w base spare held 51 v d p) :
    ∃ n d3 d2 d1 d0 : Nat, v = .agg #[.int .u64 d3, .int .u64 d2, .int .u64 d1, .int .u64 d0] ∧ d = wordD d3 d2 d1 d0 ∧ p = [] ∧ Dig n d0 d1 d2 d3 := by
  obtain ⟨v0, v1, v2, v3, y0, y1, y2, y3, n, rfl, rfl, rfl, h0, h1, h2, h3⟩ := Go.Joins.open_agg4 Tryz.underlying51 (by kernel_rfl) cellsWord hv h
  obtain ⟨n3, e0, rfl, w3⟩ := DataW.trod_int Tryz.underlying41 h0
  obtain ⟨n2, e1, rfl, w2⟩ := DataW.trod_int Tryz.underlying41 h1
  obtain ⟨n1, e2, rfl, w1⟩ := DataW.trod_int Tryz.underlying41 h2
  obtain ⟨n0, e3, rfl, w0⟩ := DataW.trod_int Tryz.underlying41 h3
  obtain ⟨k3, rfl, l3⟩ := u64_of w3
  obtain ⟨k2, rfl, l2⟩ := u64_of w2
  obtain ⟨k1, rfl, l1⟩ := u64_of w1
  obtain ⟨k0, rfl, l0⟩ := u64_of w0
  cases e0; cases e1; cases e2; cases e3
  exact ⟨_, k3, k2, k1, k0, rfl, rfl, rfl, ⟨l0, l1, l2, l3, rfl⟩⟩
theorem shut_word {H : Type} {enc : TypeId × Value → H} {w : World} {base : Nat} {spare : Nat → Bool} {held : Bool} {n d3 d2 d1 d0 : Nat} (h : Dig n d0 d1 d2 d3) :
    DataW.Trod enc Tryz.prog w base spare held 51 (.agg #[.int .u64 d3, .int .u64 d2, .int .u64 d1, .int .u64 d0]) (wordD d3 d2 d1 d0) [] :=
  Go.Joins.shut_agg4 Tryz.underlying51 (by kernel_rfl) cellsWord (y0 := (_, [])) (y1 := (_, [])) (y2 := (_, [])) (y3 := (_, []))
    ⟨1, trod_int_mk 0 Tryz.underlying41 (wf_of h.h3)⟩ ⟨1, trod_int_mk 0 Tryz.underlying41 (wf_of h.h2)⟩
    ⟨1, trod_int_mk 0 Tryz.underlying41 (wf_of h.h1)⟩ ⟨1, trod_int_mk 0 Tryz.underlying41 (wf_of h.h0)⟩
theorem u8_of {n : Int} (h : (Lit.int .u8 n).wf = true) : ∃ k : Nat, n = (k : Int) ∧ k < 256 := by
  have h' : 0 ≤ n ∧ n ≤ 255 := by simpa [Lit.wf, IntKind.min, IntKind.max, IntKind.signed, IntKind.bits] using h
  exact ⟨n.toNat, by omega, by omega⟩
theorem u32_of {n : Int} (h : (Lit.int .u32 n).wf = true) : ∃ k : Nat, n = (k : Int) ∧ k < 2 ^ 32 := by
  have h' : 0 ≤ n ∧ n ≤ 4294967295 := by simpa [Lit.wf, IntKind.min, IntKind.max, IntKind.signed, IntKind.bits] using h
  exact ⟨n.toNat, by omega, by omega⟩
section
variable {H : Type} {enc : TypeId × Value → H} {P : Program} {w : World} {base : Nat} {spare : Nat → Bool} {held : Bool}
theorem trodAll_five {t0 t1 t2 t3 t4 : TypeId} {args : Array Value} {ds : List (DataW H)} {ps : List MemPlace} (h : DataW.TrodAll enc P w base spare held [t0, t1, t2, t3, t4] args.toList ds ps) :
    ∃ v0 v1 v2 v3 v4 d0 d1 d2 d3 d4 p0 p1 p2 p3 p4, args = #[v0, v1, v2, v3, v4] ∧ ds = [d0, d1, d2, d3, d4] ∧ ps = p0 ++ p1 ++ p2 ++ p3 ++ p4 ∧ DataW.Trod enc P w base spare held t0 v0 d0 p0 ∧ DataW.Trod enc P w base spare held t1 v1 d1 p1 ∧ DataW.Trod enc P w base spare held t2 v2 d2 p2 ∧ DataW.Trod enc P w base spare held t3 v3 d3 p3 ∧ DataW.Trod enc P w base spare held t4 v4 d4 p4 := by
  obtain ⟨v0, _, d0, _, p0, _, hargs, rfl, rfl, h0, r0⟩ := trodAll_cons h
  obtain ⟨v1, _, d1, _, p1, _, rfl, rfl, rfl, h1, r1⟩ := trodAll_cons r0
  obtain ⟨v2, _, d2, _, p2, _, rfl, rfl, rfl, h2, r2⟩ := trodAll_cons r1
  obtain ⟨v3, _, d3, _, p3, _, rfl, rfl, rfl, h3, r3⟩ := trodAll_cons r2
  obtain ⟨v4, _, d4, _, p4, _, rfl, rfl, rfl, h4, r4⟩ := trodAll_cons r3
  obtain ⟨rfl, rfl, rfl⟩ := trodAll_nil r4
  exact ⟨v0, v1, v2, v3, v4, d0, d1, d2, d3, d4, p0, p1, p2, p3, p4, by cases args; simp_all, rfl, by simp, h0, h1, h2, h3, h4⟩
theorem trodAll_mk5 {t0 t1 t2 t3 t4 : TypeId} {v0 v1 v2 v3 v4 : Value} {d0 d1 d2 d3 d4 : DataW H} {p0 p1 p2 p3 p4 : List MemPlace} (h0 : DataW.Trod enc P w base spare held t0 v0 d0 p0) (h1 : DataW.Trod enc P w base spare held t1 v1 d1 p1)
    (h2 : DataW.Trod enc P w base spare held t2 v2 d2 p2) (h3 : DataW.Trod enc P w base spare held t3 v3 d3 p3) (h4 : DataW.Trod enc P w base spare held t4 v4 d4 p4) : DataW.TrodAll enc P w base spare held [t0, t1, t2, t3, t4] [v0, v1, v2, v3, v4] [d0, d1, d2, d3, d4] (p0 ++ (p1 ++ (p2 ++ (p3 ++ p4)))) := ⟨p0, p1 ++ (p2 ++ (p3 ++ p4)), h0, trodAll_mk4 h1 h2 h3 h4, rfl⟩
end
end Go.Proofs.YtceagpnonkmfdaaGreat
end
section
namespace Go.Proofs.YtceagpnonkmfdaaGreat
open Go.RowKit

set_option maxHeartbeats 400000 in
theorem split_any (a b c d : Nat) (w : World) :
    Calls Tryz.prog 104 #[.agg #[.int .u64 a, .int .u64 b, .int .u64 c, .int .u64 d]] w fun e w' =>
      e = .returned (.agg #[.int .u64 d, .int .u64 c, .int .u64 b, .int .u64 a]) ∧ Below w.heap.size w w' := by
  go_enter Tryz.func104, Tryz.ntmps104
  go_wp2
  exact bodyPost_ret (v := .agg #[.int .u64 d, .int .u64 c, .int .u64 b, .int .u64 a]) (by simp [results, Tryz.results104, go_sem]) rfl ⟨rfl, ((Below.refl _ _).alloc (Nat.le_refl _) _).alloc (by simp) _⟩

set_option maxHeartbeats 400000 in
theorem join_any (a b c d : Nat) (w : World) :
    Calls Tryz.prog 140 #[.agg #[.int .u64 d, .int .u64 c, .int .u64 b, .int .u64 a]] w fun e w' =>
      e = .returned (.agg #[.int .u64 a, .int .u64 b, .int .u64 c, .int .u64 d]) ∧ Below w.heap.size w w' := by
  go_enter Tryz.func140, Tryz.ntmps140
  go_wp2
  exact bodyPost_ret (v := .agg #[.int .u64 a, .int .u64 b, .int .u64 c, .int .u64 d]) (by simp [results, Tryz.results140, go_sem]) rfl ⟨rfl, ((Below.refl _ _).alloc (Nat.le_refl _) _).alloc (by simp) _⟩

set_option maxHeartbeats 400000 in
theorem placeOf_any (i : Int) (h0 : 0 ≤ i) (h1 : i ≤ 1000) (w : World) :
    Calls Tryz.prog 105 #[.int .i64 i] w fun e w' =>
      e = .returned (.tuple #[.int .i64 (i / 8), .int .i64 (i % 8 * 8)]) ∧ w = w' := by
  go_enter Tryz.func105, Tryz.ntmps105
  go_wp2
  go_ret2
  exact ⟨rfl, rfl⟩

end Go.Proofs.YtceagpnonkmfdaaGreat
end
section
namespace Go.Proofs.YtceagpnonkmfdaaGreat
open Go.RowKit

/-- What holds at the head of a round of 'up'. -/
def UpRel (may : Nat → Prop) (S : Nat → List Nat → World → Prop) (w : World) (k : Nat) (wr : World) : Prop :=
  ∃ ls : List Nat, ls.length = k ∧ k ≤ 4 ∧ S k ls wr ∧ Only may w.heap.size w wr ∧ wr.heap[w.heap.size]? = some (.cells (four 0 0 0 0) 192 (0, 0)) ∧
    wr.heap[w.heap.size + 1]? = some (.cells (four (ls.getD 0 0) (ls.getD 1 0) (ls.getD 2 0) (ls.getD 3 0)) 192 (0, 0))

theorem UpRel.start {may : Nat → Prop} {S : Nat → List Nat → World → Prop} {w : World}
    (hS : ∀ k ls w1 w2, Below w.heap.size w1 w2 → S k ls w1 → S k ls w2) (h0 : S 0 [] w) :
    UpRel may S w 0 ((w.alloc (.cells (four 0 0 0 0) 192 (0, 0))).alloc (.cells (four 0 0 0 0) 192 (0, 0))) := by
  refine ⟨[], rfl, by omega, hS _ _ _ _ (((Below.refl _ _).alloc (Nat.le_refl _) _).alloc (by simp) _) h0, ((Only.refl _ _ _).alloc (Nat.le_refl _) _).alloc (by simp) _, heap_alloc2_old _ _ _, heap_alloc2_new _ _ _⟩

theorem UpRel.step {may : Nat → Prop} {S : Nat → List Nat → World → Prop} {w : World} (hmay : ∀ k, may k → k < w.heap.size)
    (hS : ∀ k ls w1 w2, Below w.heap.size w1 w2 → S k ls w1 → S k ls w2) (k r : Nat) (ls : List Nat) (wr w' : World) (hk : k < 4) (hl : ls.length = k)
    (hO : Only may w.heap.size w wr)
    (hb0 : wr.heap[w.heap.size]? = some (.cells (four 0 0 0 0) 192 (0, 0)))
    (hb1 : wr.heap[w.heap.size + 1]? = some (.cells (four (ls.getD 0 0) (ls.getD 1 0) (ls.getD 2 0) (ls.getD 3 0)) 192 (0, 0)))
    (hS' : S (k+1) (ls ++ [r]) w') (hO' : Only may wr.heap.size wr w') :
    (w'.cell? ⟨w.heap.size + 1, k, none⟩ = some (.int .u64 0) ∧ w'.frozen? ⟨w.heap.size + 1, k, none⟩ = false) ∧
      UpRel may S w (k + 1) (w'.setCell ⟨w.heap.size + 1, k, none⟩ (.int .u64 (r : Int))) := by
  have hz := hO.size
  have l1 := lt_of hb1
  have e0 : w'.heap[w.heap.size]? = _ := (hO'.block _ (by omega) (fun h => by have := hmay _ h; omega)).trans hb0
  have e1 : w'.heap[w.heap.size + 1]? = _ := (hO'.block _ (by omega) (fun h => by have := hmay _ h; omega)).trans hb1
  refine ⟨⟨?_, free_of e1 k⟩, ls ++ [r], by simp [hl], by omega, hS _ _ _ _ ((Below.refl _ _).setCell (by simp) _) hS', ?_, ?_, ?_⟩
  · rw [cell_of e1 k]
    match ls, k, hk with
    | [], 0, _ | [_], 1, _ | [_, _], 2, _ | [_, _, _], 3, _ => simp [four]
  · exact (hO.trans (hO'.mono hz (fun _ _ h => h))).setCell (.inl (by simp)) _
  · rw [heap_setCell_other _ _ _ _ (by simp)]; exact e0
  · rw [heap_setCell_same _ _ _ _ _ _ e1]
    match ls, k, hk with
    | [], 0, _ | [_], 1, _ | [_, _], 2, _ | [_, _, _], 3, _ => simp [four]

end Go.Proofs.YtceagpnonkmfdaaGreat
end
section
namespace Go.Proofs.YtceagpnonkmfdaaGreat
open Go.RowKit

theorem four_at (a b c d k : Nat) (hk : k < 4) : (four a b c d)[k]? = some (.int .u64 (nth a b c d k : Nat)) := by
  match k, hk with
  | 0, _ | 1, _ | 2, _ | 3, _ => rfl


/-- The state of a closure that carries: its digits so far, what it carries, the two numbers' blocks. -/
def CarryS (D C : Nat → Nat) (bx by' bc : Nat) (X Y : Array Value) (k : Nat) (ls : List Nat) (w : World) : Prop :=
  ls = (List.range k).map D ∧ w.heap[bc]? = some (.cells #[.int .u64 (C k : Nat)] 41 (0, 0)) ∧
    w.heap[bx]? = some (.cells X 192 (0, 0)) ∧ w.heap[by']? = some (.cells Y 192 (0, 0))

theorem CarryS.stable {D C : Nat → Nat} {bx by' bc B : Nat} {X Y : Array Value} (h1 : bx < B) (h2 : by' < B) (h3 : bc < B) :
    ∀ k ls w1 w2, Below B w1 w2 → CarryS D C bx by' bc X Y k ls w1 → CarryS D C bx by' bc X Y k ls w2 := by
  rintro k ls w1 w2 hb ⟨a, b, c, d⟩
  exact ⟨a, (hb.block _ h3).trans b, (hb.block _ h1).trans c, (hb.block _ h2).trans d⟩

theorem CarryS.step {D C : Nat → Nat} {bx by' bc : Nat} {X Y : Array Value} (h1 : bx ≠ bc) (h2 : by' ≠ bc) {k : Nat} {ls : List Nat} {w : World}
    (h : CarryS D C bx by' bc X Y k ls w) : CarryS D C bx by' bc X Y (k + 1) (ls ++ [D k]) (w.setCell ⟨bc, 0, none⟩ (.int .u64 (C (k + 1) : Nat))).drew := by
  obtain ⟨a, b, c, d⟩ := h
  refine ⟨by rw [a, List.range_succ]; simp, ?_, ?_, ?_⟩
  · exact one_setCell b
  · exact (heap_setCell_other _ _ _ _ (by simpa using h1)).trans c
  · exact (heap_setCell_other _ _ _ _ (by simpa using h2)).trans d

theorem CarryS.only {bc : Nat} {w : World} (v : Value) : Only (fun k => k = bc) w.heap.size w (w.setCell ⟨bc, 0, none⟩ v).drew :=
  ((Only.refl (fun k => k = bc) _ _).setCell (p := ⟨bc, 0, none⟩) (.inr rfl) _).drew


theorem four_list (D : Nat → Nat) (r0 r1 r2 r3 : Nat) (h : [r0, r1, r2, r3] = (List.range 4).map D) : r0 = D 0 ∧ r1 = D 1 ∧ r2 = D 2 ∧ r3 = D 3 := by
  simpa [List.range, List.range.loop] using h

/-- A call that hands back a number of four limbs and a carry. -/
def RetLC (q : Nat → Nat → Prop) (w : World) (e : Ending) (w' : World) : Prop :=
  ∃ s s0 s1 s2 s3 c : Nat, e = .returned (.tuple #[.agg #[.int .u64 s0, .int .u64 s1, .int .u64 s2, .int .u64 s3], .int .u64 c]) ∧ Dig s s0 s1 s2 s3 ∧ q s c ∧ Below w.heap.size w w'

end Go.Proofs.YtceagpnonkmfdaaGreat
end
section
namespace Go.Proofs.YtceagpnonkmfdaaGreat
open Go.RowKit
attribute [local go_sem ↓] Go.wp_at_zero Go.wp_at_succ

/-- A call that hands back a word. -/
def RetW (q : Nat → Prop) (w : World) (e : Ending) (w' : World) : Prop :=
  ∃ s s3 s2 s1 s0 : Nat, e = .returned (.agg #[.int .u64 s3, .int .u64 s2, .int .u64 s1, .int .u64 s0]) ∧ Dig s s0 s1 s2 s3 ∧ q s ∧ Below w.heap.size w w'

/-- A call that hands back a bool. -/
def RetB (p : Prop) [Decidable p] (w : World) (e : Ending) (w' : World) : Prop := e = .returned (.bool (decide p)) ∧ Below w.heap.size w w'

theorem less_of {s s0 s1 s2 s3 x y c a0 a1 a2 a3 b0 b1 b2 b3 : Nat} (hs : Dig s s0 s1 s2 s3) (hx : Dig x a0 a1 a2 a3) (hy : Dig y b0 b1 b2 b3) (hc : c ≤ 1) (h : x + W256 * c = s + y) :
    decide (x < y) = (!((c : Int) == 0)) := by
  have := hs.lt; have := hx.lt; have := hy.lt
  have hc' : c = 0 ∨ c = 1 := by omega
  rcases hc' with rfl | rfl
  · simp at h ⊢; omega
  · simp at h ⊢; omega

end Go.Proofs.YtceagpnonkmfdaaGreat
end
section
namespace Go.Proofs.YtceagpnonkmfdaaGreat
open Go.RowKit
attribute [local go_sem ↓] Go.wp_at_zero Go.wp_at_succ

theorem and64 (x y : Nat) (hx : x < M64) (hy : y < M64) : Go.bits .and .u64 (x : Int) (y : Int) = ((x &&& y : Nat) : Int) := u64_and_nat x y hx hy
theorem or64 (x y : Nat) (hx : x < M64) (hy : y < M64) : Go.bits .or .u64 (x : Int) (y : Int) = ((x ||| y : Nat) : Int) := u64_or_nat x y hx hy
theorem xor64 (x y : Nat) (hx : x < M64) (hy : y < M64) : Go.bits .xor .u64 (x : Int) (y : Int) = ((x ^^^ y : Nat) : Int) := u64_xor_nat x y hx hy
theorem not64 (x : Nat) (hx : x < M64) : Go.bits .xor .u64 IntKind.u64.max (x : Int) = ((M64 - 1 - x : Nat) : Int) := by
  unfold M64 at *
  show IntKind.u64.wrap ((BitVec.ofInt 64 IntKind.u64.max ^^^ BitVec.ofInt 64 (x : Int)).toNat : Int) = _
  have h1 : BitVec.ofInt 64 IntKind.u64.max = BitVec.allOnes 64 := by decide
  rw [h1, BitVec.allOnes_xor, BitVec.toNat_not, ofInt_u64 x (by omega), IntKind.wrap_u64]
  omega
theorem flip64 (x : Nat) (hx : x < M64) : Go.bits .xor .u64 (x : Int) 9223372036854775808 = ((flip63 x : Nat) : Int) := by
  have h := u64_xor_nat x 9223372036854775808 hx (by omega)
  have e : x ^^^ 9223372036854775808 = flip63 x := by
    have := xor_top x hx
    unfold flip63 M64
    omega
  rw [e] at h
  exact h

end Go.Proofs.YtceagpnonkmfdaaGreat
end
section
namespace Go.Proofs.YtceagpnonkmfdaaGreat
open Go.RowKit

/-- Byte j of a number, the lowest first; of its limbs. -/
def byteOf (x j : Nat) : Nat := x / 256 ^ j % 256
def byteIn (d0 d1 d2 d3 j : Nat) : Nat := nth d0 d1 d2 d3 (j / 8) / 2 ^ (j % 8 * 8) % 256

theorem byteIn_eq {x d0 d1 d2 d3 j : Nat} (h : Dig x d0 d1 d2 d3) (hj : j < 32) : byteIn d0 d1 d2 d3 j = byteOf x j := by
  obtain ⟨h0, h1, h2, h3, rfl⟩ := h
  have e : j = j / 8 * 8 + j % 8 := by omega
  have hq : j / 8 = 0 ∨ j / 8 = 1 ∨ j / 8 = 2 ∨ j / 8 = 3 := by omega
  have hr : j % 8 = 0 ∨ j % 8 = 1 ∨ j % 8 = 2 ∨ j % 8 = 3 ∨ j % 8 = 4 ∨ j % 8 = 5 ∨ j % 8 = 6 ∨ j % 8 = 7 := by omega
  unfold byteIn byteOf
  generalize j / 8 = q at *
  generalize j % 8 = r at *
  subst e
  clear hj
  unfold M64 at *
  rcases hq with rfl | rfl | rfl | rfl <;> rcases hr with rfl | rfl | rfl | rfl | rfl | rfl | rfl | rfl <;> simp only [nth, Nat.reduceMul, Nat.reduceAdd, Nat.reducePow] <;> omega

/-- The array that Bytes fills, behind k rounds. -/
def outCells (f : Nat → Nat) (k : Nat) : Array Value := ((List.range 32).map fun j => Value.int .u8 ((if 31 - j < k then f (31 - j) else 0 : Nat) : Int)).toArray

theorem outCells_at (f : Nat → Nat) (k j : Nat) (hj : j < 32) : (outCells f k)[j]? = some (.int .u8 ((if 31 - j < k then f (31 - j) else 0 : Nat) : Int)) := by
  simp [outCells, hj]
theorem outCells_zero (f : Nat → Nat) : outCells f 0 = #[.int .u8 0, .int .u8 0, .int .u8 0, .int .u8 0, .int .u8 0, .int .u8 0, .int .u8 0, .int .u8 0, .int .u8 0, .int .u8 0, .int .u8 0, .int .u8 0, .int .u8 0, .int .u8 0, .int .u8 0, .int .u8 0, .int .u8 0, .int .u8 0, .int .u8 0, .int .u8 0, .int .u8 0, .int .u8 0, .int .u8 0, .int .u8 0, .int .u8 0, .int .u8 0, .int .u8 0, .int .u8 0, .int .u8 0, .int .u8 0, .int .u8 0, .int .u8 0] := rfl

/-- A number's 32 bytes, the highest first. -/
def bytesOf (x : Nat) : ByteArray := strOfNums ((List.range 32).map fun j => (byteOf x (31 - j) : Int))

/-- What Bytes knows at the head of a round. -/
def BytesRel (w : World) (bl a0 a1 a2 a3 k : Nat) (W : World) : Prop :=
  Below w.heap.size w W ∧ w.heap.size ≤ bl ∧ W.heap[bl]? = some (.cells (four a0 a1 a2 a3) 192 (0, 0)) ∧ W.heap[bl + 1]? = some (.cells (outCells (byteIn a0 a1 a2 a3) k) 194 (0, 0))
theorem outCells_set (f : Nat → Nat) (k : Nat) (hk : k < 32) : (outCells f k).setIfInBounds (31 - k) (.int .u8 (f k : Nat)) = outCells f (k + 1) := by
  apply Array.ext_getElem?
  intro j
  rw [Array.getElem?_setIfInBounds]
  by_cases hj : j < 32
  · rw [outCells_at _ _ _ hj, outCells_at _ _ _ hj]
    by_cases e : 31 - k = j
    · subst e
      have h1 : 31 - (31 - k) = k := by omega
      simp [h1, outCells]; omega
    · rw [if_neg e]
      congr 3
      by_cases h1 : 31 - j < k
      · rw [if_pos h1, if_pos (by omega)]
      · rw [if_neg h1, if_neg (by omega)]
  · have h1 : (outCells f k)[j]? = none := by simp [outCells]; omega
    have h2 : (outCells f (k + 1))[j]? = none := by simp [outCells]; omega
    rw [h1, h2, if_neg (by omega)]

set_option maxRecDepth 100000 in
set_option maxHeartbeats 2000000 in
theorem Bytes_c {x a3 a2 a1 a0 : Nat} (hx : Dig x a0 a1 a2 a3) (w : World) :
    Calls Tryz.prog 69 #[.agg #[.int .u64 a3, .int .u64 a2, .int .u64 a1, .int .u64 a0]] w fun e w' =>
      e = .returned (.string (bytesOf x)) ∧ Below w.heap.size w w' := by
  have HX := Lib.hid hx; clear hx
  go_enter Tryz.func69, Tryz.ntmps69
  go_wp2_with fail
  refine (split_any _ _ _ _ _).mono ?_
  rintro e w1 ⟨rfl, hb1⟩
  go_wp2_with fail
  have H0 := Lib.hid (show BytesRel w w1.heap.size a0 a1 a2 a3 0 _ from
    ⟨((((Below.refl _ _).alloc (Nat.le_refl _) (.cells #[.int .u64 a3, .int .u64 a2, .int .u64 a1, .int .u64 a0] 51)).trans (hb1.mono (by simp))).alloc (by have := hb1.size; simp at this; omega) _).alloc (by have := hb1.size; simp at this; simp; omega) _,
      by have := hb1.size; simp at this; omega, heap_alloc2_old w1 (.cells (four a0 a1 a2 a3) 192) (.cells (outCells (byteIn a0 a1 a2 a3) 0) 194), heap_alloc2_new _ _ _⟩)
  clear hb1
  go_loopw [10] (fun i wr => ∃ k : Nat, i = .int .i64 k ∧ k ≤ 32 ∧ BytesRel w w1.heap.size a0 a1 a2 a3 k wr) (fun i w => 32 - (intOf i).toNat)
  case atStart => exact ⟨0, rfl, by omega, H0.out⟩
  case round =>
    clear H0
    obtain ⟨k, rfl, hk32, hB, hle, hl, ho⟩ := hrel
    by_cases hk : k < 32
    · have c1 := (cell_of hl (k / 8)).trans (four_at _ _ _ _ _ (by omega))
      have c2 := (cell_of ho (31 - k)).trans (outCells_at _ _ _ (by omega))
      have f2 := free_of ho (31 - k)
      have Hl := Lib.hid hl; have Ho := Lib.hid ho; have HB := Lib.hid hB; clear hl ho hB
      go_wp2_with fail
      refine (placeOf_any _ (by omega) (by omega) _).mono ?_
      rintro e w2 ⟨rfl, rfl⟩
      go_wp2_with fail
      go_roundw
      case rel =>
        refine ⟨k + 1, by go_num, by omega, HB.out.setCell (by simp; omega) _, hle, ?_, ?_⟩
        · rw [heap_setCell_other _ _ _ _ (by simp)]; exact Hl.out
        · rw [heap_setCell_same _ _ _ _ _ _ Ho.out, ← outCells_set _ _ hk]
          congr 3
      case measure => simp [intOf]; omega
    · have h32 : k = 32 := by omega
      subst h32
      have hconv := run_convert_bytes_arg wr 142 5 Tryz.underlying142 Tryz.underlying5 (w1.heap.size + 1) 0 32 32 ((List.range 32).map fun j => (byteOf x (31 - j) : Int)) (by simp) (by
        intro i hi
        rw [Nat.zero_add, cell_of ho i, outCells_at _ _ _ hi, if_pos (by omega), byteIn_eq HX.out (by omega)]
        simp [List.getD, hi]) 9 Tryz.underlying9
      change _ = Result.ok (Value.string (bytesOf x)) _ at hconv
      have HB := Lib.hid hB; clear hB hl ho
      go_wp2
      go_ret

      exact ⟨rfl, HB.out⟩

end Go.Proofs.YtceagpnonkmfdaaGreat
end
section
namespace Go.Proofs.YtceagpnonkmfdaaGreat
open Go.RowKit

theorem index_str (s : ByteArray) (i : Int) (j : Nat) (hj : j < s.size) (e : i = (j : Int)) (W : World) : (Instr.index 9 (.string s) (.int .i64 i)).run Tryz.prog W = .ok (.int .u8 ((s[j]'hj).toNat : Int)) W := by
  subst e
  rw [run_index_string W _ _ _ _ Tryz.underlying9, dif_pos ⟨by omega, by omega⟩]
  simp

/-- Byte j of a text (0 past its end); the number of its last k bytes. -/
def byteAt (s : ByteArray) (j : Nat) : Nat := if h : j < s.size then (s[j]'h).toNat else 0
theorem byteAt_lt (s : ByteArray) (j : Nat) : byteAt s j < 256 := by
  unfold byteAt; split
  · exact UInt8.toNat_lt _
  · omega

theorem bytesOf_size (x : Nat) : (bytesOf x).size = 32 := by unfold bytesOf; rw [strOfNums_size]; simp

theorem byteAt_bytes (x j : Nat) (hj : j < 32) : byteAt (bytesOf x) j = byteOf x (31 - j) := by
  have hb : byteOf x (31 - j) < 256 := Nat.mod_lt _ (by decide)
  have hs : j < (bytesOf x).size := by rw [bytesOf_size]; exact hj
  unfold byteAt
  rw [dif_pos hs]
  have : (bytesOf x)[j]'hs = UInt8.ofNat (byteOf x (31 - j)) := by
    simp [bytesOf, strOfNums, ByteArray.getElem_eq_getElem_data]
  rw [this, UInt8.toNat_ofNat_of_lt' hb]
def tail256 (x : Nat) : Nat → List UInt8
  | 0 => []
  | n + 1 => UInt8.ofNat (byteOf x n) :: tail256 x n
theorem tail256_length (x n : Nat) : (tail256 x n).length = n := by
  induction n with
  | zero => rfl
  | succ n ih => simp [tail256, ih]
theorem bytesOf_list (x : Nat) : (bytesOf x).toList = tail256 x 32 := by
  rw [ByteArray.toList_eq]
  simp [bytesOf, strOfNums, tail256, List.range_succ]

/-- An index of a text by an int. -/
theorem index_i64 (s : ByteArray) (i : Int) (j : Nat) (hj : j < s.size) (e : i = (j : Int)) (W : World) : (Instr.index 9 (.string s) (.int .i64 i)).run Tryz.prog W = .ok (.int .u8 (byteAt s j : Int)) W := by
  rw [index_str s i j hj e]
  unfold byteAt
  rw [dif_pos hj]
theorem of_step {v d0 d1 d2 d3 k b : Nat} (hD : Dig v d0 d1 d2 d3) (hv : v < 256 ^ k) (hk : k < 32) (hb : b < 256) :
    nth d0 d1 d2 d3 (k / 8) < 2 ^ (k % 8 * 8) ∧ b * 2 ^ (k % 8 * 8) < M64 ∧ v + b * 256 ^ k < 256 ^ (k + 1) ∧
      ∃ e0 e1 e2 e3, Dig (v + b * 256 ^ k) e0 e1 e2 e3 ∧ (four d0 d1 d2 d3).setIfInBounds (k / 8) (.int .u64 ((nth d0 d1 d2 d3 (k / 8) + b * 2 ^ (k % 8 * 8) : Nat) : Int)) = four e0 e1 e2 e3 := by
  obtain ⟨h0, h1, h2, h3, rfl⟩ := hD
  have e : k = k / 8 * 8 + k % 8 := by omega
  have hq : k / 8 = 0 ∨ k / 8 = 1 ∨ k / 8 = 2 ∨ k / 8 = 3 := by omega
  have hr : k % 8 = 0 ∨ k % 8 = 1 ∨ k % 8 = 2 ∨ k % 8 = 3 ∨ k % 8 = 4 ∨ k % 8 = 5 ∨ k % 8 = 6 ∨ k % 8 = 7 := by omega
  generalize k / 8 = q at *
  generalize k % 8 = r at *
  subst e
  clear hk
  unfold M64 at *
  refine ⟨?_, ?_, ?_, ?_⟩
  · rcases hq with rfl | rfl | rfl | rfl <;> rcases hr with rfl | rfl | rfl | rfl | rfl | rfl | rfl | rfl <;> simp only [nth, Nat.reduceMul, Nat.reduceAdd, Nat.reducePow] at * <;> omega
  · rcases hr with rfl | rfl | rfl | rfl | rfl | rfl | rfl | rfl <;> simp only [Nat.reduceMul, Nat.reducePow] at * <;> omega
  · rw [Nat.pow_succ]
    have : b * 256 ^ (q * 8 + r) ≤ 255 * 256 ^ (q * 8 + r) := Nat.mul_le_mul_right _ (by omega)
    omega
  · refine ⟨if q = 0 then d0 + b * 2 ^ (r * 8) else d0, if q = 1 then d1 + b * 2 ^ (r * 8) else d1, if q = 2 then d2 + b * 2 ^ (r * 8) else d2, if q = 3 then d3 + b * 2 ^ (r * 8) else d3, ?_, ?_⟩
    · rcases hq with rfl | rfl | rfl | rfl <;> rcases hr with rfl | rfl | rfl | rfl | rfl | rfl | rfl | rfl <;> simp only [Nat.reduceMul, Nat.reduceAdd, Nat.reducePow, Nat.reduceEqDiff, ↓reduceIte, Nat.succ_ne_self, Nat.zero_ne_one] at * <;> (refine ⟨?_, ?_, ?_, ?_, ?_⟩ <;> unfold M64 <;> omega)
    · rcases hq with rfl | rfl | rfl | rfl <;> simp [four, nth]

end Go.Proofs.YtceagpnonkmfdaaGreat
end
section
namespace Go.Proofs.YtceagpnonkmfdaaGreat
open Go.RowKit

/-- x times y, and m, and n: its high and its low limb. -/
def fuseH (x y m n : Nat) : Nat := (x * y + m + n) / M64
def fuseL (x y m n : Nat) : Nat := (x * y + m + n) % M64

theorem mul_le64 {x y : Nat} (hx : x < M64) (hy : y < M64) : x * y ≤ (M64 - 1) * (M64 - 1) := Nat.mul_le_mul (by omega) (by omega)

theorem fuse_arith {p m n : Nat} (hp : p ≤ (M64 - 1) * (M64 - 1)) (hm : m < M64) (hn : n < M64) :
    ((p % M64 + m) % M64 + n) % M64 = (p + m + n) % M64 ∧
    p / M64 + (p % M64 + m) / M64 < M64 ∧ p / M64 + (p % M64 + m) / M64 + ((p % M64 + m) % M64 + n) / M64 < M64 ∧
    p / M64 + (p % M64 + m) / M64 + ((p % M64 + m) % M64 + n) / M64 = (p + m + n) / M64 := by
  unfold M64 at *
  refine ⟨?_, ?_, ?_, ?_⟩ <;> omega

theorem fuseH_lt {x y m n : Nat} (hx : x < M64) (hy : y < M64) (hm : m < M64) (hn : n < M64) : fuseH x y m n < M64 := by
  have h := fuse_arith (mul_le64 hx hy) hm hn
  unfold fuseH
  omega

/-- Limb i of a, lifted by so many limbs: 0 past both ends. -/
def lifted (x : Nat → Nat) (l i : Nat) : Nat := if i < l then 0 else x (i - l)
/-- What is carried into limb k when x, lifted by l, times d is added to s; and limb k. -/
def rowC (x s : Nat → Nat) (d l : Nat) : Nat → Nat
  | 0 => 0
  | k + 1 => fuseH (lifted x l k) d (s k) (rowC x s d l k)
def rowD (x s : Nat → Nat) (d l k : Nat) : Nat := fuseL (lifted x l k) d (s k) (rowC x s d l k)

theorem lifted_lt {x : Nat → Nat} (hx : ∀ k, x k < M64) (l i : Nat) : lifted x l i < M64 := by
  unfold lifted; split
  · unfold M64; omega
  · exact hx _
theorem rowC_lt {x s : Nat → Nat} {d : Nat} (hx : ∀ k, x k < M64) (hs : ∀ k, s k < M64) (hd : d < M64) (l k : Nat) : rowC x s d l k < M64 := by
  cases k with
  | zero => show 0 < M64; unfold M64; omega
  | succ k => exact fuseH_lt (lifted_lt hx _ _) hd (hs _) (rowC_lt hx hs hd l k)
theorem row_step (x s : Nat → Nat) (d l k : Nat) : lifted x l k * d + s k + rowC x s d l k = rowD x s d l k + M64 * rowC x s d l (k + 1) := by
  show _ = fuseL _ _ _ _ + M64 * fuseH _ _ _ _
  unfold fuseL fuseH
  exact (Nat.mod_add_div _ _).symm
theorem rowD_lt (x s : Nat → Nat) (d l k : Nat) : rowD x s d l k < M64 := Nat.mod_lt _ (by unfold M64; omega)

/-- The number of the first four limbs of x, lifted by l. -/
theorem row_digits {s a s0 s1 s2 s3 a0 a1 a2 a3 d l : Nat} (hs : Dig s s0 s1 s2 s3) (ha : Dig a a0 a1 a2 a3) (hl : l < 4) :
    ∃ r q, Dig r (rowD (nth a0 a1 a2 a3) (nth s0 s1 s2 s3) d l 0) (rowD (nth a0 a1 a2 a3) (nth s0 s1 s2 s3) d l 1) (rowD (nth a0 a1 a2 a3) (nth s0 s1 s2 s3) d l 2) (rowD (nth a0 a1 a2 a3) (nth s0 s1 s2 s3) d l 3) ∧
      s + a * d * M64 ^ l = r + W256 * q ∧ (l = 0 → q = rowC (nth a0 a1 a2 a3) (nth s0 s1 s2 s3) d l 4) := by
  have e0 := row_step (nth a0 a1 a2 a3) (nth s0 s1 s2 s3) d l 0
  have e1 := row_step (nth a0 a1 a2 a3) (nth s0 s1 s2 s3) d l 1
  have e2 := row_step (nth a0 a1 a2 a3) (nth s0 s1 s2 s3) d l 2
  have e3 := row_step (nth a0 a1 a2 a3) (nth s0 s1 s2 s3) d l 3
  have z : rowC (nth a0 a1 a2 a3) (nth s0 s1 s2 s3) d l 0 = 0 := rfl
  refine ⟨_, rowC (nth a0 a1 a2 a3) (nth s0 s1 s2 s3) d l 4 + (a1 * d * (if l = 3 then 1 else 0) + a2 * d * (if l = 3 then M64 else if l = 2 then 1 else 0) + a3 * d * (if l = 3 then M64 * M64 else if l = 2 then M64 else if l = 1 then 1 else 0)),
    ⟨rowD_lt _ _ _ _ _, rowD_lt _ _ _ _ _, rowD_lt _ _ _ _ _, rowD_lt _ _ _ _ _, rfl⟩, ?_, ?_⟩
  · obtain ⟨_, _, _, _, rfl⟩ := hs
    obtain ⟨_, _, _, _, rfl⟩ := ha
    generalize rowC (nth a0 a1 a2 a3) (nth s0 s1 s2 s3) d l 0 = k0 at *
    generalize rowC (nth a0 a1 a2 a3) (nth s0 s1 s2 s3) d l 1 = k1 at *
    generalize rowC (nth a0 a1 a2 a3) (nth s0 s1 s2 s3) d l 2 = k2 at *
    generalize rowC (nth a0 a1 a2 a3) (nth s0 s1 s2 s3) d l 3 = k3 at *
    generalize rowC (nth a0 a1 a2 a3) (nth s0 s1 s2 s3) d l 4 = k4 at *
    generalize rowD (nth a0 a1 a2 a3) (nth s0 s1 s2 s3) d l 0 = r0 at *
    generalize rowD (nth a0 a1 a2 a3) (nth s0 s1 s2 s3) d l 1 = r1 at *
    generalize rowD (nth a0 a1 a2 a3) (nth s0 s1 s2 s3) d l 2 = r2 at *
    generalize rowD (nth a0 a1 a2 a3) (nth s0 s1 s2 s3) d l 3 = r3 at *
    have hl' : l = 0 ∨ l = 1 ∨ l = 2 ∨ l = 3 := by omega
    have hd0 : (a0 + M64 * (a1 + M64 * (a2 + M64 * a3))) * d = a0 * d + M64 * (a1 * d + M64 * (a2 * d + M64 * (a3 * d))) := by
      simp only [Nat.add_mul, Nat.mul_assoc]
    rw [hd0]
    generalize hb0 : a0 * d = p0 at *
    generalize hb1 : a1 * d = p1 at *
    generalize hb2 : a2 * d = p2 at *
    generalize hb3 : a3 * d = p3 at *
    rcases hl' with rfl | rfl | rfl | rfl <;> simp [lifted, nth, hb0, hb1, hb2, hb3] at e0 e1 e2 e3 ⊢ <;> unfold W256 M64 at * <;> omega
  · rintro rfl; simp
theorem or_add (x b i : Nat) (hx : x < 2 ^ i) : x ||| b * 2 ^ i = x + b * 2 ^ i := by
  have h := Nat.two_pow_add_eq_or_of_lt hx b
  rw [Nat.or_comm, Nat.mul_comm b, ← h]; omega

end Go.Proofs.YtceagpnonkmfdaaGreat
end
section
namespace Go.Proofs.YtceagpnonkmfdaaGreat
open Go.RowKit
attribute [local go_sem ↓] Go.wp_at_zero Go.wp_at_succ

theorem wrap_nat (x : Nat) (hx : x < M64) : IntKind.u64.wrap (x : Int) = (x : Int) := by
  rw [IntKind.wrap_u64]; unfold M64 at hx; omega

end Go.Proofs.YtceagpnonkmfdaaGreat
end
section
namespace Go.Proofs.YtceagpnonkmfdaaGreat
open Go.RowKit

set_option maxRecDepth 100000 in
set_option maxHeartbeats 2000000 in
theorem Of_long (s : ByteArray) (hs : 32 < s.size) (w : World) :
    Calls Tryz.prog 112 #[.string s] w fun e w' =>
      e = .returned (.tuple #[.agg #[.int .u64 0, .int .u64 0, .int .u64 0, .int .u64 0], .bool false]) ∧ Below w.heap.size w w' := by
  have hs' : (32 : Int) < (s.size : Int) := by omega
  go_enter Tryz.func112, Tryz.ntmps112
  go_wp2
  exact bodyPost_ret (results_cell_slot Tryz.results112 _ _ _ _ _ _ _ _ rfl rfl (heap_alloc_new _ _) Tryz.underlying51 rfl (by kernel_rfl)) rfl ⟨rfl, (Below.refl _ _).alloc (Nat.le_refl _) _⟩

def lastOf (s : ByteArray) : Nat → Nat
  | 0 => 0
  | k + 1 => lastOf s k + byteAt s (s.size - 1 - k) * 256 ^ k
/-- What Of knows at the head of a round. -/
def OfRel (w : World) (s : ByteArray) (k : Nat) (W : World) : Prop :=
  ∃ d0 d1 d2 d3, Dig (lastOf s k) d0 d1 d2 d3 ∧ lastOf s k < 256 ^ k ∧ Fr w w.heap.size (w.heap.size + 1) [(w.heap.size, #[.int .u64 0, .int .u64 0, .int .u64 0, .int .u64 0], 51)] W ∧ W.heap[w.heap.size + 1]? = some (.cells (four d0 d1 d2 d3) 192 (0, 0))

/-- A call that hands back a word and a bool. -/
def RetWB (q : Nat → Prop) (b : Bool) (w : World) (e : Ending) (w' : World) : Prop :=
  ∃ s s3 s2 s1 s0 : Nat, e = .returned (.tuple #[.agg #[.int .u64 s3, .int .u64 s2, .int .u64 s1, .int .u64 s0], .bool b]) ∧ Dig s s0 s1 s2 s3 ∧ q s ∧ Below w.heap.size w w'

set_option maxRecDepth 100000 in
set_option maxHeartbeats 2000000 in
theorem Of_short (s : ByteArray) (hs : s.size ≤ 32) (w : World) :
    Calls Tryz.prog 112 #[.string s] w (RetWB (fun v => v = lastOf s s.size) true w) := by
  have hs' : ¬ (32 : Int) < (s.size : Int) := by omega
  have H := Fr.one w #[.int .u64 0, .int .u64 0, .int .u64 0, .int .u64 0] 51
  have H0 := Lib.hid (show OfRel w s 0 _ from ⟨0, 0, 0, 0, ⟨by decide, by decide, by decide, by decide, rfl⟩, by simp [lastOf], H.alloc (.cells (four 0 0 0 0) 192), by rw [← alloc_size w (.cells #[.int .u64 0, .int .u64 0, .int .u64 0, .int .u64 0] 51)]; exact heap_alloc_new _ _⟩)
  clear H
  go_enter Tryz.func112, Tryz.ntmps112
  go_wp2_with fail
  go_loopw [14] (fun i wr => ∃ k : Nat, i = .int .i64 k ∧ k ≤ s.size ∧ OfRel w s k wr) (fun i w => s.size - (intOf i).toNat)
  case atStart => exact ⟨0, rfl, by omega, H0.out⟩
  case round =>
    clear H0
    obtain ⟨k, rfl, hk, d0, d1, d2, d3, hD, hv, hF, hl⟩ := hrel
    by_cases hk : k < s.size
    · have g1 : (0 : Int) ≤ (s.size : Int) - 1 - (k : Int) := by omega
      have g2 : (s.size : Int) - 1 - (k : Int) < (s.size : Int) := by omega
      have g3 : ((s.size : Int) - 1 - (k : Int)).toNat = s.size - 1 - k := by omega
      have g4 : s.size - 1 - k < s.size := by omega
      have gi := index_str s ((s.size : Int) - 1 - (k : Int)) (s.size - 1 - k) g4 (by omega)
      have hbv : (s[s.size - 1 - k]'g4).toNat = byteAt s (s.size - 1 - k) := by unfold byteAt; rw [dif_pos g4]
      rw [hbv] at gi
      clear hbv
      have hb := byteAt_lt s (s.size - 1 - k)
      have HL := Lib.hid (show lastOf s (k + 1) = lastOf s k + byteAt s (s.size - 1 - k) * 256 ^ k from rfl)
      generalize byteAt s (s.size - 1 - k) = b at *
      obtain ⟨p1, p2, p3, e0, e1, e2, e3, p4, p5⟩ := of_step hD hv (by omega) hb
      have g5 : (0 : Int) ≤ (k : Int) / 8 := by omega
      have g6 : (k : Int) / 8 < 4 := by omega
      have c1 := (cell_of hl (k / 8)).trans (four_at _ _ _ _ _ (by omega))
      have f1 := free_of hl (k / 8)
      have hdm : nth d0 d1 d2 d3 (k / 8) < M64 := hD.nth _
      have ho : Go.bits .or .u64 (nth d0 d1 d2 d3 (k / 8) : Int) (IntKind.u64.wrap ((b : Int) * 2 ^ (k % 8 * 8))) = ((nth d0 d1 d2 d3 (k / 8) + b * 2 ^ (k % 8 * 8) : Nat) : Int) := by
        have e1 : ((b : Int) * 2 ^ (k % 8 * 8)) = ((b * 2 ^ (k % 8 * 8) : Nat) : Int) := by simp
        rw [e1, wrap_nat _ p2, or64 _ _ hdm p2, or_add _ _ _ p1]
      have HP := Lib.hid p5; have HV := Lib.hid p3; have HD := Lib.hid p4; have Hl := Lib.hid hl; have HF := Lib.hid hF
      clear p1 p2 p3 p4 p5 hl hF hdm hv hD
      generalize nth d0 d1 d2 d3 (k / 8) + b * 2 ^ (k % 8 * 8) = z at *
      generalize nth d0 d1 d2 d3 (k / 8) = d at *
      go_wp2_with fail
      refine (placeOf_any _ (by omega) (by omega) _).mono ?_
      rintro e w2 ⟨rfl, rfl⟩
      go_wp2_with fail
      go_region
      go_wp2_with fail
      go_roundw
      case rel =>
        refine ⟨k + 1, by go_num, by omega, e0, e1, e2, e3, by rw [HL.out]; exact HD.out, by rw [HL.out]; exact HV.out, (HF.out.set (by simp) _).drew, ?_⟩
        exact (heap_setCell_same _ _ _ _ _ _ Hl.out).trans (by rw [HP.out])
      case measure => simp [intOf]; omega
    · have h32 : k = s.size := by omega
      subst h32
      obtain ⟨⟨c0, c1, c2, c3⟩, _⟩ := cells4 hl
      have k0 := hF.know (w.heap.size, #[.int .u64 0, .int .u64 0, .int .u64 0, .int .u64 0], 51) (by simp)
      have HF := Lib.hid hF; have HD := Lib.hid hD
      clear hl hF hD hv k0
      go_wp2_with fail
      refine (join_any _ _ _ _ _).mono ?_
      rintro e w4 ⟨rfl, hb4⟩
      have F := HF.out.call hb4
      have k0 := F.know (w.heap.size, #[.int .u64 0, .int .u64 0, .int .u64 0, .int .u64 0], 51) (by simp)
      obtain ⟨⟨q0, q1, q2, q3⟩, f0, f1, f2, f3⟩ := cells4 k0.2
      have K0 := Lib.hid k0; clear k0 hb4
      go_wp2_with fail
      exact bodyPost_ret (results_cell_slot Tryz.results112 _ _ _ _ _ _ _ _ rfl rfl (heap_set4 K0.out.2 _ _ _ _) Tryz.underlying51 rfl (by kernel_rfl)) rfl
        ⟨_, _, _, _, _, rfl, HD.out, rfl, below_set4 F.below (by omega) _ _ _ _⟩

end Go.Proofs.YtceagpnonkmfdaaGreat
end
section
namespace Go.Proofs.YtceagpnonkmfdaaGreat
open Go.RowKit
attribute [local go_sem ↓] Go.wp_at_zero Go.wp_at_succ

theorem lifted_in (a0 a1 a2 a3 l k : Nat) (h : l ≤ k) : lifted (nth a0 a1 a2 a3) l k = nth a0 a1 a2 a3 (k - l) := by
  unfold lifted; rw [if_neg (by omega)]

/-- What the closure of plusRow finds in memory. -/
structure RowS (ba bl bd bs bc a0 a1 a2 a3 l d s0 s1 s2 s3 c : Nat) (w : World) : Prop where
  a : w.heap[ba]? = some (.cells #[.int .u64 a0, .int .u64 a1, .int .u64 a2, .int .u64 a3] 192 (0, 0))
  l : w.heap[bl]? = some (.cells #[.int .i64 l] 3 (0, 0))
  d : w.heap[bd]? = some (.cells #[.int .u64 d] 41 (0, 0))
  s : w.heap[bs]? = some (.cells (four s0 s1 s2 s3) 192 (0, 0))
  c : w.heap[bc]? = some (.cells #[.int .u64 c] 41 (0, 0))

theorem RowS.below {ba bl bd bs bc a0 a1 a2 a3 l d s0 s1 s2 s3 c : Nat} {w w1 : World} (h : RowS ba bl bd bs bc a0 a1 a2 a3 l d s0 s1 s2 s3 c w) (hb : Below w.heap.size w w1) : RowS ba bl bd bs bc a0 a1 a2 a3 l d s0 s1 s2 s3 c w1 :=
  ⟨(hb.block _ (lt_of h.a)).trans h.a, (hb.block _ (lt_of h.l)).trans h.l, (hb.block _ (lt_of h.d)).trans h.d, (hb.block _ (lt_of h.s)).trans h.s, (hb.block _ (lt_of h.c)).trans h.c⟩

theorem RowS.cells {ba bl bd bs bc a0 a1 a2 a3 l d s0 s1 s2 s3 c : Nat} {w : World} (h : RowS ba bl bd bs bc a0 a1 a2 a3 l d s0 s1 s2 s3 c w) {k s : Nat} (hk : k < 4) (hs : nth s0 s1 s2 s3 k = s) :
    (w.cell? ⟨ba, 0, none⟩ = some (.int .u64 a0) ∧ w.cell? ⟨ba, 1, none⟩ = some (.int .u64 a1) ∧ w.cell? ⟨ba, 2, none⟩ = some (.int .u64 a2) ∧ w.cell? ⟨ba, 3, none⟩ = some (.int .u64 a3)) ∧
      w.cell? ⟨bl, 0, none⟩ = some (.int .i64 l) ∧ w.cell? ⟨bd, 0, none⟩ = some (.int .u64 d) ∧ w.cell? ⟨bs, k, none⟩ = some (.int .u64 s) ∧ w.cell? ⟨bc, 0, none⟩ = some (.int .u64 c) ∧ w.frozen? ⟨bc, 0, none⟩ = false :=
  ⟨(cells4 h.a).1, (cell_of h.l 0).trans rfl, (cell_of h.d 0).trans rfl, (cell_of h.s k).trans ((four_at _ _ _ _ _ hk).trans (by rw [hs])), (cell_of h.c 0).trans rfl, free_of h.c 0⟩

end Go.Proofs.YtceagpnonkmfdaaGreat
end
section
namespace Go.Proofs.YtceagpnonkmfdaaGreat
open Go.RowKit
attribute [local go_sem ↓] Go.wp_at_zero Go.wp_at_succ

/-- The number of the first k limbs. -/
def low (y : Nat → Nat) : Nat → Nat
  | 0 => 0
  | k + 1 => low y k + y k * M64 ^ k

theorem low_all {y y0 y1 y2 y3 : Nat} (h : Dig y y0 y1 y2 y3) : low (nth y0 y1 y2 y3) 4 = y := by
  obtain ⟨_, _, _, _, rfl⟩ := h
  simp only [low, nth]
  unfold M64
  omega

theorem low_step {x s r q p k d l : Nat} (h1 : x * l = s + W256 * q) (h2 : s + x * d * M64 ^ k = r + W256 * p) : x * (l + d * M64 ^ k) = r + W256 * (q + p) := by
  rw [Nat.mul_add, h1, Nat.mul_add, ← Nat.mul_assoc]
  omega

/-- What times knows at the head of a round: its two numbers, its result's variable, its sum so far. -/
def TimesS (w : World) (a0 a1 a2 a3 b0 b1 b2 b3 s0 s1 s2 s3 : Nat) (W : World) : Prop :=
  Fr w w.heap.size (w.heap.size + 1 + 1 + 1) [(w.heap.size + 1 + 1, #[.int .u64 0, .int .u64 0, .int .u64 0, .int .u64 0], 192), (w.heap.size + 1, four b0 b1 b2 b3, 192), (w.heap.size, #[.int .u64 a0, .int .u64 a1, .int .u64 a2, .int .u64 a3], 192)] W ∧
    W.heap[w.heap.size + 1 + 1 + 1]? = some (.cells #[.int .u64 s0, .int .u64 s1, .int .u64 s2, .int .u64 s3] 192 (0, 0))

theorem TimesS.cells {w W : World} {a0 a1 a2 a3 b0 b1 b2 b3 s0 s1 s2 s3 k d : Nat} (h : TimesS w a0 a1 a2 a3 b0 b1 b2 b3 s0 s1 s2 s3 W) (hk : k < 4) (hd : nth b0 b1 b2 b3 k = d) :
    (W.cell? ⟨w.heap.size, 0, none⟩ = some (.int .u64 a0) ∧ W.cell? ⟨w.heap.size, 1, none⟩ = some (.int .u64 a1) ∧ W.cell? ⟨w.heap.size, 2, none⟩ = some (.int .u64 a2) ∧ W.cell? ⟨w.heap.size, 3, none⟩ = some (.int .u64 a3)) ∧
    W.cell? ⟨w.heap.size + 1, k, none⟩ = some (.int .u64 d) ∧
    ((W.cell? ⟨w.heap.size + 1 + 1 + 1, 0, none⟩ = some (.int .u64 s0) ∧ W.cell? ⟨w.heap.size + 1 + 1 + 1, 1, none⟩ = some (.int .u64 s1) ∧ W.cell? ⟨w.heap.size + 1 + 1 + 1, 2, none⟩ = some (.int .u64 s2) ∧ W.cell? ⟨w.heap.size + 1 + 1 + 1, 3, none⟩ = some (.int .u64 s3)) ∧
      (W.frozen? ⟨w.heap.size + 1 + 1 + 1, 0, none⟩ = false ∧ W.frozen? ⟨w.heap.size + 1 + 1 + 1, 1, none⟩ = false ∧ W.frozen? ⟨w.heap.size + 1 + 1 + 1, 2, none⟩ = false ∧ W.frozen? ⟨w.heap.size + 1 + 1 + 1, 3, none⟩ = false)) :=
  ⟨(cells4 (h.1.know (w.heap.size, _, 192) (by simp)).2).1, (cell_of (h.1.know (w.heap.size + 1, four b0 b1 b2 b3, 192) (by simp)).2 k).trans ((four_at _ _ _ _ _ hk).trans (by rw [hd])), cells4 h.2⟩

theorem TimesS.call {w W w1 : World} {a0 a1 a2 a3 b0 b1 b2 b3 s0 s1 s2 s3 : Nat} (h : TimesS w a0 a1 a2 a3 b0 b1 b2 b3 s0 s1 s2 s3 W) (hb : Below W.heap.size W w1) : TimesS w a0 a1 a2 a3 b0 b1 b2 b3 s0 s1 s2 s3 w1 :=
  ⟨h.1.call hb, (hb.block _ (lt_of h.2)).trans h.2⟩
theorem TimesS.set {w W : World} {a0 a1 a2 a3 b0 b1 b2 b3 s0 s1 s2 s3 : Nat} (h : TimesS w a0 a1 a2 a3 b0 b1 b2 b3 s0 s1 s2 s3 W) (r0 r1 r2 r3 : Nat) :
    TimesS w a0 a1 a2 a3 b0 b1 b2 b3 r0 r1 r2 r3 ((((W.setCell ⟨w.heap.size + 1 + 1 + 1, 0, none⟩ (.int .u64 r0)).setCell ⟨w.heap.size + 1 + 1 + 1, 1, none⟩ (.int .u64 r1)).setCell ⟨w.heap.size + 1 + 1 + 1, 2, none⟩ (.int .u64 r2)).setCell ⟨w.heap.size + 1 + 1 + 1, 3, none⟩ (.int .u64 r3)) :=
  ⟨h.1.set4 (Nat.le_refl _) _ _ _ _, heap_set4 h.2 _ _ _ _⟩

def TimesRel (w : World) (x a0 a1 a2 a3 b0 b1 b2 b3 k : Nat) (W : World) : Prop :=
  ∃ s s0 s1 s2 s3 q, Dig s s0 s1 s2 s3 ∧ x * low (nth b0 b1 b2 b3) k = s + W256 * q ∧ TimesS w a0 a1 a2 a3 b0 b1 b2 b3 s0 s1 s2 s3 W

/-- A call that hands back limbs. -/
def RetL (q : Nat → Prop) (w : World) (e : Ending) (w' : World) : Prop :=
  ∃ s s0 s1 s2 s3 : Nat, e = .returned (.agg #[.int .u64 s0, .int .u64 s1, .int .u64 s2, .int .u64 s3]) ∧ Dig s s0 s1 s2 s3 ∧ q s ∧ Below w.heap.size w w'

end Go.Proofs.YtceagpnonkmfdaaGreat
end
section
namespace Go.Proofs.YtceagpnonkmfdaaGreat
open Go.RowKit

/-- A call that hands back the word n. -/
def RetD (n : Nat) (w : World) (e : Ending) (w' : World) : Prop :=
  ∃ s3 s2 s1 s0 : Nat, e = .returned (.agg #[.int .u64 s3, .int .u64 s2, .int .u64 s1, .int .u64 s0]) ∧ Dig n s0 s1 s2 s3 ∧ Below w.heap.size w w'

theorem mod_of {s n q : Nat} (hs : s < W256) (h : n = s + W256 * q) : s = n % W256 := by
  rw [h, Nat.add_mul_mod_self_left, Nat.mod_eq_of_lt hs]

theorem Dig.same {n m d0 d1 d2 d3 e0 e1 e2 e3 : Nat} (h : Dig n d0 d1 d2 d3) (k : Dig m e0 e1 e2 e3) (e : n = m) : d0 = e0 ∧ d1 = e1 ∧ d2 = e2 ∧ d3 = e3 := (e ▸ h).inj k
theorem RetW.d {v : Nat} {w : World} {e : Ending} {w' : World} (h : RetW (fun s => s = v) w e w') : RetD v w e w' := by
  obtain ⟨s, s3, s2, s1, s0, rfl, hs, rfl, hb⟩ := h
  exact ⟨_, _, _, _, rfl, hs, hb⟩
theorem eq_words (a0 a1 a2 a3 b0 b1 b2 b3 : Int) (w : World) :
    (binOp .eql 51 (.agg #[.int .u64 a0, .int .u64 a1, .int .u64 a2, .int .u64 a3]) (.agg #[.int .u64 b0, .int .u64 b1, .int .u64 b2, .int .u64 b3])).run Tryz.prog w =
      .ok (.bool (a0 == b0 && (a1 == b1 && (a2 == b2 && a3 == b3)))) w := by
  have u3 := Tryz.underlying41
  have a3' := Tryz.isAgg41
  have z3 := Tryz.sizeOf41
  have hS : Tryz.prog.underlying 51 = some (.struct (Tryz.prog.fieldsOf 51)) := by kernel_rfl
  have hp : Tryz.prog.stoodInHeld 51 = false := by kernel_rfl
  rw [run_eql_struct, show (10000 : Nat) = 9999 + 1 from rfl, run_equalIn_agg w 9999 51 _ _ hS hp]
  simp only [Program.fieldsOf, Tryz.underlying51]
  go_simp
  by_cases h0 : a0 = b0 <;> by_cases h1 : a1 = b1 <;> by_cases h2 : a2 = b2 <;> by_cases h3 : a3 = b3 <;> simp [h0, h1, h2, h3]
theorem eq_word_not {a b a0 a1 a2 a3 b0 b1 b2 b3 : Nat} (ha : Dig a a0 a1 a2 a3) (hb : Dig b b0 b1 b2 b3) (h : a ≠ b) (w : World) :
    (binOp .eql 51 (.agg #[.int .u64 a3, .int .u64 a2, .int .u64 a1, .int .u64 a0]) (.agg #[.int .u64 b3, .int .u64 b2, .int .u64 b1, .int .u64 b0])).run Tryz.prog w = .ok (.bool false) w := by
  rw [eq_words]
  congr 2
  simp only [Bool.and_eq_false_iff, beq_eq_false_iff_ne, ne_eq, Int.natCast_inj]
  by_cases h3 : a3 = b3
  · by_cases h2 : a2 = b2
    · by_cases h1 : a1 = b1
      · by_cases h0 : a0 = b0
        · exact absurd (by rw [ha.eq, hb.eq, h0, h1, h2, h3]) h
        · exact .inr (.inr (.inr h0))
      · exact .inr (.inr (.inl h1))
    · exact .inr (.inl h2)
  · exact .inl h3

end Go.Proofs.YtceagpnonkmfdaaGreat
end
