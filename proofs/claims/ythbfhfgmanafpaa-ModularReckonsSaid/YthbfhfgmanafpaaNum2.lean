/- Plain arithmetic of products: no program. -/
import Derived.Test.YthbfhfgmanafpaaNum
namespace Go.Proofs.Ythbfhfgmanafpaa
open Go.RowKit

/-- x times y, and m, and n: its high and its low limb. -/
def fuseH (x y m n : Nat) : Nat := (x * y + m + n) / M64
def fuseL (x y m n : Nat) : Nat := (x * y + m + n) % M64

theorem mul_le64 {x y : Nat} (hx : x < M64) (hy : y < M64) : x * y ≤ (M64 - 1) * (M64 - 1) := Nat.mul_le_mul (by omega) (by omega)

theorem fuse_arith {p m n : Nat} (hp : p ≤ (M64 - 1) * (M64 - 1)) (hm : m < M64) (hn : n < M64) :
    ((p % M64 + m) % M64 + n) % M64 = (p + m + n) % M64 ∧
    p / M64 + (p % M64 + m) / M64 < M64 ∧ p / M64 + (p % M64 + m) / M64 + ((p % M64 + m) % M64 + n) / M64 < M64 ∧
    p / M64 + (p % M64 + m) / M64 + ((p % M64 + m) % M64 + n) / M64 = (p + m + n) / M64 := by
  unfold M64 at *
  refine ⟨?_, ?_, ?_, ?_⟩ <;> omega

theorem fuseH_lt {x y m n : Nat} (hx : x < M64) (hy : y < M64) (hm : m < M64) (hn : n < M64) : fuseH x y m n < M64 := by
  have h := fuse_arith (mul_le64 hx hy) hm hn
  unfold fuseH
  omega

/-- Limb i of a, lifted by so many limbs: 0 past both ends. -/
def lifted (x : Nat → Nat) (l i : Nat) : Nat := if i < l then 0 else x (i - l)
/-- What is carried into limb k when x, lifted by l, times d is added to s; and limb k. -/
def rowC (x s : Nat → Nat) (d l : Nat) : Nat → Nat
  | 0 => 0
  | k + 1 => fuseH (lifted x l k) d (s k) (rowC x s d l k)
def rowD (x s : Nat → Nat) (d l k : Nat) : Nat := fuseL (lifted x l k) d (s k) (rowC x s d l k)

theorem lifted_lt {x : Nat → Nat} (hx : ∀ k, x k < M64) (l i : Nat) : lifted x l i < M64 := by
  unfold lifted; split
  · unfold M64; omega
  · exact hx _
theorem rowC_lt {x s : Nat → Nat} {d : Nat} (hx : ∀ k, x k < M64) (hs : ∀ k, s k < M64) (hd : d < M64) (l k : Nat) : rowC x s d l k < M64 := by
  cases k with
  | zero => show 0 < M64; unfold M64; omega
  | succ k => exact fuseH_lt (lifted_lt hx _ _) hd (hs _) (rowC_lt hx hs hd l k)
theorem row_step (x s : Nat → Nat) (d l k : Nat) : lifted x l k * d + s k + rowC x s d l k = rowD x s d l k + M64 * rowC x s d l (k + 1) := by
  show _ = fuseL _ _ _ _ + M64 * fuseH _ _ _ _
  unfold fuseL fuseH
  exact (Nat.mod_add_div _ _).symm
theorem rowD_lt (x s : Nat → Nat) (d l k : Nat) : rowD x s d l k < M64 := Nat.mod_lt _ (by unfold M64; omega)

/-- The number of the first four limbs of x, lifted by l. -/
theorem row_digits {s a s0 s1 s2 s3 a0 a1 a2 a3 d l : Nat} (hs : Dig s s0 s1 s2 s3) (ha : Dig a a0 a1 a2 a3) (hl : l < 4) :
    ∃ r q, Dig r (rowD (nth a0 a1 a2 a3) (nth s0 s1 s2 s3) d l 0) (rowD (nth a0 a1 a2 a3) (nth s0 s1 s2 s3) d l 1) (rowD (nth a0 a1 a2 a3) (nth s0 s1 s2 s3) d l 2) (rowD (nth a0 a1 a2 a3) (nth s0 s1 s2 s3) d l 3) ∧
      s + a * d * M64 ^ l = r + W256 * q ∧ (l = 0 → q = rowC (nth a0 a1 a2 a3) (nth s0 s1 s2 s3) d l 4) := by
  have e0 := row_step (nth a0 a1 a2 a3) (nth s0 s1 s2 s3) d l 0
  have e1 := row_step (nth a0 a1 a2 a3) (nth s0 s1 s2 s3) d l 1
  have e2 := row_step (nth a0 a1 a2 a3) (nth s0 s1 s2 s3) d l 2
  have e3 := row_step (nth a0 a1 a2 a3) (nth s0 s1 s2 s3) d l 3
  have z : rowC (nth a0 a1 a2 a3) (nth s0 s1 s2 s3) d l 0 = 0 := rfl
  refine ⟨_, rowC (nth a0 a1 a2 a3) (nth s0 s1 s2 s3) d l 4 + (a1 * d * (if l = 3 then 1 else 0) + a2 * d * (if l = 3 then M64 else if l = 2 then 1 else 0) + a3 * d * (if l = 3 then M64 * M64 else if l = 2 then M64 else if l = 1 then 1 else 0)),
    ⟨rowD_lt _ _ _ _ _, rowD_lt _ _ _ _ _, rowD_lt _ _ _ _ _, rowD_lt _ _ _ _ _, rfl⟩, ?_, ?_⟩
  · obtain ⟨_, _, _, _, rfl⟩ := hs
    obtain ⟨_, _, _, _, rfl⟩ := ha
    generalize rowC (nth a0 a1 a2 a3) (nth s0 s1 s2 s3) d l 0 = k0 at *
    generalize rowC (nth a0 a1 a2 a3) (nth s0 s1 s2 s3) d l 1 = k1 at *
    generalize rowC (nth a0 a1 a2 a3) (nth s0 s1 s2 s3) d l 2 = k2 at *
    generalize rowC (nth a0 a1 a2 a3) (nth s0 s1 s2 s3) d l 3 = k3 at *
    generalize rowC (nth a0 a1 a2 a3) (nth s0 s1 s2 s3) d l 4 = k4 at *
    generalize rowD (nth a0 a1 a2 a3) (nth s0 s1 s2 s3) d l 0 = r0 at *
    generalize rowD (nth a0 a1 a2 a3) (nth s0 s1 s2 s3) d l 1 = r1 at *
    generalize rowD (nth a0 a1 a2 a3) (nth s0 s1 s2 s3) d l 2 = r2 at *
    generalize rowD (nth a0 a1 a2 a3) (nth s0 s1 s2 s3) d l 3 = r3 at *
    have hl' : l = 0 ∨ l = 1 ∨ l = 2 ∨ l = 3 := by omega
    have hd0 : (a0 + M64 * (a1 + M64 * (a2 + M64 * a3))) * d = a0 * d + M64 * (a1 * d + M64 * (a2 * d + M64 * (a3 * d))) := by
      simp only [Nat.add_mul, Nat.mul_assoc]
    rw [hd0]
    generalize hb0 : a0 * d = p0 at *
    generalize hb1 : a1 * d = p1 at *
    generalize hb2 : a2 * d = p2 at *
    generalize hb3 : a3 * d = p3 at *
    rcases hl' with rfl | rfl | rfl | rfl <;> simp [lifted, nth, hb0, hb1, hb2, hb3] at e0 e1 e2 e3 ⊢ <;> unfold W256 M64 at * <;> omega
  · rintro rfl; simp
theorem or_add (x b i : Nat) (hx : x < 2 ^ i) : x ||| b * 2 ^ i = x + b * 2 ^ i := by
  have h := Nat.two_pow_add_eq_or_of_lt hx b
  rw [Nat.or_comm, Nat.mul_comm b, ← h]; omega

end Go.Proofs.Ythbfhfgmanafpaa
