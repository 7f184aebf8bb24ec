/- Contracts of package word by the number that is handed back: Add, Sub, Mul. -/
import Derived.Test.YthbfhfgmanafpaaWordT
namespace Go.Proofs.Ythbfhfgmanafpaa
open Go.RowKit

/-- A call that hands back the word n. -/
def RetD (n : Nat) (w : World) (e : Ending) (w' : World) : Prop :=
  ∃ s3 s2 s1 s0 : Nat, e = .returned (.agg #[.int .u64 s3, .int .u64 s2, .int .u64 s1, .int .u64 s0]) ∧ Dig n s0 s1 s2 s3 ∧ Below w.heap.size w w'

theorem mod_of {s n q : Nat} (hs : s < W256) (h : n = s + W256 * q) : s = n % W256 := by
  rw [h, Nat.add_mul_mod_self_left, Nat.mod_eq_of_lt hs]

theorem Add_d {x y a3 a2 a1 a0 b3 b2 b1 b0 : Nat} (hx : Dig x a0 a1 a2 a3) (hy : Dig y b0 b1 b2 b3) (w : World) :
    Calls Try.prog 24 #[.agg #[.int .u64 a3, .int .u64 a2, .int .u64 a1, .int .u64 a0], .agg #[.int .u64 b3, .int .u64 b2, .int .u64 b1, .int .u64 b0]] w (RetD ((x + y) % W256) w) := by
  refine (Add_c hx hy w).mono ?_
  rintro e w' ⟨s, s3, s2, s1, s0, rfl, hs, ⟨c, hc, hq⟩, hb⟩
  exact ⟨_, _, _, _, rfl, mod_of hs.lt hq ▸ hs, hb⟩
theorem Mul_d {x y a3 a2 a1 a0 b3 b2 b1 b0 : Nat} (hx : Dig x a0 a1 a2 a3) (hy : Dig y b0 b1 b2 b3) (w : World) :
    Calls Try.prog 25 #[.agg #[.int .u64 a3, .int .u64 a2, .int .u64 a1, .int .u64 a0], .agg #[.int .u64 b3, .int .u64 b2, .int .u64 b1, .int .u64 b0]] w (RetD (x * y % W256) w) := by
  refine (Mul_c hx hy w).mono ?_
  rintro e w' ⟨s, s3, s2, s1, s0, rfl, hs, ⟨q, hq⟩, hb⟩
  exact ⟨_, _, _, _, rfl, mod_of hs.lt hq ▸ hs, hb⟩
theorem Sub_d {x y a3 a2 a1 a0 b3 b2 b1 b0 : Nat} (hx : Dig x a0 a1 a2 a3) (hy : Dig y b0 b1 b2 b3) (w : World) :
    Calls Try.prog 31 #[.agg #[.int .u64 a3, .int .u64 a2, .int .u64 a1, .int .u64 a0], .agg #[.int .u64 b3, .int .u64 b2, .int .u64 b1, .int .u64 b0]] w (RetD ((x + W256 - y) % W256) w) := by
  refine (Sub_c hx hy w).mono ?_
  rintro e w' ⟨s, s3, s2, s1, s0, rfl, hs, ⟨c, hc, hq⟩, hb⟩
  have h1 := hs.lt; have h2 := hx.lt; have h3 := hy.lt
  have e1 : s = (x + W256 - y) % W256 := by
    have hc' : c = 0 ∨ c = 1 := by omega
    rcases hc' with rfl | rfl
    · have : x + W256 - y = s + W256 := by omega
      rw [this, Nat.add_mod_right, Nat.mod_eq_of_lt h1]
    · have : x + W256 - y = s := by omega
      rw [this, Nat.mod_eq_of_lt h1]
  exact ⟨_, _, _, _, rfl, e1 ▸ hs, hb⟩

theorem Dig.same {n m d0 d1 d2 d3 e0 e1 e2 e3 : Nat} (h : Dig n d0 d1 d2 d3) (k : Dig m e0 e1 e2 e3) (e : n = m) : d0 = e0 ∧ d1 = e1 ∧ d2 = e2 ∧ d3 = e3 := (e ▸ h).inj k
theorem RetW.d {v : Nat} {w : World} {e : Ending} {w' : World} (h : RetW (fun s => s = v) w e w') : RetD v w e w' := by
  obtain ⟨s, s3, s2, s1, s0, rfl, hs, rfl, hb⟩ := h
  exact ⟨_, _, _, _, rfl, hs, hb⟩
theorem eq_words (a0 a1 a2 a3 b0 b1 b2 b3 : Int) (w : World) :
    (binOp .eql 24 (.agg #[.int .u64 a0, .int .u64 a1, .int .u64 a2, .int .u64 a3]) (.agg #[.int .u64 b0, .int .u64 b1, .int .u64 b2, .int .u64 b3])).run Try.prog w =
      .ok (.bool (a0 == b0 && (a1 == b1 && (a2 == b2 && a3 == b3)))) w := by
  have u3 := Try.underlying22
  have a3' := Try.isAgg22
  have z3 := Try.sizeOf22
  have hS : Try.prog.underlying 24 = some (.struct (Try.prog.fieldsOf 24)) := by kernel_rfl
  have hp : Try.prog.stoodInHeld 24 = false := by kernel_rfl
  rw [run_eql_struct, show (10000 : Nat) = 9999 + 1 from rfl, run_equalIn_agg w 9999 24 _ _ hS hp]
  simp only [Program.fieldsOf, Try.underlying24]
  go_simp
  by_cases h0 : a0 = b0 <;> by_cases h1 : a1 = b1 <;> by_cases h2 : a2 = b2 <;> by_cases h3 : a3 = b3 <;> simp [h0, h1, h2, h3]
theorem eq_word_not {a b a0 a1 a2 a3 b0 b1 b2 b3 : Nat} (ha : Dig a a0 a1 a2 a3) (hb : Dig b b0 b1 b2 b3) (h : a ≠ b) (w : World) :
    (binOp .eql 24 (.agg #[.int .u64 a3, .int .u64 a2, .int .u64 a1, .int .u64 a0]) (.agg #[.int .u64 b3, .int .u64 b2, .int .u64 b1, .int .u64 b0])).run Try.prog w = .ok (.bool false) w := by
  rw [eq_words]
  congr 2
  simp only [Bool.and_eq_false_iff, beq_eq_false_iff_ne, ne_eq, Int.natCast_inj]
  by_cases h3 : a3 = b3
  · by_cases h2 : a2 = b2
    · by_cases h1 : a1 = b1
      · by_cases h0 : a0 = b0
        · exact absurd (by rw [ha.eq, hb.eq, h0, h1, h2, h3]) h
        · exact .inr (.inr (.inr h0))
      · exact .inr (.inr (.inl h1))
    · exact .inr (.inl h2)
  · exact .inl h3

end Go.Proofs.Ythbfhfgmanafpaa
