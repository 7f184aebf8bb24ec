/- Contracts of the reference: Less, Below. -/
import Derived.Test.YthbfhfgmanafpaaRefD
import Derived.Deep.QuietTactic
import Derived.BigQuiet
namespace Go.Proofs.Ythbfhfgmanafpaa
open Go.RowKit Go.Joins
attribute [local go_sem ↓] Go.wp_at_zero Go.wp_at_succ

theorem less_top {x y a0 a1 a2 a3 b0 b1 b2 b3 : Nat} (hx : Dig x a0 a1 a2 a3) (hy : Dig y b0 b1 b2 b3) :
    (a3 ≠ b3 → decide (x < y) = decide (a3 < b3)) ∧ (a3 = b3 → a2 ≠ b2 → decide (x < y) = decide (a2 < b2)) ∧ (a3 = b3 → a2 = b2 → a1 ≠ b1 → decide (x < y) = decide (a1 < b1)) ∧ (a3 = b3 → a2 = b2 → a1 = b1 → decide (x < y) = decide (a0 < b0)) := by
  obtain ⟨h0, h1, h2, h3, rfl⟩ := hx
  obtain ⟨g0, g1, g2, g3, rfl⟩ := hy
  unfold M64 at *
  refine ⟨fun e3 => ?_, fun e3 e2 => ?_, fun e3 e2 e1 => ?_, fun e3 e2 e1 => ?_⟩ <;> rw [decide_eq_decide] <;> omega
theorem int_ne {a b : Nat} (h : a ≠ b) : ((a : Int) == (b : Int)) = false := by simp; omega

set_option maxRecDepth 100000 in
set_option maxHeartbeats 1000000 in
theorem rLess_c {x y a3 a2 a1 a0 b3 b2 b1 b0 : Nat} (hx : Dig x a0 a1 a2 a3) (hy : Dig y b0 b1 b2 b3) (w : World) :
    Calls Try.prog 55 #[.agg #[.int .u64 a3, .int .u64 a2, .int .u64 a1, .int .u64 a0], .agg #[.int .u64 b3, .int .u64 b2, .int .u64 b1, .int .u64 b0]] w fun e w' =>
      e = .returned (.bool (decide (x < y))) ∧ Below w.heap.size w w' := by
  obtain ⟨t3, t2, t1, t0⟩ := less_top hx hy
  clear hx hy
  by_cases h3 : a3 = b3
  · by_cases h2 : a2 = b2
    · by_cases h1 : a1 = b1
      · rw [t0 h3 h2 h1]
        clear t3 t2 t1 t0
        subst h3 h2 h1
        go_enter Try.func55, Try.ntmps55
        go_wp2
        go_ret
        exact ⟨by simp, ((Below.refl _ _).alloc (Nat.le_refl _) _).alloc (by simp) _⟩
      · rw [t1 h3 h2 h1]
        have hn := int_ne h1
        clear t3 t2 t1 t0 h1
        subst h3 h2
        go_enter Try.func55, Try.ntmps55
        go_wp2
        go_ret
        exact ⟨by simp, ((Below.refl _ _).alloc (Nat.le_refl _) _).alloc (by simp) _⟩
    · rw [t2 h3 h2]
      have hn := int_ne h2
      clear t3 t2 t1 t0 h2
      subst h3
      go_enter Try.func55, Try.ntmps55
      go_wp2
      go_ret
      exact ⟨by simp, ((Below.refl _ _).alloc (Nat.le_refl _) _).alloc (by simp) _⟩
  · rw [t3 h3]
    have hn := int_ne h3
    clear t3 t2 t1 t0 h3
    go_enter Try.func55, Try.ntmps55
    go_wp2
    go_ret
    exact ⟨by simp, ((Below.refl _ _).alloc (Nat.le_refl _) _).alloc (by simp) _⟩

end Go.Proofs.Ythbfhfgmanafpaa
