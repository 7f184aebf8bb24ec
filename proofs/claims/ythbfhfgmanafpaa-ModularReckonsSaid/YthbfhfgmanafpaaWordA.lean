/- Plain contracts of package word's leaves: split, join, From, placeOf, at. -/
import Derived.Test.YthbfhfgmanafpaaRows
import Derived.WalkKit
import Derived.WalkSpells
import Derived.WalkLawsBesides
import Derived.Lib.Hide
import Derived.Test.YthbfhfgmanafpaaNum
namespace Go.Proofs.Ythbfhfgmanafpaa
open Go.RowKit

set_option maxHeartbeats 400000 in
theorem split_any (a b c d : Nat) (w : World) :
    Calls Try.prog 59 #[.agg #[.int .u64 a, .int .u64 b, .int .u64 c, .int .u64 d]] w fun e w' =>
      e = .returned (.agg #[.int .u64 d, .int .u64 c, .int .u64 b, .int .u64 a]) ∧ Below w.heap.size w w' := by
  go_enter Try.func59, Try.ntmps59
  go_wp2
  exact bodyPost_ret (v := .agg #[.int .u64 d, .int .u64 c, .int .u64 b, .int .u64 a]) (by simp [results, Try.results59, go_sem]) rfl ⟨rfl, ((Below.refl _ _).alloc (Nat.le_refl _) _).alloc (by simp) _⟩

set_option maxHeartbeats 400000 in
theorem join_any (a b c d : Nat) (w : World) :
    Calls Try.prog 60 #[.agg #[.int .u64 d, .int .u64 c, .int .u64 b, .int .u64 a]] w fun e w' =>
      e = .returned (.agg #[.int .u64 a, .int .u64 b, .int .u64 c, .int .u64 d]) ∧ Below w.heap.size w w' := by
  go_enter Try.func60, Try.ntmps60
  go_wp2
  exact bodyPost_ret (v := .agg #[.int .u64 a, .int .u64 b, .int .u64 c, .int .u64 d]) (by simp [results, Try.results60, go_sem]) rfl ⟨rfl, ((Below.refl _ _).alloc (Nat.le_refl _) _).alloc (by simp) _⟩

set_option maxHeartbeats 400000 in
theorem from_any (d : Nat) (w : World) :
    Calls Try.prog 9 #[.int .u64 d] w fun e w' =>
      e = .returned (.agg #[.int .u64 0, .int .u64 0, .int .u64 0, .int .u64 d]) ∧ Below w.heap.size w w' := by
  go_enter Try.func9, Try.ntmps9
  go_wp2
  exact bodyPost_ret (v := .agg #[.int .u64 0, .int .u64 0, .int .u64 0, .int .u64 d]) (by simp [results, Try.results9, go_sem]) rfl ⟨rfl, ((Below.refl _ _).alloc (Nat.le_refl _) _)⟩

set_option maxHeartbeats 400000 in
theorem placeOf_any (i : Int) (h0 : 0 ≤ i) (h1 : i ≤ 1000) (w : World) :
    Calls Try.prog 64 #[.int .i64 i] w fun e w' =>
      e = .returned (.tuple #[.int .i64 (i / 8), .int .i64 (i % 8 * 8)]) ∧ w = w' := by
  go_enter Try.func64, Try.ntmps64
  go_wp2
  go_ret2
  exact ⟨rfl, rfl⟩

set_option maxHeartbeats 400000 in
theorem at_out (a b c d : Nat) (i : Int) (h : i < 0 ∨ 4 ≤ i) (w : World) :
    Calls Try.prog 85 #[.agg #[.int .u64 d, .int .u64 c, .int .u64 b, .int .u64 a], .int .i64 i] w fun e w' =>
      e = .returned (.int .u64 0) ∧ Below w.heap.size w w' := by
  rcases h with h | h
  all_goals
    go_enter Try.func85, Try.ntmps85
    go_wp2
    go_ret
    exact ⟨rfl, ((Below.refl _ _).alloc (Nat.le_refl _) _)⟩

set_option maxHeartbeats 400000 in
theorem at_in (a b c d : Nat) (i : Nat) (h : i < 4) (w : World) :
    Calls Try.prog 85 #[.agg #[.int .u64 d, .int .u64 c, .int .u64 b, .int .u64 a], .int .i64 i] w fun e w' =>
      e = .returned (.int .u64 (nth d c b a i : Nat)) ∧ Below w.heap.size w w' := by
  match i, h with
  | 0, _ | 1, _ | 2, _ | 3, _ =>
    go_enter Try.func85, Try.ntmps85
    go_wp2
    go_ret
    exact ⟨rfl, ((Below.refl _ _).alloc (Nat.le_refl _) _)⟩

end Go.Proofs.Ythbfhfgmanafpaa
