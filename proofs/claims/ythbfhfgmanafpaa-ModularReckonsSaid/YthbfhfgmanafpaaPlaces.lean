/- The contract of word.places. -/
import Derived.Test.YthbfhfgmanafpaaWordD
import Derived.Test.YthbfhfgmanafpaaWordM

namespace Go.Proofs.Ythbfhfgmanafpaa
open Go.RowKit
attribute [local go_sem ↓] Go.wp_at_zero Go.wp_at_succ

theorem Fr.c5 {w W : World} {B N : Nat} {L : List (Nat × Array Value × TypeId)} (h : Fr w B N L W) {b : Nat} {v0 v1 v2 v3 : Value} {t : TypeId} (hm : (b, #[v0, v1, v2, v3], t) ∈ L) :
    W.cell? ⟨b, 0, none⟩ = some v0 ∧ W.cell? ⟨b, 1, none⟩ = some v1 ∧ W.cell? ⟨b, 2, none⟩ = some v2 ∧ W.cell? ⟨b, 3, none⟩ = some v3 :=
  (cells4 (h.know _ hm).2).1

theorem dig_one {n : Nat} (h : n < M64) : Dig n n 0 0 0 := ⟨h, by decide, by decide, by decide, by simp⟩
theorem low_of {x a3 a2 a1 a0 : Nat} (hx : Dig x a0 a1 a2 a3) (h : x < M64) : x = a0 := by
  obtain ⟨h0, h1, h2, h3, rfl⟩ := hx
  unfold M64 at *
  omega

set_option maxRecDepth 100000 in
set_option maxHeartbeats 1000000 in
theorem places_c {x a3 a2 a1 a0 : Nat} (hx : Dig x a0 a1 a2 a3) (w : World) :
    Calls Try.prog 66 #[.agg #[.int .u64 a3, .int .u64 a2, .int .u64 a1, .int .u64 a0]] w fun e w' =>
      e = .returned (.int .i64 (min x 256 : Nat)) ∧ Below w.heap.size w w' := by
  have hS := Lib.hid (Small_c hx)
  have hlow := Lib.hid (fun h => low_of hx h)
  have H := (Fx.start w).new #[.int .u64 a3, .int .u64 a2, .int .u64 a1, .int .u64 a0] 24
  have H := H.1
  clear hx
  generalize hm : min x 256 = m
  have HM := Lib.hid hm; clear hm
  go_enter Try.func66, Try.ntmps66
  go_wp2_with fail
  refine (hS.out _).mono ?_
  rintro e w1 ⟨rfl, hb1⟩
  replace H := H.call hb1
  clear hb1 hS
  by_cases hs : x < M64
  · rw [decide_eq_true hs]
    have e0 := hlow.out hs
    by_cases hk : a0 ≤ 256
    · have hk' : ¬ (256 : Int) < (a0 : Int) := by omega
      have hw : IntKind.i64.wrap (a0 : Int) = (m : Int) := by
        rw [← HM.out, show (min x 256 : Nat) = a0 by omega, IntKind.wrap_i64]
        omega
      clear hs e0 hk hlow
      go_wp2_with fail
      go_ret
      exact ⟨rfl, H.below⟩
    · have hk' : (256 : Int) < (a0 : Int) := by omega
      have hw : m = 256 := by rw [← HM.out]; omega
      clear hs e0 hk hlow HM
      subst hw
      go_wp2_with fail
      go_ret
      exact ⟨rfl, H.below⟩
  · rw [decide_eq_false hs]
    have hw : m = 256 := by have := HM.out; unfold M64 at hs; omega
    clear hs hlow HM
    subst hw
    go_wp2_with fail
    go_ret
    exact ⟨rfl, H.below⟩

end Go.Proofs.Ythbfhfgmanafpaa
