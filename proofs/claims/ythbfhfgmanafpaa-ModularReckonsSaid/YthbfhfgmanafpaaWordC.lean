/- Contracts of package word's functions on words: Add, Sub, Less. -/
import Derived.Test.YthbfhfgmanafpaaWordPlus
import Derived.Deep.RegionHeld3
import Derived.Deep.DrawnRows
namespace Go.Proofs.Ythbfhfgmanafpaa
open Go.RowKit
attribute [local go_sem ↓] Go.wp_at_zero Go.wp_at_succ

/-- A call that hands back a word. -/
def RetW (q : Nat → Prop) (w : World) (e : Ending) (w' : World) : Prop :=
  ∃ s s3 s2 s1 s0 : Nat, e = .returned (.agg #[.int .u64 s3, .int .u64 s2, .int .u64 s1, .int .u64 s0]) ∧ Dig s s0 s1 s2 s3 ∧ q s ∧ Below w.heap.size w w'

/-- A call that hands back a bool. -/
def RetB (p : Prop) [Decidable p] (w : World) (e : Ending) (w' : World) : Prop := e = .returned (.bool (decide p)) ∧ Below w.heap.size w w'

theorem less_of {s s0 s1 s2 s3 x y c a0 a1 a2 a3 b0 b1 b2 b3 : Nat} (hs : Dig s s0 s1 s2 s3) (hx : Dig x a0 a1 a2 a3) (hy : Dig y b0 b1 b2 b3) (hc : c ≤ 1) (h : x + W256 * c = s + y) :
    decide (x < y) = (!((c : Int) == 0)) := by
  have := hs.lt; have := hx.lt; have := hy.lt
  have hc' : c = 0 ∨ c = 1 := by omega
  rcases hc' with rfl | rfl
  · simp at h ⊢; omega
  · simp at h ⊢; omega

set_option maxRecDepth 100000 in
set_option maxHeartbeats 4000000 in
theorem Add_c {x y a3 a2 a1 a0 b3 b2 b1 b0 : Nat} (hx : Dig x a0 a1 a2 a3) (hy : Dig y b0 b1 b2 b3) (w : World) :
    Calls Try.prog 24 #[.agg #[.int .u64 a3, .int .u64 a2, .int .u64 a1, .int .u64 a0], .agg #[.int .u64 b3, .int .u64 b2, .int .u64 b1, .int .u64 b0]] w
      (RetW (fun s => ∃ c, c ≤ 1 ∧ x + y = s + W256 * c) w) := by
  have HX := Lib.hid hx; have HY := Lib.hid hy; clear hx hy
  go_enter Try.func24, Try.ntmps24
  go_wp2_with fail
  have H1 := (Fr.three w #[.int .u64 a3, .int .u64 a2, .int .u64 a1, .int .u64 a0] #[.int .u64 b3, .int .u64 b2, .int .u64 b1, .int .u64 b0] #[.int .u64 0, .int .u64 0, .int .u64 0, .int .u64 0] 24 24 24).drew
  have HZ := Lib.hid (show (((w.alloc (.cells #[.int .u64 a3, .int .u64 a2, .int .u64 a1, .int .u64 a0] 24)).alloc (.cells #[.int .u64 b3, .int .u64 b2, .int .u64 b1, .int .u64 b0] 24)).alloc (.cells #[.int .u64 0, .int .u64 0, .int .u64 0, .int .u64 0] 24)).heap.size = w.heap.size + 1 + 1 + 1 by simp)
  go_region_held3 (fun w' => (w'.cell? ⟨w.heap.size, 0, none⟩ = some (.int .u64 a3) ∧ w'.cell? ⟨w.heap.size, 1, none⟩ = some (.int .u64 a2) ∧ w'.cell? ⟨w.heap.size, 2, none⟩ = some (.int .u64 a1) ∧ w'.cell? ⟨w.heap.size, 3, none⟩ = some (.int .u64 a0)) ∧
     (w'.cell? ⟨w.heap.size + 1, 0, none⟩ = some (.int .u64 b3) ∧ w'.cell? ⟨w.heap.size + 1, 1, none⟩ = some (.int .u64 b2) ∧ w'.cell? ⟨w.heap.size + 1, 2, none⟩ = some (.int .u64 b1) ∧ w'.cell? ⟨w.heap.size + 1, 3, none⟩ = some (.int .u64 b0)))
    (first
      | with_reducible exact H1.s2
      | with_reducible exact (H1.alloc _).s2
      | with_reducible exact (H1.allocd _).s2
      | with_reducible exact (H1.set4 hN.ge _ _ _ _).s2)
    (first
      | (go_at_call 59; refine (split_any _ _ _ _ _).mono ?_; rintro e w1 ⟨rfl, hb1⟩;
         (first | with_reducible have hN := new4 hb1 H1.size | with_reducible have hN := new4d (w.heap.size + 1 + 1 + 1) hb1 HZ.out (Nat.le_refl _) | with_reducible replace hN := carry4 hb1 hN | skip);
         (first | with_reducible replace H1 := H1.call hb1 | with_reducible replace H1 := H1.callA hb1 | with_reducible replace H1 := H1.callAd hb1); clear hb1)
      | (go_at_call 58; refine (plus_c HX.out HY.out _).mono ?_; rintro e w1 ⟨s, s0, s1, s2, s3, c, rfl, hs, hq, hb1⟩; have Hq := Lib.hid hq; clear hq;
         (first | with_reducible have hN := new4 hb1 H1.size | with_reducible replace hN := carry4 hb1 hN | skip);
         (first | with_reducible replace H1 := H1.call hb1 | with_reducible replace H1 := H1.callA hb1 | with_reducible replace H1 := H1.callAd hb1); clear hb1; try (have hC := hN.cells; obtain ⟨⟨c0, c1, c2, c3⟩, f0, f1, f2, f3⟩ := hC)))
  all_goals
    go_wp2_with fail
    refine (join_any _ _ _ _ _).mono ?_
    rintro e w4 ⟨rfl, hb4⟩
    (first | with_reducible have F := (H1.set4 hN.ge _ _ _ _).call hb4 | with_reducible have F := H1.callA hb4)
    have k := F.know (_, _, _) (List.mem_cons_self)
    have hC := cells4 k.2
    obtain ⟨⟨r0, r1, r2, r3⟩, g0, g1, g2, g3⟩ := hC
    have K := Lib.hid k; clear k hb4
    go_wp2_with fail
    exact bodyPost_ret (results_cell_row Try.results24 _ _ _ _ _ _ _ rfl (heap_set4 K.out.2 _ _ _ _) Try.underlying24 rfl (by kernel_rfl)) rfl
      ⟨s, s3, s2, s1, s0, rfl, hs, ⟨c, Hq.out⟩, below_set4 F.below (by omega) _ _ _ _⟩

set_option maxRecDepth 100000 in
set_option maxHeartbeats 4000000 in
theorem Sub_c {x y a3 a2 a1 a0 b3 b2 b1 b0 : Nat} (hx : Dig x a0 a1 a2 a3) (hy : Dig y b0 b1 b2 b3) (w : World) :
    Calls Try.prog 31 #[.agg #[.int .u64 a3, .int .u64 a2, .int .u64 a1, .int .u64 a0], .agg #[.int .u64 b3, .int .u64 b2, .int .u64 b1, .int .u64 b0]] w
      (RetW (fun s => ∃ c, c ≤ 1 ∧ x + W256 * c = s + y) w) := by
  have HX := Lib.hid hx; have HY := Lib.hid hy; clear hx hy
  go_enter Try.func31, Try.ntmps31
  go_wp2_with fail
  have H1 := (Fr.three w #[.int .u64 a3, .int .u64 a2, .int .u64 a1, .int .u64 a0] #[.int .u64 b3, .int .u64 b2, .int .u64 b1, .int .u64 b0] #[.int .u64 0, .int .u64 0, .int .u64 0, .int .u64 0] 24 24 24).drew
  have HZ := Lib.hid (show (((w.alloc (.cells #[.int .u64 a3, .int .u64 a2, .int .u64 a1, .int .u64 a0] 24)).alloc (.cells #[.int .u64 b3, .int .u64 b2, .int .u64 b1, .int .u64 b0] 24)).alloc (.cells #[.int .u64 0, .int .u64 0, .int .u64 0, .int .u64 0] 24)).heap.size = w.heap.size + 1 + 1 + 1 by simp)
  go_region_held3 (fun w' => (w'.cell? ⟨w.heap.size, 0, none⟩ = some (.int .u64 a3) ∧ w'.cell? ⟨w.heap.size, 1, none⟩ = some (.int .u64 a2) ∧ w'.cell? ⟨w.heap.size, 2, none⟩ = some (.int .u64 a1) ∧ w'.cell? ⟨w.heap.size, 3, none⟩ = some (.int .u64 a0)) ∧
     (w'.cell? ⟨w.heap.size + 1, 0, none⟩ = some (.int .u64 b3) ∧ w'.cell? ⟨w.heap.size + 1, 1, none⟩ = some (.int .u64 b2) ∧ w'.cell? ⟨w.heap.size + 1, 2, none⟩ = some (.int .u64 b1) ∧ w'.cell? ⟨w.heap.size + 1, 3, none⟩ = some (.int .u64 b0)))
    (first
      | with_reducible exact H1.s2
      | with_reducible exact (H1.alloc _).s2
      | with_reducible exact (H1.allocd _).s2
      | with_reducible exact (H1.set4 hN.ge _ _ _ _).s2)
    (first
      | (go_at_call 59; refine (split_any _ _ _ _ _).mono ?_; rintro e w1 ⟨rfl, hb1⟩;
         (first | with_reducible have hN := new4 hb1 H1.size | with_reducible have hN := new4d (w.heap.size + 1 + 1 + 1) hb1 HZ.out (Nat.le_refl _) | with_reducible replace hN := carry4 hb1 hN | skip);
         (first | with_reducible replace H1 := H1.call hb1 | with_reducible replace H1 := H1.callA hb1 | with_reducible replace H1 := H1.callAd hb1); clear hb1)
      | (go_at_call 62; refine (minus_c HX.out HY.out _).mono ?_; rintro e w1 ⟨s, s0, s1, s2, s3, c, rfl, hs, hq, hb1⟩; have Hq := Lib.hid hq; clear hq;
         (first | with_reducible have hN := new4 hb1 H1.size | with_reducible replace hN := carry4 hb1 hN | skip);
         (first | with_reducible replace H1 := H1.call hb1 | with_reducible replace H1 := H1.callA hb1 | with_reducible replace H1 := H1.callAd hb1); clear hb1; try (have hC := hN.cells; obtain ⟨⟨c0, c1, c2, c3⟩, f0, f1, f2, f3⟩ := hC)))
  all_goals
    go_wp2_with fail
    refine (join_any _ _ _ _ _).mono ?_
    rintro e w4 ⟨rfl, hb4⟩
    (first | with_reducible have F := (H1.set4 hN.ge _ _ _ _).call hb4 | with_reducible have F := H1.callA hb4)
    have k := F.know (_, _, _) (List.mem_cons_self)
    have hC := cells4 k.2
    obtain ⟨⟨r0, r1, r2, r3⟩, g0, g1, g2, g3⟩ := hC
    have K := Lib.hid k; clear k hb4
    go_wp2_with fail
    exact bodyPost_ret (results_cell_row Try.results31 _ _ _ _ _ _ _ rfl (heap_set4 K.out.2 _ _ _ _) Try.underlying24 rfl (by kernel_rfl)) rfl
      ⟨s, s3, s2, s1, s0, rfl, hs, ⟨c, Hq.out⟩, below_set4 F.below (by omega) _ _ _ _⟩

set_option maxRecDepth 100000 in
set_option maxHeartbeats 4000000 in
theorem Less_c {x y a3 a2 a1 a0 b3 b2 b1 b0 : Nat} (hx : Dig x a0 a1 a2 a3) (hy : Dig y b0 b1 b2 b3) (w : World) :
    Calls Try.prog 27 #[.agg #[.int .u64 a3, .int .u64 a2, .int .u64 a1, .int .u64 a0], .agg #[.int .u64 b3, .int .u64 b2, .int .u64 b1, .int .u64 b0]] w
      (RetB (x < y) w) := by
  have HX := Lib.hid hx; have HY := Lib.hid hy; clear hx hy
  go_enter Try.func27, Try.ntmps27
  go_wp2_with fail
  have H1 := (Fr.two w #[.int .u64 a3, .int .u64 a2, .int .u64 a1, .int .u64 a0] #[.int .u64 b3, .int .u64 b2, .int .u64 b1, .int .u64 b0] 24 24).drew
  have HZ := Lib.hid (show ((w.alloc (.cells #[.int .u64 a3, .int .u64 a2, .int .u64 a1, .int .u64 a0] 24)).alloc (.cells #[.int .u64 b3, .int .u64 b2, .int .u64 b1, .int .u64 b0] 24)).heap.size = w.heap.size + 1 + 1 by simp)
  go_region_held3 (fun w' => (w'.cell? ⟨w.heap.size, 0, none⟩ = some (.int .u64 a3) ∧ w'.cell? ⟨w.heap.size, 1, none⟩ = some (.int .u64 a2) ∧ w'.cell? ⟨w.heap.size, 2, none⟩ = some (.int .u64 a1) ∧ w'.cell? ⟨w.heap.size, 3, none⟩ = some (.int .u64 a0)) ∧
     (w'.cell? ⟨w.heap.size + 1, 0, none⟩ = some (.int .u64 b3) ∧ w'.cell? ⟨w.heap.size + 1, 1, none⟩ = some (.int .u64 b2) ∧ w'.cell? ⟨w.heap.size + 1, 2, none⟩ = some (.int .u64 b1) ∧ w'.cell? ⟨w.heap.size + 1, 3, none⟩ = some (.int .u64 b0)))
    (first
      | with_reducible exact H1.t2
      | with_reducible exact (H1.alloc _).t2
      | with_reducible exact (H1.allocd _).t2
      | with_reducible exact (H1.set4 hN.ge _ _ _ _).t2)
    (first
      | (go_at_call 59; refine (split_any _ _ _ _ _).mono ?_; rintro e w1 ⟨rfl, hb1⟩;
         (first | with_reducible have hN := new4 hb1 H1.size | with_reducible have hN := new4d (w.heap.size + 1 + 1) hb1 HZ.out (Nat.le_refl _) | with_reducible replace hN := carry4 hb1 hN | skip);
         (first | with_reducible replace H1 := H1.call hb1 | with_reducible replace H1 := H1.callA hb1 | with_reducible replace H1 := H1.callAd hb1); clear hb1)
      | (go_at_call 62; refine (minus_c HX.out HY.out _).mono ?_; rintro e w1 ⟨s, s0, s1, s2, s3, c, rfl, hs, hq, hb1⟩; have Hq := Lib.hid hq; clear hq;
         (first | with_reducible have hN := new4 hb1 H1.size | with_reducible replace hN := carry4 hb1 hN | skip);
         (first | with_reducible replace H1 := H1.call hb1 | with_reducible replace H1 := H1.callA hb1 | with_reducible replace H1 := H1.callAd hb1); clear hb1; try (have hC := hN.cells; obtain ⟨⟨c0, c1, c2, c3⟩, f0, f1, f2, f3⟩ := hC)))
  all_goals
    have hc := Hq.out.1
    have hq2 := Hq.out.2
    have hlt : decide (x < y) = (!((c : Int) == 0)) := less_of hs HX.out HY.out hc hq2
    have HL := Lib.hid hlt; clear hlt hc hq2
    go_wp2_with fail
    go_ret
    refine ⟨by rw [HL.out]; rfl, ?_⟩
    first | exact (H1.set4 hN.ge _ _ _ _).below | exact (H1.alloc _).below

end Go.Proofs.Ythbfhfgmanafpaa
