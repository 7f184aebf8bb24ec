/- Merged: WordC, WordD, WordB, BytesN, Num2, WordM, WordO, WordR, WordT, WordE, La, Lb, Lh, Lt, Li, Lj, Lu, Lk, Lv, Ll, Lm, Lo, Lp, Ln, Lq, Lr, Ls, Lc, Ld, Le, Lf, Lg, Lw, Ly, Lt1, Lt2, Lt3, Lt4, Lt5, Lt6, Va, Vt, Lr1, Vb, Lr2, Lr3, Lr4, Lr5, Lr6, Lr7, Shelf, Vc, Vd, Ve, Vf, Vg, Vh, Vi, Lr8, Lr9, Lr10, Lr11, Vj, Vk, Vl, Vm, Vn, Vp, Vq, Vr, Vo, Vs, RefA, Places, RefB, RefC, Vu, Vv, Vz. -/
import Derived.Test.YtekoaheiapddiaaGreatY07
import Derived.Deep.RegionHeld3
import Derived.Deep.DrawnRows
import Derived.BigQuiet
import Derived.Test.YtekoaheiapddiaaGreatY01
import Derived.Test.YtekoaheiapddiaaGreatRows
import Derived.Lib.SlBytesRow
import Derived.Lib.BufferWrite
import Derived.Maps.AppendAt
import Derived.Lib.SliceRun
import Derived.StillTailTactics
import Derived.Deep.QuietTactic
import Derived.Lib.Builder
import Derived.Lib.AppendStr
import Derived.Lib.UnsafeStr
import Derived.Lib.MakeNoZero
import Derived.Laws.Externs
import Derived.Laws.IdiomCopy
import Derived.Shelf.RegionOpenPlain
import Derived.Lib.BitFns
import Derived.Recover
import Derived.Test.YtekoaheiapddiaaGreatY04
import Derived.Deep.Strs
import Derived.Shelf.Strings.Builder1
import Derived.Shelf.Strings.Builder2
import Derived.Shelf.Small.Bits
import Derived.Shelf.Strings.BuilderF
import Derived.Shelf.Strings.BuilderK
import Derived.Shelf.Strings.Builder2Cap
import Derived.Shelf.Strconv.Itoa0
import Derived.Shelf.LaysM
import Derived.Shelf.Strconv.Clone
import Derived.Shelf.Strings.BuilderCap
import Derived.Ground.Names2Prog
import Derived.Shelf.Slices.Clone
import Derived.Ground.SlgmProg
import Derived.Shelf.SortM.Plain
import Derived.Shelf.SortM.SortNone
import Derived.Test.YtekoaheiapddiaaGreatProg
import Derived.Lib.ConvBytes
import Derived.Lib.SmallJoins
import Derived.RegionTactic
import Derived.Deep.CutRange
section
namespace Go.Proofs.YtekoaheiapddiaaGreat
open Go.RowKit
attribute [local go_sem ↓] Go.wp_at_zero Go.wp_at_succ

/-- A call that hands back a word. -/
def RetW (q : Nat → Prop) (w : World) (e : Ending) (w' : World) : Prop :=
  ∃ s s3 s2 s1 s0 : Nat, e = .returned (.agg #[.int .u64 s3, .int .u64 s2, .int .u64 s1, .int .u64 s0]) ∧ Dig s s0 s1 s2 s3 ∧ q s ∧ Below w.heap.size w w'

/-- A call that hands back a bool. -/
def RetB (p : Prop) [Decidable p] (w : World) (e : Ending) (w' : World) : Prop := e = .returned (.bool (decide p)) ∧ Below w.heap.size w w'

theorem less_of {s s0 s1 s2 s3 x y c a0 a1 a2 a3 b0 b1 b2 b3 : Nat} (hs : Dig s s0 s1 s2 s3) (hx : Dig x a0 a1 a2 a3) (hy : Dig y b0 b1 b2 b3) (hc : c ≤ 1) (h : x + W256 * c = s + y) :
    decide (x < y) = (!((c : Int) == 0)) := by
  have := hs.lt; have := hx.lt; have := hy.lt
  have hc' : c = 0 ∨ c = 1 := by omega
  rcases hc' with rfl | rfl
  · simp at h ⊢; omega
  · simp at h ⊢; omega

set_option maxRecDepth 100000 in
set_option maxHeartbeats 4000000 in
theorem Add_c {x y a3 a2 a1 a0 b3 b2 b1 b0 : Nat} (hx : Dig x a0 a1 a2 a3) (hy : Dig y b0 b1 b2 b3) (w : World) :
    Calls Tryz.prog 44 #[.agg #[.int .u64 a3, .int .u64 a2, .int .u64 a1, .int .u64 a0], .agg #[.int .u64 b3, .int .u64 b2, .int .u64 b1, .int .u64 b0]] w
      (RetW (fun s => ∃ c, c ≤ 1 ∧ x + y = s + W256 * c) w) := by
  have HX := Lib.hid hx; have HY := Lib.hid hy; clear hx hy
  go_enter Tryz.func44, Tryz.ntmps44
  go_wp2_with fail
  have H1 := (Fr.three w #[.int .u64 a3, .int .u64 a2, .int .u64 a1, .int .u64 a0] #[.int .u64 b3, .int .u64 b2, .int .u64 b1, .int .u64 b0] #[.int .u64 0, .int .u64 0, .int .u64 0, .int .u64 0] 61 61 61).drew
  have HZ := Lib.hid (show (((w.alloc (.cells #[.int .u64 a3, .int .u64 a2, .int .u64 a1, .int .u64 a0] 61)).alloc (.cells #[.int .u64 b3, .int .u64 b2, .int .u64 b1, .int .u64 b0] 61)).alloc (.cells #[.int .u64 0, .int .u64 0, .int .u64 0, .int .u64 0] 61)).heap.size = w.heap.size + 1 + 1 + 1 by simp)
  go_region_held3 (fun w' => (w'.cell? ⟨w.heap.size, 0, none⟩ = some (.int .u64 a3) ∧ w'.cell? ⟨w.heap.size, 1, none⟩ = some (.int .u64 a2) ∧ w'.cell? ⟨w.heap.size, 2, none⟩ = some (.int .u64 a1) ∧ w'.cell? ⟨w.heap.size, 3, none⟩ = some (.int .u64 a0)) ∧
     (w'.cell? ⟨w.heap.size + 1, 0, none⟩ = some (.int .u64 b3) ∧ w'.cell? ⟨w.heap.size + 1, 1, none⟩ = some (.int .u64 b2) ∧ w'.cell? ⟨w.heap.size + 1, 2, none⟩ = some (.int .u64 b1) ∧ w'.cell? ⟨w.heap.size + 1, 3, none⟩ = some (.int .u64 b0)))
    (first
      | with_reducible exact H1.s2
      | with_reducible exact (H1.alloc _).s2
      | with_reducible exact (H1.allocd _).s2
      | with_reducible exact (H1.set4 hN.ge _ _ _ _).s2)
    (first
      | (go_at_call 93; refine (split_any _ _ _ _ _).mono ?_; rintro e w1 ⟨rfl, hb1⟩;
         (first | with_reducible have hN := new4 hb1 H1.size | with_reducible have hN := new4d (w.heap.size + 1 + 1 + 1) hb1 HZ.out (Nat.le_refl _) | with_reducible replace hN := carry4 hb1 hN | skip);
         (first | with_reducible replace H1 := H1.call hb1 | with_reducible replace H1 := H1.callA hb1 | with_reducible replace H1 := H1.callAd hb1); clear hb1)
      | (go_at_call 94; refine (plus_c HX.out HY.out _).mono ?_; rintro e w1 ⟨s, s0, s1, s2, s3, c, rfl, hs, hq, hb1⟩; have Hq := Lib.hid hq; clear hq;
         (first | with_reducible have hN := new4 hb1 H1.size | with_reducible replace hN := carry4 hb1 hN | skip);
         (first | with_reducible replace H1 := H1.call hb1 | with_reducible replace H1 := H1.callA hb1 | with_reducible replace H1 := H1.callAd hb1); clear hb1; try (have hC := hN.cells; obtain ⟨⟨c0, c1, c2, c3⟩, f0, f1, f2, f3⟩ := hC)))
  all_goals
    go_wp2_with fail
    refine (join_any _ _ _ _ _).mono ?_
    rintro e w4 ⟨rfl, hb4⟩
    (first | with_reducible have F := (H1.set4 hN.ge _ _ _ _).call hb4 | with_reducible have F := H1.callA hb4)
    have k := F.know (_, _, _) (List.mem_cons_self)
    have hC := cells4 k.2
    obtain ⟨⟨r0, r1, r2, r3⟩, g0, g1, g2, g3⟩ := hC
    have K := Lib.hid k; clear k hb4
    go_wp2_with fail
    exact bodyPost_ret (results_cell_row Tryz.results44 _ _ _ _ _ _ _ rfl (heap_set4 K.out.2 _ _ _ _) Tryz.underlying61 rfl (by kernel_rfl)) rfl
      ⟨s, s3, s2, s1, s0, rfl, hs, ⟨c, Hq.out⟩, below_set4 F.below (by omega) _ _ _ _⟩

set_option maxRecDepth 100000 in
set_option maxHeartbeats 4000000 in
theorem Sub_c {x y a3 a2 a1 a0 b3 b2 b1 b0 : Nat} (hx : Dig x a0 a1 a2 a3) (hy : Dig y b0 b1 b2 b3) (w : World) :
    Calls Tryz.prog 45 #[.agg #[.int .u64 a3, .int .u64 a2, .int .u64 a1, .int .u64 a0], .agg #[.int .u64 b3, .int .u64 b2, .int .u64 b1, .int .u64 b0]] w
      (RetW (fun s => ∃ c, c ≤ 1 ∧ x + W256 * c = s + y) w) := by
  have HX := Lib.hid hx; have HY := Lib.hid hy; clear hx hy
  go_enter Tryz.func45, Tryz.ntmps45
  go_wp2_with fail
  have H1 := (Fr.three w #[.int .u64 a3, .int .u64 a2, .int .u64 a1, .int .u64 a0] #[.int .u64 b3, .int .u64 b2, .int .u64 b1, .int .u64 b0] #[.int .u64 0, .int .u64 0, .int .u64 0, .int .u64 0] 61 61 61).drew
  have HZ := Lib.hid (show (((w.alloc (.cells #[.int .u64 a3, .int .u64 a2, .int .u64 a1, .int .u64 a0] 61)).alloc (.cells #[.int .u64 b3, .int .u64 b2, .int .u64 b1, .int .u64 b0] 61)).alloc (.cells #[.int .u64 0, .int .u64 0, .int .u64 0, .int .u64 0] 61)).heap.size = w.heap.size + 1 + 1 + 1 by simp)
  go_region_held3 (fun w' => (w'.cell? ⟨w.heap.size, 0, none⟩ = some (.int .u64 a3) ∧ w'.cell? ⟨w.heap.size, 1, none⟩ = some (.int .u64 a2) ∧ w'.cell? ⟨w.heap.size, 2, none⟩ = some (.int .u64 a1) ∧ w'.cell? ⟨w.heap.size, 3, none⟩ = some (.int .u64 a0)) ∧
     (w'.cell? ⟨w.heap.size + 1, 0, none⟩ = some (.int .u64 b3) ∧ w'.cell? ⟨w.heap.size + 1, 1, none⟩ = some (.int .u64 b2) ∧ w'.cell? ⟨w.heap.size + 1, 2, none⟩ = some (.int .u64 b1) ∧ w'.cell? ⟨w.heap.size + 1, 3, none⟩ = some (.int .u64 b0)))
    (first
      | with_reducible exact H1.s2
      | with_reducible exact (H1.alloc _).s2
      | with_reducible exact (H1.allocd _).s2
      | with_reducible exact (H1.set4 hN.ge _ _ _ _).s2)
    (first
      | (go_at_call 93; refine (split_any _ _ _ _ _).mono ?_; rintro e w1 ⟨rfl, hb1⟩;
         (first | with_reducible have hN := new4 hb1 H1.size | with_reducible have hN := new4d (w.heap.size + 1 + 1 + 1) hb1 HZ.out (Nat.le_refl _) | with_reducible replace hN := carry4 hb1 hN | skip);
         (first | with_reducible replace H1 := H1.call hb1 | with_reducible replace H1 := H1.callA hb1 | with_reducible replace H1 := H1.callAd hb1); clear hb1)
      | (go_at_call 92; refine (minus_c HX.out HY.out _).mono ?_; rintro e w1 ⟨s, s0, s1, s2, s3, c, rfl, hs, hq, hb1⟩; have Hq := Lib.hid hq; clear hq;
         (first | with_reducible have hN := new4 hb1 H1.size | with_reducible replace hN := carry4 hb1 hN | skip);
         (first | with_reducible replace H1 := H1.call hb1 | with_reducible replace H1 := H1.callA hb1 | with_reducible replace H1 := H1.callAd hb1); clear hb1; try (have hC := hN.cells; obtain ⟨⟨c0, c1, c2, c3⟩, f0, f1, f2, f3⟩ := hC)))
  all_goals
    go_wp2_with fail
    refine (join_any _ _ _ _ _).mono ?_
    rintro e w4 ⟨rfl, hb4⟩
    (first | with_reducible have F := (H1.set4 hN.ge _ _ _ _).call hb4 | with_reducible have F := H1.callA hb4)
    have k := F.know (_, _, _) (List.mem_cons_self)
    have hC := cells4 k.2
    obtain ⟨⟨r0, r1, r2, r3⟩, g0, g1, g2, g3⟩ := hC
    have K := Lib.hid k; clear k hb4
    go_wp2_with fail
    exact bodyPost_ret (results_cell_row Tryz.results45 _ _ _ _ _ _ _ rfl (heap_set4 K.out.2 _ _ _ _) Tryz.underlying61 rfl (by kernel_rfl)) rfl
      ⟨s, s3, s2, s1, s0, rfl, hs, ⟨c, Hq.out⟩, below_set4 F.below (by omega) _ _ _ _⟩

set_option maxRecDepth 100000 in
set_option maxHeartbeats 4000000 in
theorem Less_c {x y a3 a2 a1 a0 b3 b2 b1 b0 : Nat} (hx : Dig x a0 a1 a2 a3) (hy : Dig y b0 b1 b2 b3) (w : World) :
    Calls Tryz.prog 43 #[.agg #[.int .u64 a3, .int .u64 a2, .int .u64 a1, .int .u64 a0], .agg #[.int .u64 b3, .int .u64 b2, .int .u64 b1, .int .u64 b0]] w
      (RetB (x < y) w) := by
  have HX := Lib.hid hx; have HY := Lib.hid hy; clear hx hy
  go_enter Tryz.func43, Tryz.ntmps43
  go_wp2_with fail
  have H1 := (Fr.two w #[.int .u64 a3, .int .u64 a2, .int .u64 a1, .int .u64 a0] #[.int .u64 b3, .int .u64 b2, .int .u64 b1, .int .u64 b0] 61 61).drew
  have HZ := Lib.hid (show ((w.alloc (.cells #[.int .u64 a3, .int .u64 a2, .int .u64 a1, .int .u64 a0] 61)).alloc (.cells #[.int .u64 b3, .int .u64 b2, .int .u64 b1, .int .u64 b0] 61)).heap.size = w.heap.size + 1 + 1 by simp)
  go_region_held3 (fun w' => (w'.cell? ⟨w.heap.size, 0, none⟩ = some (.int .u64 a3) ∧ w'.cell? ⟨w.heap.size, 1, none⟩ = some (.int .u64 a2) ∧ w'.cell? ⟨w.heap.size, 2, none⟩ = some (.int .u64 a1) ∧ w'.cell? ⟨w.heap.size, 3, none⟩ = some (.int .u64 a0)) ∧
     (w'.cell? ⟨w.heap.size + 1, 0, none⟩ = some (.int .u64 b3) ∧ w'.cell? ⟨w.heap.size + 1, 1, none⟩ = some (.int .u64 b2) ∧ w'.cell? ⟨w.heap.size + 1, 2, none⟩ = some (.int .u64 b1) ∧ w'.cell? ⟨w.heap.size + 1, 3, none⟩ = some (.int .u64 b0)))
    (first
      | with_reducible exact H1.t2
      | with_reducible exact (H1.alloc _).t2
      | with_reducible exact (H1.allocd _).t2
      | with_reducible exact (H1.set4 hN.ge _ _ _ _).t2)
    (first
      | (go_at_call 93; refine (split_any _ _ _ _ _).mono ?_; rintro e w1 ⟨rfl, hb1⟩;
         (first | with_reducible have hN := new4 hb1 H1.size | with_reducible have hN := new4d (w.heap.size + 1 + 1) hb1 HZ.out (Nat.le_refl _) | with_reducible replace hN := carry4 hb1 hN | skip);
         (first | with_reducible replace H1 := H1.call hb1 | with_reducible replace H1 := H1.callA hb1 | with_reducible replace H1 := H1.callAd hb1); clear hb1)
      | (go_at_call 92; refine (minus_c HX.out HY.out _).mono ?_; rintro e w1 ⟨s, s0, s1, s2, s3, c, rfl, hs, hq, hb1⟩; have Hq := Lib.hid hq; clear hq;
         (first | with_reducible have hN := new4 hb1 H1.size | with_reducible replace hN := carry4 hb1 hN | skip);
         (first | with_reducible replace H1 := H1.call hb1 | with_reducible replace H1 := H1.callA hb1 | with_reducible replace H1 := H1.callAd hb1); clear hb1; try (have hC := hN.cells; obtain ⟨⟨c0, c1, c2, c3⟩, f0, f1, f2, f3⟩ := hC)))
  all_goals
    have hc := Hq.out.1
    have hq2 := Hq.out.2
    have hlt : decide (x < y) = (!((c : Int) == 0)) := less_of hs HX.out HY.out hc hq2
    have HL := Lib.hid hlt; clear hlt hc hq2
    go_wp2_with fail
    go_ret
    refine ⟨by rw [HL.out]; rfl, ?_⟩
    first | exact (H1.set4 hN.ge _ _ _ _).below | exact (H1.alloc _).below

end Go.Proofs.YtekoaheiapddiaaGreat
end
section
namespace Go.Proofs.YtekoaheiapddiaaGreat
open Go.RowKit
attribute [local go_sem ↓] Go.wp_at_zero Go.wp_at_succ

end Go.Proofs.YtekoaheiapddiaaGreat
end
section
namespace Go.Proofs.YtekoaheiapddiaaGreat
open Go.RowKit

/-- Byte j of a number, the lowest first; of its limbs. -/
def byteOf (x j : Nat) : Nat := x / 256 ^ j % 256
end Go.Proofs.YtekoaheiapddiaaGreat
end
section
namespace Go.Proofs.YtekoaheiapddiaaGreat
open Go.RowKit

def tail256 (x : Nat) : Nat → List UInt8
  | 0 => []
  | n + 1 => UInt8.ofNat (byteOf x n) :: tail256 x n
end Go.Proofs.YtekoaheiapddiaaGreat
end
section
namespace Go.Proofs.YtekoaheiapddiaaGreat
open Go.RowKit

/-- Limb i of a, lifted by so many limbs: 0 past both ends. -/
def lifted (x : Nat → Nat) (l i : Nat) : Nat := if i < l then 0 else x (i - l)
end Go.Proofs.YtekoaheiapddiaaGreat
end
section
namespace Go.Proofs.YtekoaheiapddiaaGreat
open Go.RowKit
attribute [local go_sem ↓] Go.wp_at_zero Go.wp_at_succ

end Go.Proofs.YtekoaheiapddiaaGreat
end
section
namespace Go.Proofs.YtekoaheiapddiaaGreat
open Go.RowKit
attribute [local go_sem ↓] Go.wp_at_zero Go.wp_at_succ

end Go.Proofs.YtekoaheiapddiaaGreat
end
section
namespace Go.Proofs.YtekoaheiapddiaaGreat
open Go.RowKit
attribute [local go_sem ↓] Go.wp_at_zero Go.wp_at_succ

end Go.Proofs.YtekoaheiapddiaaGreat
end
section
namespace Go.Proofs.YtekoaheiapddiaaGreat
open Go.RowKit

/-- A call that hands back the word n. -/
def RetD (n : Nat) (w : World) (e : Ending) (w' : World) : Prop :=
  ∃ s3 s2 s1 s0 : Nat, e = .returned (.agg #[.int .u64 s3, .int .u64 s2, .int .u64 s1, .int .u64 s0]) ∧ Dig n s0 s1 s2 s3 ∧ Below w.heap.size w w'

theorem mod_of {s n q : Nat} (hs : s < W256) (h : n = s + W256 * q) : s = n % W256 := by
  rw [h, Nat.add_mul_mod_self_left, Nat.mod_eq_of_lt hs]

theorem Add_d {x y a3 a2 a1 a0 b3 b2 b1 b0 : Nat} (hx : Dig x a0 a1 a2 a3) (hy : Dig y b0 b1 b2 b3) (w : World) :
    Calls Tryz.prog 44 #[.agg #[.int .u64 a3, .int .u64 a2, .int .u64 a1, .int .u64 a0], .agg #[.int .u64 b3, .int .u64 b2, .int .u64 b1, .int .u64 b0]] w (RetD ((x + y) % W256) w) := by
  refine (Add_c hx hy w).mono ?_
  rintro e w' ⟨s, s3, s2, s1, s0, rfl, hs, ⟨c, hc, hq⟩, hb⟩
  exact ⟨_, _, _, _, rfl, mod_of hs.lt hq ▸ hs, hb⟩
theorem Sub_d {x y a3 a2 a1 a0 b3 b2 b1 b0 : Nat} (hx : Dig x a0 a1 a2 a3) (hy : Dig y b0 b1 b2 b3) (w : World) :
    Calls Tryz.prog 45 #[.agg #[.int .u64 a3, .int .u64 a2, .int .u64 a1, .int .u64 a0], .agg #[.int .u64 b3, .int .u64 b2, .int .u64 b1, .int .u64 b0]] w (RetD ((x + W256 - y) % W256) w) := by
  refine (Sub_c hx hy w).mono ?_
  rintro e w' ⟨s, s3, s2, s1, s0, rfl, hs, ⟨c, hc, hq⟩, hb⟩
  have h1 := hs.lt; have h2 := hx.lt; have h3 := hy.lt
  have e1 : s = (x + W256 - y) % W256 := by
    have hc' : c = 0 ∨ c = 1 := by omega
    rcases hc' with rfl | rfl
    · have : x + W256 - y = s + W256 := by omega
      rw [this, Nat.add_mod_right, Nat.mod_eq_of_lt h1]
    · have : x + W256 - y = s := by omega
      rw [this, Nat.mod_eq_of_lt h1]
  exact ⟨_, _, _, _, rfl, e1 ▸ hs, hb⟩

theorem eq_words (a0 a1 a2 a3 b0 b1 b2 b3 : Int) (w : World) :
    (binOp .eql 61 (.agg #[.int .u64 a0, .int .u64 a1, .int .u64 a2, .int .u64 a3]) (.agg #[.int .u64 b0, .int .u64 b1, .int .u64 b2, .int .u64 b3])).run Tryz.prog w =
      .ok (.bool (a0 == b0 && (a1 == b1 && (a2 == b2 && a3 == b3)))) w := by
  have u3 := Tryz.underlying41
  have a3' := Tryz.isAgg41
  have z3 := Tryz.sizeOf41
  have hS : Tryz.prog.underlying 61 = some (.struct (Tryz.prog.fieldsOf 61)) := by kernel_rfl
  have hp : Tryz.prog.stoodInHeld 61 = false := by kernel_rfl
  rw [run_eql_struct, show (10000 : Nat) = 9999 + 1 from rfl, run_equalIn_agg w 9999 61 _ _ hS hp]
  simp only [Program.fieldsOf, Tryz.underlying61]
  go_simp
  by_cases h0 : a0 = b0 <;> by_cases h1 : a1 = b1 <;> by_cases h2 : a2 = b2 <;> by_cases h3 : a3 = b3 <;> simp [h0, h1, h2, h3]
theorem eq_word_not {a b a0 a1 a2 a3 b0 b1 b2 b3 : Nat} (ha : Dig a a0 a1 a2 a3) (hb : Dig b b0 b1 b2 b3) (h : a ≠ b) (w : World) :
    (binOp .eql 61 (.agg #[.int .u64 a3, .int .u64 a2, .int .u64 a1, .int .u64 a0]) (.agg #[.int .u64 b3, .int .u64 b2, .int .u64 b1, .int .u64 b0])).run Tryz.prog w = .ok (.bool false) w := by
  rw [eq_words]
  congr 2
  simp only [Bool.and_eq_false_iff, beq_eq_false_iff_ne, ne_eq, Int.natCast_inj]
  by_cases h3 : a3 = b3
  · by_cases h2 : a2 = b2
    · by_cases h1 : a1 = b1
      · by_cases h0 : a0 = b0
        · exact absurd (by rw [ha.eq, hb.eq, h0, h1, h2, h3]) h
        · exact .inr (.inr (.inr h0))
      · exact .inr (.inr (.inl h1))
    · exact .inr (.inl h2)
  · exact .inl h3

end Go.Proofs.YtekoaheiapddiaaGreat
end
section
namespace Go.Proofs.YtekoaheiapddiaaGreat
open Go.RowKit

/-- A number's bytes, the highest first, none ahead that is 0. -/
def num (n : Nat) : List UInt8 := if _h : n = 0 then [] else num (n / 256) ++ [UInt8.ofNat (n % 256)]
termination_by n
decreasing_by omega
/-- The number of bytes. -/
def val (l : List UInt8) : Nat := l.foldl (fun a b => a * 256 + b.toNat) 0
/-- What stands ahead of so many bytes. -/
def hd (k n : Nat) : List UInt8 := if n ≤ 55 then [UInt8.ofNat (k + n)] else UInt8.ofNat (k + 55 + (num n).length) :: num n
/-- Is a text its one byte? -/
def bareL : List UInt8 → Bool
  | [b] => decide (b.toNat < 128)
  | _ => false
def hdT (s : List UInt8) : List UInt8 := if bareL s then [] else hd 128 s.length
def encT (s : List UInt8) : List UInt8 := hdT s ++ s

/-- Items one behind the other: texts and lists. -/
inductive Fo where
  | nil : Fo
  | text (s : List UInt8) (r : Fo) : Fo
  | list (i r : Fo) : Fo
def Fo.len : Fo → Nat
  | .nil => 0
  | .text _ r => r.len + 1
  | .list _ r => r.len + 1
def Fo.enc : Fo → List UInt8
  | .nil => []
  | .text s r => encT s ++ r.enc
  | .list i r => hd 192 i.enc.length ++ i.enc ++ r.enc
/-- An item, as a value: a text or a list. -/
inductive It where
  | text (s : List UInt8) : It
  | list (i : Fo) : It
def It.enc : It → List UInt8
  | .text s => encT s
  | .list i => hd 192 i.enc.length ++ i.enc
end Go.Proofs.YtekoaheiapddiaaGreat
end
section
namespace Go.Proofs.YtekoaheiapddiaaGreat
open Go.RowKit

/-- The 32 bytes of a number, the highest first. -/
def wordL (x : Nat) : List UInt8 := tail256 x 32
/-- A word's parts. -/
def l0 (n : Nat) : Nat := n % M64
def l1 (n : Nat) : Nat := n / M64 % M64
def l2 (n : Nat) : Nat := n / M64 / M64 % M64
def l3 (n : Nat) : Nat := n / M64 / M64 / M64
theorem dig_of {n : Nat} (h : n < W256) : Dig n (l0 n) (l1 n) (l2 n) (l3 n) := Dig.of h
theorem dig_eq {n d0 d1 d2 d3 : Nat} (h : Dig n d0 d1 d2 d3) : d0 = l0 n ∧ d1 = l1 n ∧ d2 = l2 n ∧ d3 = l3 n := h.inj (dig_of h.lt)
theorem lim_zero : l0 0 = 0 ∧ l1 0 = 0 ∧ l2 0 = 0 ∧ l3 0 = 0 := by decide
structure AskP where
  id : Nat
  addr : List UInt8
  slot : Nat
  kind : Int
structure AskP.Wf (a : AskP) : Prop where
  id : a.id < M64
  slot : a.slot < W256
  kind : -9223372036854775808 ≤ a.kind ∧ a.kind ≤ 9223372036854775807
def AskP.Ok (a : AskP) : Prop := a.addr.length = 20 ∧ (a.kind = 2 ∨ a.kind = 1 ∧ a.slot = 0)
instance (a : AskP) : Decidable a.Ok := inferInstanceAs (Decidable (_ ∧ _))
def AskP.fo (a : AskP) : Fo := .text (num a.id) (.text (num a.kind.toNat) (.text a.addr (if a.kind = 2 then .text (wordL a.slot) .nil else .nil)))
def AskP.it (a : AskP) : It := .list a.fo
def AskP.enc (a : AskP) : List UInt8 := a.it.enc
def askV (a : AskP) : Value := .agg #[.int .u64 a.id, .string (str a.addr), .int .u64 (l3 a.slot : Nat), .int .u64 (l2 a.slot : Nat), .int .u64 (l1 a.slot : Nat), .int .u64 (l0 a.slot : Nat), .int .i64 a.kind]
structure ReplyP where
  id : Nat
  nonce : Nat
  bal : Nat
  code : List UInt8
  value : Nat
structure ReplyP.Wf (r : ReplyP) : Prop where
  id : r.id < M64
  nonce : r.nonce < M64
  bal : r.bal < W256
  value : r.value < W256
def ReplyP.Ok (kind : Int) (r : ReplyP) : Prop := r.code.length ≤ 24576 ∧ (kind = 1 ∧ r.value = 0 ∨ kind = 2 ∧ r.nonce = 0 ∧ r.bal = 0 ∧ r.code = [])
instance (kind : Int) (r : ReplyP) : Decidable (r.Ok kind) := inferInstanceAs (Decidable (_ ∧ _))
def ReplyP.fo (kind : Int) (r : ReplyP) : Fo := .text (num r.id) (if kind = 1 then .text (num r.nonce) (.text (wordL r.bal) (.text r.code .nil)) else .text (wordL r.value) .nil)
def ReplyP.it (kind : Int) (r : ReplyP) : It := .list (r.fo kind)
def ReplyP.body (kind : Int) (r : ReplyP) : List UInt8 := (r.it kind).enc
/-- Four bytes of a sum, the highest first. -/
def be4 (n : Nat) : List UInt8 := [UInt8.ofNat (n / 16777216), UInt8.ofNat (n / 65536), UInt8.ofNat (n / 256), UInt8.ofNat n]
def sum4 (s : List UInt8) : List UInt8 := be4 (sumN (str s))
def ReplyP.enc (kind : Int) (r : ReplyP) : List UInt8 := sum4 (r.body kind) ++ r.body kind
def ReplyP.zero : ReplyP := ⟨0, 0, 0, [], 0⟩
def replyV (r : ReplyP) : Value := .agg #[.int .u64 r.id, .int .u64 r.nonce, .int .u64 (l3 r.bal : Nat), .int .u64 (l2 r.bal : Nat), .int .u64 (l1 r.bal : Nat), .int .u64 (l0 r.bal : Nat), .string (str r.code), .int .u64 (l3 r.value : Nat), .int .u64 (l2 r.value : Nat), .int .u64 (l1 r.value : Nat), .int .u64 (l0 r.value : Nat)]

/-- What a text is: the ask that has these bytes, or none. -/
def AskIs (s : List UInt8) : Option AskP → Prop
  | some a => a.Wf ∧ a.Ok ∧ a.enc = s
  | none => ∀ a : AskP, a.Wf → a.Ok → a.enc ≠ s
def ReplyIs (kind : Int) (s : List UInt8) : Option ReplyP → Prop
  | some r => r.Wf ∧ r.Ok kind ∧ r.enc kind = s
  | none => ∀ r : ReplyP, r.Wf → r.Ok kind → r.enc kind ≠ s
end Go.Proofs.YtekoaheiapddiaaGreat
end
section
set_option maxRecDepth 100000
end
section
namespace Go.Proofs
open Go.Shelf
def Tryz.laysM316_ren : Go.Shelf.Ren := ⟨fun | 316 => 133 | n => n, fun | 9 => 9 | 3 => 3 | 4 => 4 | 37 => 218 | 0 => 0 | 127 => 274 | 5 => 5 | n => n, fun | n => n⟩
theorem Tryz.laysM316 : Go.Proofs.LaysM.n316 Tryz.prog Tryz.laysM316_ren := {
  mixed := by kernel_rfl
  f316 := Tryz.func133.trans (congrArg some (by kernel_rfl))
  t0 := Tryz.underlying0
  a0 := Tryz.isAgg0
  z0 := Tryz.sizeOf0
  v0 := Tryz.zeroValue0
  t3 := Tryz.underlying3
  a3 := Tryz.isAgg3
  z3 := Tryz.sizeOf3
  v3 := Tryz.zeroValue3
  t4 := Tryz.underlying4
  a4 := Tryz.isAgg4
  z4 := Tryz.sizeOf4
  v4 := Tryz.zeroValue4
  t9 := Tryz.underlying9
  a9 := Tryz.isAgg9
  z9 := Tryz.sizeOf9
  v9 := Tryz.zeroValue9
  t37 := Tryz.underlying218
  a37 := Tryz.isAgg218
  z37 := Tryz.sizeOf218
  v37 := Tryz.zeroValue218
  t127 := Tryz.underlying274
  a127 := Tryz.isAgg274
  z127 := Tryz.sizeOf274
  v127 := Tryz.zeroValue274
  t5 := Tryz.underlying5
  a5 := Tryz.isAgg5
  z5 := Tryz.sizeOf5
  v5 := Tryz.zeroValue5
  i0 := by kernel_rfl
  i3 := by kernel_rfl
  i4 := by kernel_rfl
  i5 := by kernel_rfl
  i9 := by kernel_rfl
  i37 := by kernel_rfl
  i127 := by kernel_rfl }
open Go.RowKit in
/-- internal/stringslite.Clone (what strings.Clone calls): "Clone returns a fresh copy of s.": THE SAME BYTES. Of what was there nothing has turned (a new row is laid, and frozen, where s is not empty). (LAID: no walk: one application.) -/
theorem Tryz.stringslite_Clone (s : ByteArray) (w : World) (hlim : s.size ≤ 281474976710656) :
    Calls Tryz.prog 133 #[.string s] w fun e w' => e = .returned (.string s) ∧ Below w.heap.size w w' := Any.stringslite_Clone Tryz.laysM316 s w hlim
end Go.Proofs
end
section
namespace Go.Proofs.YtekoaheiapddiaaGreat
open Go.RowKit

def wordV (n : Nat) : Value := .agg #[.int .u64 (l3 n : Nat), .int .u64 (l2 n : Nat), .int .u64 (l1 n : Nat), .int .u64 (l0 n : Nat)]
section
variable {S : Nat → Prop} {g : Nat} {f : Fo} {w : World}
theorem sclone_c (s : ByteArray) (w : World) (hlim : s.size ≤ 281474976710656) : Calls Tryz.prog 87 #[.string s] w fun e w' => e = .returned (.string s) ∧ Below w.heap.size w w' := by
  have C := Lib.hid (Tryz.stringslite_Clone s w hlim)
  clear hlim
  go_enter Tryz.func87, Tryz.ntmps87
  go_wp2_with (go_at_call 133; refine C.out.mono ?_; rintro e w1 ⟨rfl, h1⟩)
  go_ret
  exact ⟨rfl, h1⟩
end
end Go.Proofs.YtekoaheiapddiaaGreat
end
section
namespace Go.Proofs.YtekoaheiapddiaaGreat
open Go.RowKit

theorem cells6 {w : World} {b : Nat} {v0 v1 v2 v3 v4 v5 : Value} {t : TypeId} (h : w.heap[b]? = some (.cells #[v0, v1, v2, v3, v4, v5] t (0, 0))) :
    (w.cell? ⟨b, 0, none⟩ = some v0 ∧ w.cell? ⟨b, 1, none⟩ = some v1 ∧ w.cell? ⟨b, 2, none⟩ = some v2 ∧ w.cell? ⟨b, 3, none⟩ = some v3 ∧ w.cell? ⟨b, 4, none⟩ = some v4 ∧ w.cell? ⟨b, 5, none⟩ = some v5) ∧
    (w.frozen? ⟨b, 0, none⟩ = false ∧ w.frozen? ⟨b, 1, none⟩ = false ∧ w.frozen? ⟨b, 2, none⟩ = false ∧ w.frozen? ⟨b, 3, none⟩ = false ∧ w.frozen? ⟨b, 4, none⟩ = false ∧ w.frozen? ⟨b, 5, none⟩ = false) :=
  ⟨⟨cell_of h 0, cell_of h 1, cell_of h 2, cell_of h 3, cell_of h 4, cell_of h 5⟩, free_of h 0, free_of h 1, free_of h 2, free_of h 3, free_of h 4, free_of h 5⟩
end Go.Proofs.YtekoaheiapddiaaGreat
end
section
namespace Go.Proofs.YtekoaheiapddiaaGreat
open Go.RowKit
attribute [local go_sem ↓] Go.wp_at_zero Go.wp_at_succ

end Go.Proofs.YtekoaheiapddiaaGreat
end
