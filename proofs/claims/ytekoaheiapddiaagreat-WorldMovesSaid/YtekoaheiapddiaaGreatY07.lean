/- Merged: LPlain, Num, VPlain, WordA, WordUp, WordPlus. -/
import Derived.Test.YtekoaheiapddiaaGreatRows
import Derived.ProofKit
import Derived.OpenShut
import Derived.WalkKit
import Derived.Lib.SmallJoins
import Derived.ChangeMaps5
import Derived.ShutString
import Derived.Test.YtekoaheiapddiaaGreatY01
import Derived.WalkSpells
import Derived.WalkLawsBesides
import Derived.Lib.Hide
import Derived.Shelf.Spec.BitsCarry
import Derived.BigQuiet
section
namespace Go.Proofs.YtekoaheiapddiaaGreat
open Go.ChangeShapes Go.WideShapes Go.ChangeAt Go.RowKit

theorem u64_of {n : Int} (h : (Lit.int .u64 n).wf = true) : ∃ k : Nat, n = (k : Int) ∧ k < 18446744073709551616 := by
  have h' : 0 ≤ n ∧ n ≤ 18446744073709551615 := by simpa [Lit.wf, IntKind.min, IntKind.max, IntKind.signed, IntKind.bits] using h
  exact ⟨n.toNat, by omega, by omega⟩
theorem ownKnob_none : ownKnob Tryz.prog.godebug = none := by kernel_rfl
end Go.Proofs.YtekoaheiapddiaaGreat
end
section
namespace Go.Proofs.YtekoaheiapddiaaGreat
open Go.RowKit

/-- Limb i of four, lowest first. -/
def nth (d c b a : Nat) (i : Nat) : Nat := match i with | 0 => d | 1 => c | 2 => b | _ => a

/-- 2^256, kept from the walk. -/
def W256 : Nat := M64 * (M64 * (M64 * M64))

/-- n's limbs, the lowest first. -/
structure Dig (n d0 d1 d2 d3 : Nat) : Prop where
  h0 : d0 < M64
  h1 : d1 < M64
  h2 : d2 < M64
  h3 : d3 < M64
  eq : n = d0 + M64 * (d1 + M64 * (d2 + M64 * d3))

theorem Dig.lt {n d0 d1 d2 d3 : Nat} (h : Dig n d0 d1 d2 d3) : n < W256 := by
  obtain ⟨h0, h1, h2, h3, rfl⟩ := h
  unfold W256 M64 at *
  omega

theorem Dig.nth {n d0 d1 d2 d3 : Nat} (h : Dig n d0 d1 d2 d3) (k : Nat) : nth d0 d1 d2 d3 k < M64 := by
  obtain ⟨h0, h1, h2, h3, _⟩ := h
  unfold Go.Proofs.YtekoaheiapddiaaGreat.nth; split <;> assumption

theorem Dig.inj {n d0 d1 d2 d3 e0 e1 e2 e3 : Nat} (h : Dig n d0 d1 d2 d3) (k : Dig n e0 e1 e2 e3) : d0 = e0 ∧ d1 = e1 ∧ d2 = e2 ∧ d3 = e3 := by
  obtain ⟨h0, h1, h2, h3, rfl⟩ := h
  obtain ⟨k0, k1, k2, k3, e⟩ := k
  unfold M64 at *
  omega

/-- Every number below 2^256 has limbs. -/
theorem Dig.of {n : Nat} (h : n < W256) : Dig n (n % M64) (n / M64 % M64) (n / M64 / M64 % M64) (n / M64 / M64 / M64) := by
  unfold W256 M64 at h
  refine ⟨?_, ?_, ?_, ?_, ?_⟩ <;> unfold M64 <;> omega

/-- What is carried into limb k, and limb k of the sum. -/
def addC (x y : Nat → Nat) : Nat → Nat
  | 0 => 0
  | k + 1 => (x k + y k + addC x y k) / M64
def addD (x y : Nat → Nat) (k : Nat) : Nat := (x k + y k + addC x y k) % M64
/-- What is borrowed from limb k, and limb k of the difference. -/
def subC (x y : Nat → Nat) : Nat → Nat
  | 0 => 0
  | k + 1 => if x k < y k + subC x y k then 1 else 0
def subD (x y : Nat → Nat) (k : Nat) : Nat := (x k + M64 - y k - subC x y k) % M64

theorem addC_le {x y : Nat → Nat} (hx : ∀ k, x k < M64) (hy : ∀ k, y k < M64) (k : Nat) : addC x y k ≤ 1 := by
  induction k with
  | zero => simp [addC]
  | succ k ih =>
    have := hx k; have := hy k
    simp only [addC]
    unfold M64 at *
    omega
theorem subC_le {x y : Nat → Nat} (k : Nat) : subC x y k ≤ 1 := by
  cases k with
  | zero => simp [subC]
  | succ k => simp only [subC]; split <;> omega

theorem add_step (x y c : Nat) : x + y + c = (x + y + c) % M64 + M64 * ((x + y + c) / M64) := (Nat.mod_add_div _ _).symm
theorem sub_step (x y c : Nat) (hx : x < M64) (hy : y < M64) (hc : c ≤ 1) : x + M64 * (if x < y + c then 1 else 0) = (x + M64 - y - c) % M64 + y + c := by
  unfold M64 at *
  split <;> omega

theorem add_digits {x y x0 x1 x2 x3 y0 y1 y2 y3 : Nat} (hx : Dig x x0 x1 x2 x3) (hy : Dig y y0 y1 y2 y3) :
    ∃ s, Dig s (addD (nth x0 x1 x2 x3) (nth y0 y1 y2 y3) 0) (addD (nth x0 x1 x2 x3) (nth y0 y1 y2 y3) 1) (addD (nth x0 x1 x2 x3) (nth y0 y1 y2 y3) 2) (addD (nth x0 x1 x2 x3) (nth y0 y1 y2 y3) 3) ∧
      x + y = s + W256 * addC (nth x0 x1 x2 x3) (nth y0 y1 y2 y3) 4 := by
  have pos : 0 < M64 := by unfold M64; omega
  refine ⟨_, ⟨Nat.mod_lt _ pos, Nat.mod_lt _ pos, Nat.mod_lt _ pos, Nat.mod_lt _ pos, rfl⟩, ?_⟩
  obtain ⟨_, _, _, _, rfl⟩ := hx
  obtain ⟨_, _, _, _, rfl⟩ := hy
  have a0 := add_step x0 y0 (addC (nth x0 x1 x2 x3) (nth y0 y1 y2 y3) 0)
  have a1 := add_step x1 y1 (addC (nth x0 x1 x2 x3) (nth y0 y1 y2 y3) 1)
  have a2 := add_step x2 y2 (addC (nth x0 x1 x2 x3) (nth y0 y1 y2 y3) 2)
  have a3 := add_step x3 y3 (addC (nth x0 x1 x2 x3) (nth y0 y1 y2 y3) 3)
  have z : addC (nth x0 x1 x2 x3) (nth y0 y1 y2 y3) 0 = 0 := rfl
  have d0 : addD (nth x0 x1 x2 x3) (nth y0 y1 y2 y3) 0 = (x0 + y0 + addC (nth x0 x1 x2 x3) (nth y0 y1 y2 y3) 0) % M64 := rfl
  have d1 : addD (nth x0 x1 x2 x3) (nth y0 y1 y2 y3) 1 = (x1 + y1 + addC (nth x0 x1 x2 x3) (nth y0 y1 y2 y3) 1) % M64 := rfl
  have d2 : addD (nth x0 x1 x2 x3) (nth y0 y1 y2 y3) 2 = (x2 + y2 + addC (nth x0 x1 x2 x3) (nth y0 y1 y2 y3) 2) % M64 := rfl
  have d3 : addD (nth x0 x1 x2 x3) (nth y0 y1 y2 y3) 3 = (x3 + y3 + addC (nth x0 x1 x2 x3) (nth y0 y1 y2 y3) 3) % M64 := rfl
  have c1 : addC (nth x0 x1 x2 x3) (nth y0 y1 y2 y3) 1 = (x0 + y0 + addC (nth x0 x1 x2 x3) (nth y0 y1 y2 y3) 0) / M64 := rfl
  have c2 : addC (nth x0 x1 x2 x3) (nth y0 y1 y2 y3) 2 = (x1 + y1 + addC (nth x0 x1 x2 x3) (nth y0 y1 y2 y3) 1) / M64 := rfl
  have c3 : addC (nth x0 x1 x2 x3) (nth y0 y1 y2 y3) 3 = (x2 + y2 + addC (nth x0 x1 x2 x3) (nth y0 y1 y2 y3) 2) / M64 := rfl
  have c4 : addC (nth x0 x1 x2 x3) (nth y0 y1 y2 y3) 4 = (x3 + y3 + addC (nth x0 x1 x2 x3) (nth y0 y1 y2 y3) 3) / M64 := rfl
  rw [← d0, ← c1] at a0
  rw [← d1, ← c2] at a1
  rw [← d2, ← c3] at a2
  rw [← d3, ← c4] at a3
  clear d0 d1 d2 d3 c1 c2 c3 c4
  generalize addC (nth x0 x1 x2 x3) (nth y0 y1 y2 y3) 0 = k0 at *
  generalize addC (nth x0 x1 x2 x3) (nth y0 y1 y2 y3) 1 = k1 at *
  generalize addC (nth x0 x1 x2 x3) (nth y0 y1 y2 y3) 2 = k2 at *
  generalize addC (nth x0 x1 x2 x3) (nth y0 y1 y2 y3) 3 = k3 at *
  generalize addC (nth x0 x1 x2 x3) (nth y0 y1 y2 y3) 4 = k4 at *
  generalize addD (nth x0 x1 x2 x3) (nth y0 y1 y2 y3) 0 = s0 at *
  generalize addD (nth x0 x1 x2 x3) (nth y0 y1 y2 y3) 1 = s1 at *
  generalize addD (nth x0 x1 x2 x3) (nth y0 y1 y2 y3) 2 = s2 at *
  generalize addD (nth x0 x1 x2 x3) (nth y0 y1 y2 y3) 3 = s3 at *
  unfold W256 M64 at *
  omega

theorem sub_digits {x y x0 x1 x2 x3 y0 y1 y2 y3 : Nat} (hx : Dig x x0 x1 x2 x3) (hy : Dig y y0 y1 y2 y3) :
    ∃ s, Dig s (subD (nth x0 x1 x2 x3) (nth y0 y1 y2 y3) 0) (subD (nth x0 x1 x2 x3) (nth y0 y1 y2 y3) 1) (subD (nth x0 x1 x2 x3) (nth y0 y1 y2 y3) 2) (subD (nth x0 x1 x2 x3) (nth y0 y1 y2 y3) 3) ∧
      x + W256 * subC (nth x0 x1 x2 x3) (nth y0 y1 y2 y3) 4 = s + y := by
  have pos : 0 < M64 := by unfold M64; omega
  refine ⟨_, ⟨Nat.mod_lt _ pos, Nat.mod_lt _ pos, Nat.mod_lt _ pos, Nat.mod_lt _ pos, rfl⟩, ?_⟩
  obtain ⟨hx0, hx1, hx2, hx3, rfl⟩ := hx
  obtain ⟨hy0, hy1, hy2, hy3, rfl⟩ := hy
  have a0 := sub_step x0 y0 (subC (nth x0 x1 x2 x3) (nth y0 y1 y2 y3) 0) hx0 hy0 (subC_le _)
  have a1 := sub_step x1 y1 (subC (nth x0 x1 x2 x3) (nth y0 y1 y2 y3) 1) hx1 hy1 (subC_le _)
  have a2 := sub_step x2 y2 (subC (nth x0 x1 x2 x3) (nth y0 y1 y2 y3) 2) hx2 hy2 (subC_le _)
  have a3 := sub_step x3 y3 (subC (nth x0 x1 x2 x3) (nth y0 y1 y2 y3) 3) hx3 hy3 (subC_le _)
  have z : subC (nth x0 x1 x2 x3) (nth y0 y1 y2 y3) 0 = 0 := rfl
  have d0 : subD (nth x0 x1 x2 x3) (nth y0 y1 y2 y3) 0 = (x0 + M64 - y0 - subC (nth x0 x1 x2 x3) (nth y0 y1 y2 y3) 0) % M64 := rfl
  have d1 : subD (nth x0 x1 x2 x3) (nth y0 y1 y2 y3) 1 = (x1 + M64 - y1 - subC (nth x0 x1 x2 x3) (nth y0 y1 y2 y3) 1) % M64 := rfl
  have d2 : subD (nth x0 x1 x2 x3) (nth y0 y1 y2 y3) 2 = (x2 + M64 - y2 - subC (nth x0 x1 x2 x3) (nth y0 y1 y2 y3) 2) % M64 := rfl
  have d3 : subD (nth x0 x1 x2 x3) (nth y0 y1 y2 y3) 3 = (x3 + M64 - y3 - subC (nth x0 x1 x2 x3) (nth y0 y1 y2 y3) 3) % M64 := rfl
  have c1 : subC (nth x0 x1 x2 x3) (nth y0 y1 y2 y3) 1 = (if x0 < y0 + subC (nth x0 x1 x2 x3) (nth y0 y1 y2 y3) 0 then 1 else 0) := rfl
  have c2 : subC (nth x0 x1 x2 x3) (nth y0 y1 y2 y3) 2 = (if x1 < y1 + subC (nth x0 x1 x2 x3) (nth y0 y1 y2 y3) 1 then 1 else 0) := rfl
  have c3 : subC (nth x0 x1 x2 x3) (nth y0 y1 y2 y3) 3 = (if x2 < y2 + subC (nth x0 x1 x2 x3) (nth y0 y1 y2 y3) 2 then 1 else 0) := rfl
  have c4 : subC (nth x0 x1 x2 x3) (nth y0 y1 y2 y3) 4 = (if x3 < y3 + subC (nth x0 x1 x2 x3) (nth y0 y1 y2 y3) 3 then 1 else 0) := rfl
  rw [← d0, ← c1] at a0
  rw [← d1, ← c2] at a1
  rw [← d2, ← c3] at a2
  rw [← d3, ← c4] at a3
  clear d0 d1 d2 d3 c1 c2 c3 c4
  generalize subC (nth x0 x1 x2 x3) (nth y0 y1 y2 y3) 0 = k0 at *
  generalize subC (nth x0 x1 x2 x3) (nth y0 y1 y2 y3) 1 = k1 at *
  generalize subC (nth x0 x1 x2 x3) (nth y0 y1 y2 y3) 2 = k2 at *
  generalize subC (nth x0 x1 x2 x3) (nth y0 y1 y2 y3) 3 = k3 at *
  generalize subC (nth x0 x1 x2 x3) (nth y0 y1 y2 y3) 4 = k4 at *
  generalize subD (nth x0 x1 x2 x3) (nth y0 y1 y2 y3) 0 = s0 at *
  generalize subD (nth x0 x1 x2 x3) (nth y0 y1 y2 y3) 1 = s1 at *
  generalize subD (nth x0 x1 x2 x3) (nth y0 y1 y2 y3) 2 = s2 at *
  generalize subD (nth x0 x1 x2 x3) (nth y0 y1 y2 y3) 3 = s3 at *
  unfold W256 M64 at *
  omega


end Go.Proofs.YtekoaheiapddiaaGreat
end
section
set_option maxRecDepth 100000
namespace Go.Proofs.YtekoaheiapddiaaGreat
open Go.ChangeShapes Go.WideShapes Go.ChangeAt Go.RowKit

/-- The datum of the word with the digits d3, d2, d1, d0. -/
def wordD {H : Type} (d3 d2 d1 d0 : Nat) : DataW H := .agg [.lit (.int .u64 d3), .lit (.int .u64 d2), .lit (.int .u64 d1), .lit (.int .u64 d0)]
theorem wf_of {k : Nat} (h : k < M64) : (Lit.int .u64 (k : Int)).wf = true := by
  unfold M64 at h
  simp [Lit.wf, IntKind.min, IntKind.max, IntKind.signed, IntKind.bits]; omega
theorem cellsWord : Tryz.prog.cellsOf 61 = 4 := by kernel_rfl
theorem open_word {H : Type} {enc : TypeId × Value → H} {w : World} {base : Nat} {spare : Nat → Bool} {held : Bool} {r : Reach} {b0 : Nat} {v : Value} {d : DataW H} {p : List MemPlace}
    (hv : Value.okWide Tryz.prog w r b0 61 v) (h : DataW.Trod enc Tryz.prog w base spare held 61 v d p) :
    ∃ n d3 d2 d1 d0 : Nat, v = .agg #[.int .u64 d3, .int .u64 d2, .int .u64 d1, .int .u64 d0] ∧ d = wordD d3 d2 d1 d0 ∧ p = [] ∧ Dig n d0 d1 d2 d3 := by
  obtain ⟨v0, v1, v2, v3, y0, y1, y2, y3, n, rfl, rfl, rfl, h0, h1, h2, h3⟩ := Go.Joins.open_agg4 Tryz.underlying61 (by kernel_rfl) cellsWord hv h
  obtain ⟨n3, e0, rfl, w3⟩ := DataW.trod_int Tryz.underlying41 h0
  obtain ⟨n2, e1, rfl, w2⟩ := DataW.trod_int Tryz.underlying41 h1
  obtain ⟨n1, e2, rfl, w1⟩ := DataW.trod_int Tryz.underlying41 h2
  obtain ⟨n0, e3, rfl, w0⟩ := DataW.trod_int Tryz.underlying41 h3
  obtain ⟨k3, rfl, l3⟩ := u64_of w3
  obtain ⟨k2, rfl, l2⟩ := u64_of w2
  obtain ⟨k1, rfl, l1⟩ := u64_of w1
  obtain ⟨k0, rfl, l0⟩ := u64_of w0
  cases e0; cases e1; cases e2; cases e3
  exact ⟨_, k3, k2, k1, k0, rfl, rfl, rfl, ⟨l0, l1, l2, l3, rfl⟩⟩
theorem shut_word {H : Type} {enc : TypeId × Value → H} {w : World} {base : Nat} {spare : Nat → Bool} {held : Bool} {n d3 d2 d1 d0 : Nat} (h : Dig n d0 d1 d2 d3) :
    DataW.Trod enc Tryz.prog w base spare held 61 (.agg #[.int .u64 d3, .int .u64 d2, .int .u64 d1, .int .u64 d0]) (wordD d3 d2 d1 d0) [] :=
  Go.Joins.shut_agg4 Tryz.underlying61 (by kernel_rfl) cellsWord (y0 := (_, [])) (y1 := (_, [])) (y2 := (_, [])) (y3 := (_, []))
    ⟨1, trod_int_mk 0 Tryz.underlying41 (wf_of h.h3)⟩ ⟨1, trod_int_mk 0 Tryz.underlying41 (wf_of h.h2)⟩
    ⟨1, trod_int_mk 0 Tryz.underlying41 (wf_of h.h1)⟩ ⟨1, trod_int_mk 0 Tryz.underlying41 (wf_of h.h0)⟩
end Go.Proofs.YtekoaheiapddiaaGreat
end
section
namespace Go.Proofs.YtekoaheiapddiaaGreat
open Go.RowKit

set_option maxHeartbeats 400000 in
theorem split_any (a b c d : Nat) (w : World) :
    Calls Tryz.prog 93 #[.agg #[.int .u64 a, .int .u64 b, .int .u64 c, .int .u64 d]] w fun e w' =>
      e = .returned (.agg #[.int .u64 d, .int .u64 c, .int .u64 b, .int .u64 a]) ∧ Below w.heap.size w w' := by
  go_enter Tryz.func93, Tryz.ntmps93
  go_wp2
  exact bodyPost_ret (v := .agg #[.int .u64 d, .int .u64 c, .int .u64 b, .int .u64 a]) (by simp [results, Tryz.results93, go_sem]) rfl ⟨rfl, ((Below.refl _ _).alloc (Nat.le_refl _) _).alloc (by simp) _⟩

set_option maxHeartbeats 400000 in
theorem join_any (a b c d : Nat) (w : World) :
    Calls Tryz.prog 95 #[.agg #[.int .u64 d, .int .u64 c, .int .u64 b, .int .u64 a]] w fun e w' =>
      e = .returned (.agg #[.int .u64 a, .int .u64 b, .int .u64 c, .int .u64 d]) ∧ Below w.heap.size w w' := by
  go_enter Tryz.func95, Tryz.ntmps95
  go_wp2
  exact bodyPost_ret (v := .agg #[.int .u64 a, .int .u64 b, .int .u64 c, .int .u64 d]) (by simp [results, Tryz.results95, go_sem]) rfl ⟨rfl, ((Below.refl _ _).alloc (Nat.le_refl _) _).alloc (by simp) _⟩

end Go.Proofs.YtekoaheiapddiaaGreat
end
section
namespace Go.Proofs.YtekoaheiapddiaaGreat
open Go.RowKit

/-- What holds at the head of a round of 'up'. -/
def UpRel (may : Nat → Prop) (S : Nat → List Nat → World → Prop) (w : World) (k : Nat) (wr : World) : Prop :=
  ∃ ls : List Nat, ls.length = k ∧ k ≤ 4 ∧ S k ls wr ∧ Only may w.heap.size w wr ∧ wr.heap[w.heap.size]? = some (.cells (four 0 0 0 0) 183 (0, 0)) ∧
    wr.heap[w.heap.size + 1]? = some (.cells (four (ls.getD 0 0) (ls.getD 1 0) (ls.getD 2 0) (ls.getD 3 0)) 183 (0, 0))

theorem UpRel.start {may : Nat → Prop} {S : Nat → List Nat → World → Prop} {w : World}
    (hS : ∀ k ls w1 w2, Below w.heap.size w1 w2 → S k ls w1 → S k ls w2) (h0 : S 0 [] w) :
    UpRel may S w 0 ((w.alloc (.cells (four 0 0 0 0) 183 (0, 0))).alloc (.cells (four 0 0 0 0) 183 (0, 0))) := by
  refine ⟨[], rfl, by omega, hS _ _ _ _ (((Below.refl _ _).alloc (Nat.le_refl _) _).alloc (by simp) _) h0, ((Only.refl _ _ _).alloc (Nat.le_refl _) _).alloc (by simp) _, heap_alloc2_old _ _ _, heap_alloc2_new _ _ _⟩

theorem UpRel.step {may : Nat → Prop} {S : Nat → List Nat → World → Prop} {w : World} (hmay : ∀ k, may k → k < w.heap.size)
    (hS : ∀ k ls w1 w2, Below w.heap.size w1 w2 → S k ls w1 → S k ls w2) (k r : Nat) (ls : List Nat) (wr w' : World) (hk : k < 4) (hl : ls.length = k)
    (hO : Only may w.heap.size w wr)
    (hb0 : wr.heap[w.heap.size]? = some (.cells (four 0 0 0 0) 183 (0, 0)))
    (hb1 : wr.heap[w.heap.size + 1]? = some (.cells (four (ls.getD 0 0) (ls.getD 1 0) (ls.getD 2 0) (ls.getD 3 0)) 183 (0, 0)))
    (hS' : S (k+1) (ls ++ [r]) w') (hO' : Only may wr.heap.size wr w') :
    (w'.cell? ⟨w.heap.size + 1, k, none⟩ = some (.int .u64 0) ∧ w'.frozen? ⟨w.heap.size + 1, k, none⟩ = false) ∧
      UpRel may S w (k + 1) (w'.setCell ⟨w.heap.size + 1, k, none⟩ (.int .u64 (r : Int))) := by
  have hz := hO.size
  have l1 := lt_of hb1
  have e0 : w'.heap[w.heap.size]? = _ := (hO'.block _ (by omega) (fun h => by have := hmay _ h; omega)).trans hb0
  have e1 : w'.heap[w.heap.size + 1]? = _ := (hO'.block _ (by omega) (fun h => by have := hmay _ h; omega)).trans hb1
  refine ⟨⟨?_, free_of e1 k⟩, ls ++ [r], by simp [hl], by omega, hS _ _ _ _ ((Below.refl _ _).setCell (by simp) _) hS', ?_, ?_, ?_⟩
  · rw [cell_of e1 k]
    match ls, k, hk with
    | [], 0, _ | [_], 1, _ | [_, _], 2, _ | [_, _, _], 3, _ => simp [four]
  · exact (hO.trans (hO'.mono hz (fun _ _ h => h))).setCell (.inl (by simp)) _
  · rw [heap_setCell_other _ _ _ _ (by simp)]; exact e0
  · rw [heap_setCell_same _ _ _ _ _ _ e1]
    match ls, k, hk with
    | [], 0, _ | [_], 1, _ | [_, _], 2, _ | [_, _, _], 3, _ => simp [four]

set_option maxRecDepth 100000 in
set_option maxHeartbeats 400000 in
theorem up_any (f : FuncId) (caps : Array Value) (may : Nat → Prop) (S : Nat → List Nat → World → Prop) (w : World)
    (hmay : ∀ k, may k → k < w.heap.size)
    (hf : ∀ (i : Int) (w : World), (callFunc f (#[.int .i64 i] ++ caps)).run Tryz.prog w = .ok (.enter f (#[.int .i64 i] ++ caps)) w)
    (hS : ∀ k ls w1 w2, Below w.heap.size w1 w2 → S k ls w1 → S k ls w2)
    (h0 : S 0 [] w)
    (hcall : ∀ k ls wr, k < 4 → ls.length = k → w.heap.size ≤ wr.heap.size → S k ls wr → Calls Tryz.prog f (#[.int .i64 (k : Nat)] ++ caps) wr fun e w' =>
      ∃ r : Nat, e = .returned (.int .u64 r) ∧ S (k+1) (ls ++ [r]) w' ∧ Only may wr.heap.size wr w') :
    Calls Tryz.prog 136 #[.func (.func f) #[] caps] w fun e w' =>
      ∃ r0 r1 r2 r3 : Nat, e = .returned (.agg #[.int .u64 r0, .int .u64 r1, .int .u64 r2, .int .u64 r3]) ∧ S 4 [r0, r1, r2, r3] w' ∧ Only may w.heap.size w w' := by
  have Hcall := Lib.hid hcall; clear hcall
  have Hst := Lib.hid (UpRel.start (may := may) hS h0); clear h0
  have Hstep := Lib.hid (UpRel.step hmay hS)
  have Hstab := Lib.hid hS; clear hS
  have Hmay := Lib.hid hmay; clear hmay
  go_enter Tryz.func136, Tryz.ntmps136
  go_wp2_with fail
  go_loopw [5] (fun b wr => ∃ k : Nat, b = .int .i64 k ∧ UpRel may S w k wr) (fun b w => 4 - (intOf b).toNat)
  case atStart => exact ⟨0, rfl, Hst.out⟩
  case round => 
    obtain ⟨k, rfl, ls, hl, hk4, hs, hO, hb0, hb1⟩ := hrel
    by_cases hk : k < 4
    · have Hl := Lib.hid hl; clear hl
      have Hb0 := Lib.hid hb0; clear hb0
      have Hb1 := Lib.hid hb1; clear hb1
      go_wp2_with fail
      refine (Hcall.out k ls wr hk Hl.out hO.size hs).mono ?_
      rintro e w1 ⟨r, rfl, hs1, hO1⟩
      have hx := Hstep.out k r ls wr w1 hk Hl.out hO Hb0.out Hb1.out hs1 hO1
      obtain ⟨⟨hc, hfz⟩, hx⟩ := hx
      have Hx := Lib.hid hx; clear hx
      clear hs1 hO1 hO hs
      go_wp2
      go_roundw
      case rel => exact ⟨k + 1, by go_num, Hx.out⟩
      case measure => simp [intOf]; omega
    · have h4 : k = 4 := by omega
      subst h4
      match ls, hl with
      | [r0, r1, r2, r3], _ =>
        simp at hb1
        have c0 := cell_of hb1 0; have c1 := cell_of hb1 1; have c2 := cell_of hb1 2; have c3 := cell_of hb1 3
        have d0 := cell_of hb0 0; have d1 := cell_of hb0 1; have d2 := cell_of hb0 2; have d3 := cell_of hb0 3
        have f0 := free_of hb0 0; have f1 := free_of hb0 1; have f2 := free_of hb0 2; have f3 := free_of hb0 3
        simp [four] at c0 c1 c2 c3 d0 d1 d2 d3
        have Hs := Lib.hid hs; clear hs
        have HO := Lib.hid hO; clear hO
        have Hb0 := Lib.hid hb0; clear hb0
        clear hb1
        go_wp2
        have e := heap_setCell_same _ _ 3 _ _ (.int .u64 r3) (heap_setCell_same _ _ 2 _ _ (.int .u64 r2) (heap_setCell_same _ _ 1 _ _ (.int .u64 r1) (heap_setCell_same _ _ 0 _ _ (.int .u64 r0) Hb0.out)))
        simp [four] at e
        refine bodyPost_ret (v := .agg #[.int .u64 r0, .int .u64 r1, .int .u64 r2, .int .u64 r3])
          (results_cell_row Tryz.results136 _ _ _ _ _ _ _ rfl e Tryz.underlying183 rfl (by kernel_rfl)) rfl ?_
        refine ⟨r0, r1, r2, r3, rfl, Hstab.out _ _ _ _ ?_ Hs.out, ?_⟩
        · exact ((((Below.refl _ _).setCell (by simp) _).setCell (by simp) _).setCell (by simp) _).setCell (by simp) _
        · exact (((HO.out.setCell (.inl (by simp)) _).setCell (.inl (by simp)) _).setCell (.inl (by simp)) _).setCell (.inl (by simp)) _

end Go.Proofs.YtekoaheiapddiaaGreat
end
section
namespace Go.Proofs.YtekoaheiapddiaaGreat
open Go.RowKit

theorem add64_run (x y c : Nat) (hc : c ≤ 1) (w : World) :
    (callFunc 140 #[.int .u64 x, .int .u64 y, .int .u64 c]).run Tryz.prog w =
      .ok (.value (.tuple #[.int .u64 (((x + y + c) % M64 : Nat) : Int), .int .u64 (((x + y + c) / M64 : Nat) : Int)])) w := by
  rw [run_callFunc_extern Tryz.func140 (by kernel_rfl) (by kernel_rfl) (by kernel_rfl) (e := add64Entry) (by kernel_rfl), run_add64 x y c (by omega) (by omega) (by omega) (by omega)]
  simp only [Result.andThen, M64]
  congr 5 <;> omega

theorem sub64_run (x y b : Nat) (hb : b ≤ 1) (w : World) :
    (callFunc 138 #[.int .u64 x, .int .u64 y, .int .u64 b]).run Tryz.prog w =
      .ok (.value (.tuple #[.int .u64 (((x + M64 - y - b) % M64 : Nat) : Int), .int .u64 ((if x < y + b then 1 else 0 : Nat) : Int)])) w := by
  rw [run_callFunc_extern Tryz.func138 (by kernel_rfl) (by kernel_rfl) (by kernel_rfl) (e := sub64Entry) (by kernel_rfl), run_sub64 x y b hb]
  rfl

theorem four_at (a b c d k : Nat) (hk : k < 4) : (four a b c d)[k]? = some (.int .u64 (nth a b c d k : Nat)) := by
  match k, hk with
  | 0, _ | 1, _ | 2, _ | 3, _ => rfl


set_option maxRecDepth 100000 in
set_option maxHeartbeats 400000 in
theorem plus1_any (k : Nat) (hk : k < 4) (bx by' bc x0 x1 x2 x3 y0 y1 y2 y3 c : Nat) (w : World)
    (hx : w.heap[bx]? = some (.cells (four x0 x1 x2 x3) 183 (0, 0))) (hy : w.heap[by']? = some (.cells (four y0 y1 y2 y3) 183 (0, 0)))
    (hc : w.heap[bc]? = some (.cells #[.int .u64 c] 41 (0, 0))) (hc1 : c ≤ 1) :
    Calls Tryz.prog 139 #[.int .i64 k, .pointer (some ⟨bx, 0, none⟩), .pointer (some ⟨by', 0, none⟩), .pointer (some ⟨bc, 0, none⟩)] w fun e w' =>
      e = .returned (.int .u64 ((nth x0 x1 x2 x3 k + nth y0 y1 y2 y3 k + c) % M64 : Nat)) ∧ w' = (w.setCell ⟨bc, 0, none⟩ (.int .u64 ((nth x0 x1 x2 x3 k + nth y0 y1 y2 y3 k + c) / M64 : Nat))).drew := by
  have cx := (cell_of hx k).trans (four_at _ _ _ _ k hk)
  have cy := (cell_of hy k).trans (four_at _ _ _ _ k hk)
  have cc := cell_of hc 0
  have fc := free_of hc 0
  simp at cc
  clear hx hy hc
  generalize nth x0 x1 x2 x3 k = x at *
  generalize nth y0 y1 y2 y3 k = y at *
  have hadd := add64_run x y c hc1
  generalize (x + y + c) % M64 = s at *
  generalize (x + y + c) / M64 = t at *
  go_enter Tryz.func139, Tryz.ntmps139
  go_wp2_with fail
  go_region
  all_goals (go_wp2; go_ret; exact ⟨rfl, rfl⟩)

set_option maxRecDepth 100000 in
set_option maxHeartbeats 400000 in
theorem minus1_any (k : Nat) (hk : k < 4) (bx by' bc x0 x1 x2 x3 y0 y1 y2 y3 c : Nat) (w : World)
    (hx : w.heap[bx]? = some (.cells (four x0 x1 x2 x3) 183 (0, 0))) (hy : w.heap[by']? = some (.cells (four y0 y1 y2 y3) 183 (0, 0)))
    (hc : w.heap[bc]? = some (.cells #[.int .u64 c] 41 (0, 0))) (hc1 : c ≤ 1) :
    Calls Tryz.prog 137 #[.int .i64 k, .pointer (some ⟨bx, 0, none⟩), .pointer (some ⟨by', 0, none⟩), .pointer (some ⟨bc, 0, none⟩)] w fun e w' =>
      e = .returned (.int .u64 ((nth x0 x1 x2 x3 k + M64 - nth y0 y1 y2 y3 k - c) % M64 : Nat)) ∧ w' = (w.setCell ⟨bc, 0, none⟩ (.int .u64 ((if nth x0 x1 x2 x3 k < nth y0 y1 y2 y3 k + c then 1 else 0 : Nat) : Int))).drew := by
  have cx := (cell_of hx k).trans (four_at _ _ _ _ k hk)
  have cy := (cell_of hy k).trans (four_at _ _ _ _ k hk)
  have cc := cell_of hc 0
  have fc := free_of hc 0
  simp at cc
  clear hx hy hc
  generalize nth x0 x1 x2 x3 k = x at *
  generalize nth y0 y1 y2 y3 k = y at *
  have hadd := sub64_run x y c hc1
  generalize (x + M64 - y - c) % M64 = s at *
  generalize (if x < y + c then 1 else 0 : Nat) = t at *
  go_enter Tryz.func137, Tryz.ntmps137
  go_wp2_with fail
  go_region
  all_goals (go_wp2; go_ret; exact ⟨rfl, rfl⟩)

/-- The state of a closure that carries: its digits so far, what it carries, the two numbers' blocks. -/
def CarryS (D C : Nat → Nat) (bx by' bc : Nat) (X Y : Array Value) (k : Nat) (ls : List Nat) (w : World) : Prop :=
  ls = (List.range k).map D ∧ w.heap[bc]? = some (.cells #[.int .u64 (C k : Nat)] 41 (0, 0)) ∧
    w.heap[bx]? = some (.cells X 183 (0, 0)) ∧ w.heap[by']? = some (.cells Y 183 (0, 0))

theorem CarryS.stable {D C : Nat → Nat} {bx by' bc B : Nat} {X Y : Array Value} (h1 : bx < B) (h2 : by' < B) (h3 : bc < B) :
    ∀ k ls w1 w2, Below B w1 w2 → CarryS D C bx by' bc X Y k ls w1 → CarryS D C bx by' bc X Y k ls w2 := by
  rintro k ls w1 w2 hb ⟨a, b, c, d⟩
  exact ⟨a, (hb.block _ h3).trans b, (hb.block _ h1).trans c, (hb.block _ h2).trans d⟩

theorem CarryS.step {D C : Nat → Nat} {bx by' bc : Nat} {X Y : Array Value} (h1 : bx ≠ bc) (h2 : by' ≠ bc) {k : Nat} {ls : List Nat} {w : World}
    (h : CarryS D C bx by' bc X Y k ls w) : CarryS D C bx by' bc X Y (k + 1) (ls ++ [D k]) (w.setCell ⟨bc, 0, none⟩ (.int .u64 (C (k + 1) : Nat))).drew := by
  obtain ⟨a, b, c, d⟩ := h
  refine ⟨by rw [a, List.range_succ]; simp, ?_, ?_, ?_⟩
  · exact one_setCell b
  · exact (heap_setCell_other _ _ _ _ (by simpa using h1)).trans c
  · exact (heap_setCell_other _ _ _ _ (by simpa using h2)).trans d

theorem CarryS.only {bc : Nat} {w : World} (v : Value) : Only (fun k => k = bc) w.heap.size w (w.setCell ⟨bc, 0, none⟩ v).drew :=
  ((Only.refl (fun k => k = bc) _ _).setCell (p := ⟨bc, 0, none⟩) (.inr rfl) _).drew


theorem four_list (D : Nat → Nat) (r0 r1 r2 r3 : Nat) (h : [r0, r1, r2, r3] = (List.range 4).map D) : r0 = D 0 ∧ r1 = D 1 ∧ r2 = D 2 ∧ r3 = D 3 := by
  simpa [List.range, List.range.loop] using h

/-- 'up' over plus's closure, in whatever world. -/
theorem plus_up (x0 x1 x2 x3 y0 y1 y2 y3 : Nat) (hx : ∀ k, nth x0 x1 x2 x3 k < M64) (hy : ∀ k, nth y0 y1 y2 y3 k < M64) (bx by' bc : Nat) (w : World)
    (h1 : w.heap[bx]? = some (.cells (four x0 x1 x2 x3) 183 (0, 0))) (h2 : w.heap[by']? = some (.cells (four y0 y1 y2 y3) 183 (0, 0)))
    (h3 : w.heap[bc]? = some (.cells #[.int .u64 0] 41 (0, 0))) (n1 : bx ≠ bc) (n2 : by' ≠ bc) :
    Calls Tryz.prog 136 #[.func (.func 139) #[] #[.pointer (some ⟨bx, 0, none⟩), .pointer (some ⟨by', 0, none⟩), .pointer (some ⟨bc, 0, none⟩)]] w fun e w' =>
      e = .returned (.agg (four (addD (nth x0 x1 x2 x3) (nth y0 y1 y2 y3) 0) (addD (nth x0 x1 x2 x3) (nth y0 y1 y2 y3) 1) (addD (nth x0 x1 x2 x3) (nth y0 y1 y2 y3) 2) (addD (nth x0 x1 x2 x3) (nth y0 y1 y2 y3) 3))) ∧
      w'.heap[bc]? = some (.cells #[.int .u64 (addC (nth x0 x1 x2 x3) (nth y0 y1 y2 y3) 4 : Nat)] 41 (0, 0)) ∧ Only (fun k => k = bc) w.heap.size w w' := by
  refine (up_any 139 _ (fun k => k = bc) (CarryS (addD (nth x0 x1 x2 x3) (nth y0 y1 y2 y3)) (addC (nth x0 x1 x2 x3) (nth y0 y1 y2 y3)) bx by' bc (four x0 x1 x2 x3) (four y0 y1 y2 y3)) w
    (fun k hk => hk ▸ lt_of h3) (fun i w => by kernel_rfl) (CarryS.stable (lt_of h1) (lt_of h2) (lt_of h3)) ⟨rfl, h3, h1, h2⟩ ?_).mono ?_
  · rintro k ls wr hk _ _ hs
    refine (plus1_any k hk bx by' bc x0 x1 x2 x3 y0 y1 y2 y3 _ wr hs.2.2.1 hs.2.2.2 hs.2.1 (addC_le hx hy k)).mono ?_
    rintro e w' ⟨rfl, rfl⟩
    exact ⟨_, rfl, hs.step n1 n2, CarryS.only _⟩
  · rintro e w' ⟨r0, r1, r2, r3, rfl, hs, ho⟩
    obtain ⟨rfl, rfl, rfl, rfl⟩ := four_list _ _ _ _ _ hs.1
    exact ⟨rfl, hs.2.1, ho⟩

set_option maxRecDepth 100000 in
set_option maxHeartbeats 400000 in
theorem plus_any (x0 x1 x2 x3 y0 y1 y2 y3 : Nat) (hx : ∀ k, nth x0 x1 x2 x3 k < M64) (hy : ∀ k, nth y0 y1 y2 y3 k < M64) (w : World) :
    Calls Tryz.prog 94 #[.agg (four x0 x1 x2 x3), .agg (four y0 y1 y2 y3)] w fun e w' =>
      e = .returned (.tuple #[.agg (four (addD (nth x0 x1 x2 x3) (nth y0 y1 y2 y3) 0) (addD (nth x0 x1 x2 x3) (nth y0 y1 y2 y3) 1) (addD (nth x0 x1 x2 x3) (nth y0 y1 y2 y3) 2) (addD (nth x0 x1 x2 x3) (nth y0 y1 y2 y3) 3)),
        .int .u64 (addC (nth x0 x1 x2 x3) (nth y0 y1 y2 y3) 4 : Nat)]) ∧ Below w.heap.size w w' := by
  have HX := Lib.hid hx; have HY := Lib.hid hy; clear hx hy
  unfold four
  go_enter Tryz.func94, Tryz.ntmps94
  go_wp2_with fail
  refine (plus_up x0 x1 x2 x3 y0 y1 y2 y3 HX.out HY.out _ _ _ _ (by simp only [heap_alloc_get, alloc_size, Nat.add_assoc, Nat.reduceAdd]; simp [four]) (by simp only [heap_alloc_get, alloc_size, Nat.add_assoc, Nat.reduceAdd]; simp [four]) (by simp only [heap_alloc_get, alloc_size, Nat.add_assoc, Nat.reduceAdd]; simp) (by omega) (by omega)).mono ?_
  rintro e w1 ⟨rfl, hc, hO⟩
  have hr := hO.block (w.heap.size + 1 + 1) (by simp) (by simp)
  simp only [heap_alloc_get, alloc_size] at hr; simp at hr
  have hz := hO.size
  simp at hz
  have hz3 : w.heap.size + 1 + 1 + 1 < w1.heap.size := by omega
  have hz2 : w.heap.size + 1 + 1 < w1.heap.size := by omega
  have hB : Below w.heap.size w w1 := (((((Below.refl _ _).alloc (Nat.le_refl _) _).alloc (by simp) _).alloc (by simp; omega) _).alloc (by simp; omega) _).trans (hO.below (by simp; omega) (by intro k hk; omega))
  clear hO
  have HB := Lib.hid hB; clear hB
  have c0 := cell_of hr 0; have c1 := cell_of hr 1; have c2 := cell_of hr 2; have c3 := cell_of hr 3
  have f0 := free_of hr 0; have f1 := free_of hr 1; have f2 := free_of hr 2; have f3 := free_of hr 3
  have cc := cell_of hc 0
  simp at c0 c1 c2 c3 cc
  have Hr := Lib.hid hr; clear hr hc
  unfold four
  go_wp2_with fail
  go_region
  go_wp2
  refine bodyPost_ret (results_cell_slot Tryz.results94 _ _ _ _ _ _ _ _ rfl rfl ((Below.heap_alloc _ _ _ (by simp; omega)).trans (heap_set4 Hr.out _ _ _ _)) Tryz.underlying183 rfl (by kernel_rfl)) rfl ⟨rfl, ?_⟩
  exact (((((HB.out.setCell (by simp; omega) _).setCell (by simp; omega) _).setCell (by simp; omega) _).setCell (by simp; omega) _).alloc (by simp; omega) _).drew

/-- 'up' over minus's closure, in whatever world. -/
theorem minus_up (x0 x1 x2 x3 y0 y1 y2 y3 : Nat) (bx by' bc : Nat) (w : World)
    (h1 : w.heap[bx]? = some (.cells (four x0 x1 x2 x3) 183 (0, 0))) (h2 : w.heap[by']? = some (.cells (four y0 y1 y2 y3) 183 (0, 0)))
    (h3 : w.heap[bc]? = some (.cells #[.int .u64 0] 41 (0, 0))) (n1 : bx ≠ bc) (n2 : by' ≠ bc) :
    Calls Tryz.prog 136 #[.func (.func 137) #[] #[.pointer (some ⟨bx, 0, none⟩), .pointer (some ⟨by', 0, none⟩), .pointer (some ⟨bc, 0, none⟩)]] w fun e w' =>
      e = .returned (.agg (four (subD (nth x0 x1 x2 x3) (nth y0 y1 y2 y3) 0) (subD (nth x0 x1 x2 x3) (nth y0 y1 y2 y3) 1) (subD (nth x0 x1 x2 x3) (nth y0 y1 y2 y3) 2) (subD (nth x0 x1 x2 x3) (nth y0 y1 y2 y3) 3))) ∧
      w'.heap[bc]? = some (.cells #[.int .u64 (subC (nth x0 x1 x2 x3) (nth y0 y1 y2 y3) 4 : Nat)] 41 (0, 0)) ∧ Only (fun k => k = bc) w.heap.size w w' := by
  refine (up_any 137 _ (fun k => k = bc) (CarryS (subD (nth x0 x1 x2 x3) (nth y0 y1 y2 y3)) (subC (nth x0 x1 x2 x3) (nth y0 y1 y2 y3)) bx by' bc (four x0 x1 x2 x3) (four y0 y1 y2 y3)) w
    (fun k hk => hk ▸ lt_of h3) (fun i w => by kernel_rfl) (CarryS.stable (lt_of h1) (lt_of h2) (lt_of h3)) ⟨rfl, h3, h1, h2⟩ ?_).mono ?_
  · rintro k ls wr hk _ _ hs
    refine (minus1_any k hk bx by' bc x0 x1 x2 x3 y0 y1 y2 y3 _ wr hs.2.2.1 hs.2.2.2 hs.2.1 (subC_le k)).mono ?_
    rintro e w' ⟨rfl, rfl⟩
    exact ⟨_, rfl, hs.step n1 n2, CarryS.only _⟩
  · rintro e w' ⟨r0, r1, r2, r3, rfl, hs, ho⟩
    obtain ⟨rfl, rfl, rfl, rfl⟩ := four_list _ _ _ _ _ hs.1
    exact ⟨rfl, hs.2.1, ho⟩

set_option maxRecDepth 100000 in
set_option maxHeartbeats 400000 in
theorem minus_any (x0 x1 x2 x3 y0 y1 y2 y3 : Nat) (w : World) :
    Calls Tryz.prog 92 #[.agg (four x0 x1 x2 x3), .agg (four y0 y1 y2 y3)] w fun e w' =>
      e = .returned (.tuple #[.agg (four (subD (nth x0 x1 x2 x3) (nth y0 y1 y2 y3) 0) (subD (nth x0 x1 x2 x3) (nth y0 y1 y2 y3) 1) (subD (nth x0 x1 x2 x3) (nth y0 y1 y2 y3) 2) (subD (nth x0 x1 x2 x3) (nth y0 y1 y2 y3) 3)),
        .int .u64 (subC (nth x0 x1 x2 x3) (nth y0 y1 y2 y3) 4 : Nat)]) ∧ Below w.heap.size w w' := by
  unfold four
  go_enter Tryz.func92, Tryz.ntmps92
  go_wp2_with fail
  refine (minus_up x0 x1 x2 x3 y0 y1 y2 y3 _ _ _ _ (by simp only [heap_alloc_get, alloc_size, Nat.add_assoc, Nat.reduceAdd]; simp [four]) (by simp only [heap_alloc_get, alloc_size, Nat.add_assoc, Nat.reduceAdd]; simp [four]) (by simp only [heap_alloc_get, alloc_size, Nat.add_assoc, Nat.reduceAdd]; simp) (by omega) (by omega)).mono ?_
  rintro e w1 ⟨rfl, hc, hO⟩
  have hr := hO.block (w.heap.size + 1 + 1) (by simp) (by simp)
  simp only [heap_alloc_get, alloc_size] at hr; simp at hr
  have hz := hO.size
  simp at hz
  have hz3 : w.heap.size + 1 + 1 + 1 < w1.heap.size := by omega
  have hz2 : w.heap.size + 1 + 1 < w1.heap.size := by omega
  have hB : Below w.heap.size w w1 := (((((Below.refl _ _).alloc (Nat.le_refl _) _).alloc (by simp) _).alloc (by simp; omega) _).alloc (by simp; omega) _).trans (hO.below (by simp; omega) (by intro k hk; omega))
  clear hO
  have HB := Lib.hid hB; clear hB
  have c0 := cell_of hr 0; have c1 := cell_of hr 1; have c2 := cell_of hr 2; have c3 := cell_of hr 3
  have f0 := free_of hr 0; have f1 := free_of hr 1; have f2 := free_of hr 2; have f3 := free_of hr 3
  have cc := cell_of hc 0
  simp at c0 c1 c2 c3 cc
  have Hr := Lib.hid hr; clear hr hc
  unfold four
  go_wp2_with fail
  go_region
  go_wp2
  refine bodyPost_ret (results_cell_slot Tryz.results92 _ _ _ _ _ _ _ _ rfl rfl ((Below.heap_alloc _ _ _ (by simp; omega)).trans (heap_set4 Hr.out _ _ _ _)) Tryz.underlying183 rfl (by kernel_rfl)) rfl ⟨rfl, ?_⟩
  exact (((((HB.out.setCell (by simp; omega) _).setCell (by simp; omega) _).setCell (by simp; omega) _).setCell (by simp; omega) _).alloc (by simp; omega) _).drew


/-- A call that hands back a number of four limbs and a carry. -/
def RetLC (q : Nat → Nat → Prop) (w : World) (e : Ending) (w' : World) : Prop :=
  ∃ s s0 s1 s2 s3 c : Nat, e = .returned (.tuple #[.agg #[.int .u64 s0, .int .u64 s1, .int .u64 s2, .int .u64 s3], .int .u64 c]) ∧ Dig s s0 s1 s2 s3 ∧ q s c ∧ Below w.heap.size w w'

theorem plus_c {x y x0 x1 x2 x3 y0 y1 y2 y3 : Nat} (hx : Dig x x0 x1 x2 x3) (hy : Dig y y0 y1 y2 y3) (w : World) :
    Calls Tryz.prog 94 #[.agg #[.int .u64 x0, .int .u64 x1, .int .u64 x2, .int .u64 x3], .agg #[.int .u64 y0, .int .u64 y1, .int .u64 y2, .int .u64 y3]] w
      (RetLC (fun s c => c ≤ 1 ∧ x + y = s + W256 * c) w) := by
  refine (plus_any x0 x1 x2 x3 y0 y1 y2 y3 hx.nth hy.nth w).mono ?_
  rintro e w' ⟨rfl, hb⟩
  obtain ⟨s, hs, hq⟩ := add_digits hx hy
  exact ⟨s, _, _, _, _, _, rfl, hs, ⟨addC_le hx.nth hy.nth _, hq⟩, hb⟩

theorem minus_c {x y x0 x1 x2 x3 y0 y1 y2 y3 : Nat} (hx : Dig x x0 x1 x2 x3) (hy : Dig y y0 y1 y2 y3) (w : World) :
    Calls Tryz.prog 92 #[.agg #[.int .u64 x0, .int .u64 x1, .int .u64 x2, .int .u64 x3], .agg #[.int .u64 y0, .int .u64 y1, .int .u64 y2, .int .u64 y3]] w
      (RetLC (fun s c => c ≤ 1 ∧ x + W256 * c = s + y) w) := by
  refine (minus_any x0 x1 x2 x3 y0 y1 y2 y3 w).mono ?_
  rintro e w' ⟨rfl, hb⟩
  obtain ⟨s, hs, hq⟩ := sub_digits hx hy
  exact ⟨s, _, _, _, _, _, rfl, hs, ⟨subC_le _, hq⟩, hb⟩

end Go.Proofs.YtekoaheiapddiaaGreat
end
