/- The numbers of the reference's rounds. -/
import Derived.Test.YtienelgkdhmelaaDoorKRefB
import Derived.Test.YtienelgkdhmelaaDoorKRnd
import Derived.Test.YtienelgkdhmelaaDoorKEql
namespace Go.Proofs.YtienelgkdhmelaaDoor
open Go.RowKit

/-- A row of numbers that was made behind a world. -/
structure NR (n : Nat) (v : World) (f : Nat → Nat) (W : World) : Prop where
  below : Below v.heap.size v W
  row : W.heap[v.heap.size]? = some (.cells (blk .u64 n f) 26 (0, 0))
theorem NR.start (n : Nat) (v : World) (f : Nat → Nat) (hf : ∀ j, j < n → (0 : Nat) = f j) : NR n v f (v.alloc (.cells (blk .u64 n fun _ => 0) 26)) :=
  ⟨(Below.refl _ _).alloc (Nat.le_refl _) _, by rw [heap_last _ rfl, blk_congr .u64 hf]⟩
theorem NR.drew {n : Nat} {v : World} {f : Nat → Nat} {W : World} (h : NR n v f W) : NR n v f W.drew := ⟨h.below.drew, h.row⟩
theorem NR.drewN {n : Nat} {v : World} {f : Nat → Nat} {W : World} (h : NR n v f W) (m : Nat) : NR n v f (W.drewN m) := ⟨⟨h.below.os, h.below.tape, h.below.output, h.below.size, h.below.block⟩, h.row⟩
theorem NR.set {n : Nat} {v : World} {f g : Nat → Nat} {W : World} (h : NR n v f W) (j x : Nat) (hg : ∀ i, i < n → upd f j x i = g i) : NR n v g (W.setCell ⟨v.heap.size, j, none⟩ (.int .u64 (x : Int))) := by
  refine ⟨h.below.setCell (Nat.le_refl _) _, ?_⟩
  rw [heap_setCell_same _ _ _ _ _ _ h.row, blk_set]
  congr 2
  exact blk_congr _ hg
theorem NR.congr {n : Nat} {v : World} {f g : Nat → Nat} {W : World} (h : NR n v f W) (hg : ∀ i, i < n → f i = g i) : NR n v g W := ⟨h.below, by rw [h.row, blk_congr .u64 hg]⟩
theorem NR.cell {n : Nat} {v : World} {f : Nat → Nat} {W : World} (h : NR n v f W) {j : Nat} (hj : j < n) : W.cell? ⟨v.heap.size, j, none⟩ = some (.int .u64 (f j : Nat)) := (cell_of h.row j).trans (blk_at _ _ hj)

/-- The columns behind k lanes. -/
def colP (f : Nat → Nat) : Nat → Nat → Nat
  | 0 => fun _ => 0
  | k + 1 => upd (colP f k) (k % 5) (colP f k (k % 5) ^^^ f k)
theorem colP_lt {f : Nat → Nat} (hf : ∀ i, f i < M64) : ∀ k j, colP f k j < M64
  | 0, _ => by show 0 < M64; decide
  | k + 1, j => by
    show upd _ _ _ _ < _
    unfold upd
    split
    · exact xor_lt (colP_lt hf k _) (hf k)
    · exact colP_lt hf k j
theorem colP_end (f : Nat → Nat) {j : Nat} (hj : j < 5) : colP f 25 j = colN f j := by
  rcases (by omega : j = 0 ∨ j = 1 ∨ j = 2 ∨ j = 3 ∨ j = 4) with rfl | rfl | rfl | rfl | rfl <;> simp [colP, upd, colN]

/-- Where the step k writes; which step writes i. -/
def dstN (k : Nat) : Nat := k % 5 + 5 * ((2 * (k / 5) + 3 * (k % 5)) % 5)
def srcN (k : Nat) : Nat := k / 5 + 5 * (k % 5)
def posL : List Nat := [0, 6, 12, 18, 24, 15, 21, 2, 8, 14, 5, 11, 17, 23, 4, 20, 1, 7, 13, 19, 10, 16, 22, 3, 9]
def posN (i : Nat) : Nat := posL.getD i 99
theorem posN_facts : ∀ k < 25, dstN k < 25 ∧ srcN k < 25 ∧ posN (dstN k) = k := by decide +kernel
theorem posN_back : ∀ i < 25, posN i < 25 ∧ dstN (posN i) = i := by decide +kernel
theorem mov_facts : ∀ k < 25, (ix (dstN k) < 24 → pr (ix (dstN k)) = srcN k ∧ (ix (dstN k) + 1) * (ix (dstN k) + 2) / 2 % 64 = rotT 24 (srcN k) % 64) ∧ (¬ ix (dstN k) < 24 → srcN k = dstN k ∧ rotT 24 (srcN k) = 0) := by decide +kernel
theorem rotN_zero {x : Nat} (hx : x < M64) : rotN x 0 = x := by
  unfold rotN
  rw [show x * 2 ^ (0 % 64) = x by simp, Nat.mod_eq_of_lt hx, show x / 2 ^ (64 - 0 % 64) = 0 from Nat.div_eq_of_lt (by rw [M64_pow] at hx; exact hx), Nat.or_zero]
theorem rotN_mod (x : Nat) {k m : Nat} (h : k % 64 = m % 64) : rotN x k = rotN x m := by unfold rotN; rw [h]
theorem mov_at {g : Nat → Nat} (hg : ∀ i, g i < M64) {k : Nat} (hk : k < 25) : movN g (dstN k) = rotN (g (srcN k)) (rotT 24 (srcN k)) := by
  obtain ⟨h1, h2⟩ := mov_facts k hk
  unfold movN movF
  by_cases e : ix (dstN k) < 24
  · rw [if_pos e, (h1 e).1, rotN_mod _ (h1 e).2]
  · rw [if_neg e, (h2 e).2, (h2 e).1, rotN_zero (hg _)]
def bT (g : Nat → Nat) (k i : Nat) : Nat := if posN i < k then movN g i else 0
theorem bT_step {g : Nat → Nat} (hg : ∀ i, g i < M64) {k : Nat} (hk : k < 25) {j : Nat} (hj : j < 25) : upd (bT g k) (dstN k) (rotN (g (srcN k)) (rotT 24 (srcN k))) j = bT g (k + 1) j := by
  obtain ⟨_, _, h3⟩ := posN_facts k hk
  unfold upd bT
  by_cases e : j = dstN k
  · rw [if_pos e, e, h3, if_pos (by omega), mov_at hg hk]
  · have hne : posN j ≠ k := fun h => e (by rw [← h, (posN_back j hj).2])
    rw [if_neg e]
    by_cases e2 : posN j < k
    · rw [if_pos e2, if_pos (by omega)]
    · rw [if_neg e2, if_neg (by omega)]
theorem bT_end (g : Nat → Nat) {j : Nat} (hj : j < 25) : bT g 25 j = movN g j := if_pos (posN_back j hj).1
def oT (g : Nat → Nat) (k i : Nat) : Nat := if 5 * (i % 5) + i / 5 < k then bndN g i else 0
theorem oT_step (g : Nat → Nat) {k : Nat} (hk : k < 25) {j : Nat} (hj : j < 25) : upd (oT g k) (srcN k) (bndN g (srcN k)) j = oT g (k + 1) j := by
  unfold upd oT srcN
  by_cases e : j = k / 5 + 5 * (k % 5)
  · rw [if_pos e, e, if_pos (by omega)]
  · rw [if_neg e]
    by_cases e2 : 5 * (j % 5) + j / 5 < k
    · rw [if_pos e2, if_pos (by omega)]
    · rw [if_neg e2, if_neg (by omega)]
theorem oT_end (g : Nat → Nat) {j : Nat} (hj : j < 25) : oT g 25 j = bndN g j := if_pos (by omega)
theorem mix_at (f : Nat → Nat) (k : Nat) : f (srcN k) ^^^ colN f ((k / 5 + 4) % 5) ^^^ rotN (colN f ((k / 5 + 1) % 5)) 1 = mixN f (k / 5 + 5 * (k % 5)) := by
  unfold mixN besN srcN
  rw [Nat.xor_assoc, show (k / 5 + 5 * (k % 5)) % 5 = k / 5 % 5 by omega, show (k / 5 % 5 + 4) % 5 = (k / 5 + 4) % 5 by omega, show (k / 5 % 5 + 1) % 5 = (k / 5 + 1) % 5 by omega]
theorem not64 {b : Nat} (hb : b < M64) : Go.bits .xor .u64 (if IntKind.u64.signed = true then -1 else IntKind.u64.max) (b : Int) = ((M64 - 1 - b : Nat) : Int) := by
  have h := xor64 (x := M64 - 1) (y := b) (by decide) hb
  have e : (M64 - 1) ^^^ b = M64 - 1 - b := by
    have h1 : (BitVec.allOnes 64 ^^^ BitVec.ofNat 64 b).toNat = (~~~ BitVec.ofNat 64 b).toNat := by rw [BitVec.allOnes_xor]
    rw [BitVec.toNat_xor, BitVec.toNat_not, BitVec.toNat_allOnes, BitVec.toNat_ofNat, Nat.mod_eq_of_lt (by rw [M64_pow] at hb; exact hb)] at h1
    exact h1
  rw [e] at h
  exact h
end Go.Proofs.YtienelgkdhmelaaDoor
