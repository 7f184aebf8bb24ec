/- Keccak's rounds are one to one. -/
import Derived.Test.YtienelgkdhmelaaDoorKRnd
namespace Go.Proofs.YtienelgkdhmelaaDoor
open Go.RowKit

/-- A number turned left by k, bit by bit. -/
theorem rot_bit {x : Nat} (hx : x < M64) {k : Nat} (hk : k < 64) (i : Nat) (hi : i < 64) : (rotN x k).testBit i = x.testBit ((i + (64 - k)) % 64) := by
  unfold rotN
  rw [Nat.mod_eq_of_lt hk, M64_pow, Nat.testBit_or, Nat.testBit_mod_two_pow, Nat.testBit_mul_two_pow, Nat.testBit_div_two_pow]
  have hout : ∀ j, 64 ≤ j → x.testBit j = false := fun j hj => Nat.testBit_lt_two_pow (Nat.lt_of_lt_of_le (by rw [← M64_pow]; exact hx) (Nat.pow_le_pow_right (by omega) hj))
  by_cases h : k ≤ i
  · have e : (i + (64 - k)) % 64 = i - k := by omega
    rw [e, hout (i + (64 - k)) (by omega)]
    simp [hi, h]
  · have e : (i + (64 - k)) % 64 = i + (64 - k) := by omega
    rw [e]
    simp [h]
theorem rot_mod (x k : Nat) : rotN x k = rotN x (k % 64) := by unfold rotN; rw [Nat.mod_mod]
theorem bits_eq {x y : Nat} (hx : x < M64) (hy : y < M64) (h : ∀ i, i < 64 → x.testBit i = y.testBit i) : x = y := by
  apply Nat.eq_of_testBit_eq
  intro i
  by_cases hi : i < 64
  · exact h i hi
  · rw [Nat.testBit_lt_two_pow (Nat.lt_of_lt_of_le (by rw [← M64_pow]; exact hx) (Nat.pow_le_pow_right (by omega) (by omega : 64 ≤ i))), Nat.testBit_lt_two_pow (Nat.lt_of_lt_of_le (by rw [← M64_pow]; exact hy) (Nat.pow_le_pow_right (by omega) (by omega : 64 ≤ i)))]
theorem rot_inj {x y : Nat} (hx : x < M64) (hy : y < M64) {k : Nat} (h : rotN x k = rotN y k) : x = y := by
  rw [rot_mod x, rot_mod y] at h
  have hk : k % 64 < 64 := Nat.mod_lt _ (by decide)
  refine bits_eq hx hy fun i hi => ?_
  have e : (rotN x (k % 64)).testBit ((i + k % 64) % 64) = (rotN y (k % 64)).testBit ((i + k % 64) % 64) := by rw [h]
  rw [rot_bit hx hk _ (Nat.mod_lt _ (by decide)), rot_bit hy hk _ (Nat.mod_lt _ (by decide)), show ((i + k % 64) % 64 + (64 - k % 64)) % 64 = i by omega] at e
  exact e

/-- Five sequences, each the two beside it, vanish. -/
theorem five_zero (c0 c1 c2 c3 c4 : Nat → Bool) (h0 : ∀ k, c1 (k + 1) = (c0 k ^^ c4 k)) (h1 : ∀ k, c2 (k + 1) = (c1 k ^^ c0 k)) (h2 : ∀ k, c3 (k + 1) = (c2 k ^^ c1 k)) (h3 : ∀ k, c4 (k + 1) = (c3 k ^^ c2 k)) (h4 : ∀ k, c0 (k + 1) = (c4 k ^^ c3 k))
    (hp : ∀ k, c0 (k + 64) = c0 k) : ∀ k, c0 k = false := by
  have a4 : ∀ k, c4 k = (c0 k ^^ c1 (k + 1)) := fun k => by rw [h0]; cases c0 k <;> cases c4 k <;> rfl
  have a3 : ∀ k, c3 k = (c4 k ^^ c0 (k + 1)) := fun k => by rw [h4]; cases c3 k <;> cases c4 k <;> rfl
  have a2 : ∀ k, c2 k = (c3 k ^^ c4 (k + 1)) := fun k => by rw [h3]; cases c3 k <;> cases c2 k <;> rfl
  have a1 : ∀ k, c1 k = (c2 k ^^ c3 (k + 1)) := fun k => by rw [h2]; cases c1 k <;> cases c2 k <;> rfl
  have a0 : ∀ k, c0 k = (c1 k ^^ c2 (k + 1)) := fun k => by rw [h1]; cases c1 k <;> cases c0 k <;> rfl
  have A : ∀ k, (c1 k ^^ c1 (k + 1)) = (c0 k ^^ (c0 (k + 1) ^^ c0 (k + 2))) := fun k => by
    have e := a1 k
    rw [a2 k, a3 k, a3 (k + 1), a4 k, a4 (k + 1)] at e
    generalize c0 k = x0 at *
    generalize c0 (k + 1) = x1 at *
    generalize c0 (k + 1 + 1) = x2 at *
    generalize c1 k = y0 at *
    generalize c1 (k + 1) = y1 at *
    generalize c1 (k + 1 + 1) = y2 at *
    subst e
    cases x0 <;> cases x1 <;> cases x2 <;> cases y1 <;> cases y2 <;> rfl
  have B : ∀ k, (c0 k ^^ c0 (k + 1)) = (c1 k ^^ (c1 (k + 2) ^^ c1 (k + 3))) := fun k => by
    have e := a0 k
    rw [a2 (k + 1), a3 (k + 1), a4 (k + 1), a4 (k + 1 + 1)] at e
    generalize c0 k = x0 at *
    generalize c0 (k + 1) = x1 at *
    generalize c0 (k + 1 + 1) = x2 at *
    generalize c1 k = y0 at *
    generalize c1 (k + 1 + 1) = y2 at *
    generalize c1 (k + 1 + 1 + 1) = y3 at *
    subst e
    cases x1 <;> cases x2 <;> cases y0 <;> cases y2 <;> cases y3 <;> rfl
  have C : ∀ k, c0 (k + 2) = (c0 (k + 1) ^^ c0 (k + 5)) := fun k => by
    have b0 := B k
    have b1 := B (k + 1)
    have e0 := A k
    have e2 := A (k + 2)
    have e3 := A (k + 3)
    simp only [Nat.add_assoc, Nat.reduceAdd] at b0 b1 e0 e2 e3
    generalize c0 k = x0 at *
    generalize c0 (k + 1) = x1 at *
    generalize c0 (k + 2) = x2 at *
    generalize c0 (k + 3) = x3 at *
    generalize c0 (k + 4) = x4 at *
    generalize c0 (k + 5) = x5 at *
    generalize c1 k = y0 at *
    generalize c1 (k + 1) = y1 at *
    generalize c1 (k + 2) = y2 at *
    generalize c1 (k + 3) = y3 at *
    generalize c1 (k + 4) = y4 at *
    clear a0 a1 a2 a3 a4 A B h0 h1 h2 h3 h4 hp
    revert b0 b1 e0 e2 e3
    cases x0 <;> cases x1 <;> cases x2 <;> cases x3 <;> cases x4 <;> cases x5 <;> cases y0 <;> cases y1 <;> cases y2 <;> cases y3 <;> cases y4 <;> decide
  have E : ∀ m k, c0 (k + 1) = (c0 (k + 1 + 2 ^ m) ^^ c0 (k + 1 + 4 * 2 ^ m)) := by
    intro m
    induction m with
    | zero =>
      intro k
      have e := C k
      simp only [Nat.pow_zero, Nat.mul_one, Nat.add_assoc, Nat.reduceAdd]
      rw [e]
      generalize c0 (k + 1) = x1
      generalize c0 (k + 5) = x5
      cases x1 <;> cases x5 <;> rfl
    | succ m ih =>
      intro k
      have e0 := ih k
      have e1 := ih (k + 2 ^ m)
      have e2 := ih (k + 4 * 2 ^ m)
      rw [show k + 2 ^ m + 1 = k + 1 + 2 ^ m by omega, show k + 1 + 2 ^ m + 2 ^ m = k + 1 + 2 ^ (m + 1) by rw [Nat.pow_succ]; omega, show k + 1 + 2 ^ m + 4 * 2 ^ m = k + 1 + 5 * 2 ^ m by omega] at e1
      rw [show k + 4 * 2 ^ m + 1 = k + 1 + 4 * 2 ^ m by omega, show k + 1 + 4 * 2 ^ m + 2 ^ m = k + 1 + 5 * 2 ^ m by omega, show k + 1 + 4 * 2 ^ m + 4 * 2 ^ m = k + 1 + 4 * 2 ^ (m + 1) by rw [Nat.pow_succ]; omega] at e2
      rw [e0, e1, e2]
      generalize c0 (k + 1 + 2 ^ (m + 1)) = x
      generalize c0 (k + 1 + 5 * 2 ^ m) = y
      generalize c0 (k + 1 + 4 * 2 ^ (m + 1)) = z
      cases x <;> cases y <;> cases z <;> rfl
  intro k
  have e := E 6 (k + 63)
  rw [show k + 63 + 1 = k + 64 by omega, show k + 64 + 2 ^ 6 = k + 64 + 64 by omega, show k + 64 + 4 * 2 ^ 6 = k + 64 + 64 + 64 + 64 + 64 by omega] at e
  simp only [hp] at e
  rw [e]
  cases c0 k <;> rfl

/-- The difference of two columns, bit by bit. -/
def dif (f g : Nat → Nat) (x j : Nat) : Bool := (colN f x).testBit (j % 64) ^^ (colN g x).testBit (j % 64)
theorem dif_bit {f g : Nat → Nat} (hf : ∀ i, f i < M64) (hg : ∀ i, g i < M64) (h : Same (mixN f) (mixN g)) {i : Nat} (hi : i < 25) (j : Nat) :
    ((f i).testBit (j % 64) ^^ (g i).testBit (j % 64)) = (dif f g ((i % 5 + 4) % 5) j ^^ dif f g ((i % 5 + 1) % 5) (j + 63)) := by
  have e := congrArg (fun z => Nat.testBit z (j % 64)) (h i hi)
  have hj : j % 64 < 64 := Nat.mod_lt _ (by decide)
  simp only [mixN, besN, Nat.testBit_xor, rot_bit (colN_lt hf _) (show 1 < 64 by decide) _ hj, rot_bit (colN_lt hg _) (show 1 < 64 by decide) _ hj] at e
  rw [show (j % 64 + (64 - 1)) % 64 = (j + 63) % 64 by omega] at e
  unfold dif
  generalize (f i).testBit (j % 64) = a at *
  generalize (g i).testBit (j % 64) = b at *
  generalize (colN f ((i % 5 + 4) % 5)).testBit (j % 64) = c at *
  generalize (colN g ((i % 5 + 4) % 5)).testBit (j % 64) = d at *
  generalize (colN f ((i % 5 + 1) % 5)).testBit ((j + 63) % 64) = p at *
  generalize (colN g ((i % 5 + 1) % 5)).testBit ((j + 63) % 64) = q at *
  revert e
  cases a <;> cases b <;> cases c <;> cases d <;> cases p <;> cases q <;> decide
theorem dif_step {f g : Nat → Nat} (hf : ∀ i, f i < M64) (hg : ∀ i, g i < M64) (h : Same (mixN f) (mixN g)) {x : Nat} (hx : x < 5) (j : Nat) :
    dif f g x j = (dif f g ((x + 4) % 5) j ^^ dif f g ((x + 1) % 5) (j + 63)) := by
  have e0 := dif_bit hf hg h (i := x) (by omega) j
  have e1 := dif_bit hf hg h (i := x + 5) (by omega) j
  have e2 := dif_bit hf hg h (i := x + 10) (by omega) j
  have e3 := dif_bit hf hg h (i := x + 15) (by omega) j
  have e4 := dif_bit hf hg h (i := x + 20) (by omega) j
  rw [show x % 5 = x by omega] at e0
  rw [show (x + 5) % 5 = x by omega] at e1
  rw [show (x + 10) % 5 = x by omega] at e2
  rw [show (x + 15) % 5 = x by omega] at e3
  rw [show (x + 20) % 5 = x by omega] at e4
  generalize (dif f g ((x + 4) % 5) j ^^ dif f g ((x + 1) % 5) (j + 63)) = d at *
  unfold dif colN
  simp only [Nat.testBit_xor]
  generalize (f x).testBit (j % 64) = a0 at *
  generalize (g x).testBit (j % 64) = b0 at *
  generalize (f (x + 5)).testBit (j % 64) = a1 at *
  generalize (g (x + 5)).testBit (j % 64) = b1 at *
  generalize (f (x + 10)).testBit (j % 64) = a2 at *
  generalize (g (x + 10)).testBit (j % 64) = b2 at *
  generalize (f (x + 15)).testBit (j % 64) = a3 at *
  generalize (g (x + 15)).testBit (j % 64) = b3 at *
  generalize (f (x + 20)).testBit (j % 64) = a4 at *
  generalize (g (x + 20)).testBit (j % 64) = b4 at *
  have r0 : a0 = (b0 ^^ d) := by rw [← e0]; cases a0 <;> cases b0 <;> rfl
  have r1 : a1 = (b1 ^^ d) := by rw [← e1]; cases a1 <;> cases b1 <;> rfl
  have r2 : a2 = (b2 ^^ d) := by rw [← e2]; cases a2 <;> cases b2 <;> rfl
  have r3 : a3 = (b3 ^^ d) := by rw [← e3]; cases a3 <;> cases b3 <;> rfl
  have r4 : a4 = (b4 ^^ d) := by rw [← e4]; cases a4 <;> cases b4 <;> rfl
  rw [r0, r1, r2, r3, r4]
  clear e0 e1 e2 e3 e4 r0 r1 r2 r3 r4
  cases b0 <;> cases b1 <;> cases b2 <;> cases b3 <;> cases b4 <;> cases d <;> rfl
theorem dif_mod (f g : Nat → Nat) (x : Nat) {i j : Nat} (h : i % 64 = j % 64) : dif f g x i = dif f g x j := by unfold dif; rw [h]
theorem dif_zero {f g : Nat → Nat} (hf : ∀ i, f i < M64) (hg : ∀ i, g i < M64) (h : Same (mixN f) (mixN g)) {x : Nat} (hx : x < 5) (j : Nat) : dif f g x j = false := by
  have st : ∀ y, y < 5 → ∀ k, dif f g ((y + 1) % 5) (j + 63 * (k + 1)) = (dif f g y (j + 63 * k) ^^ dif f g ((y + 4) % 5) (j + 63 * k)) := fun y hy k => by
    rw [dif_step hf hg h hy (j + 63 * k), show j + 63 * (k + 1) = j + 63 * k + 63 by omega]
    generalize dif f g ((y + 4) % 5) (j + 63 * k) = a
    generalize dif f g ((y + 1) % 5) (j + 63 * k + 63) = b
    cases a <;> cases b <;> rfl
  have hm : ∀ a, a < 5 → a % 5 = a := fun a ha => Nat.mod_eq_of_lt ha
  have z := five_zero (fun k => dif f g x (j + 63 * k)) (fun k => dif f g ((x + 1) % 5) (j + 63 * k)) (fun k => dif f g ((x + 2) % 5) (j + 63 * k)) (fun k => dif f g ((x + 3) % 5) (j + 63 * k)) (fun k => dif f g ((x + 4) % 5) (j + 63 * k))
    (fun k => st x hx k)
    (fun k => by have e := st ((x + 1) % 5) (Nat.mod_lt _ (by decide)) k; rwa [show ((x + 1) % 5 + 1) % 5 = (x + 2) % 5 by omega, show ((x + 1) % 5 + 4) % 5 = x by omega] at e)
    (fun k => by have e := st ((x + 2) % 5) (Nat.mod_lt _ (by decide)) k; rwa [show ((x + 2) % 5 + 1) % 5 = (x + 3) % 5 by omega, show ((x + 2) % 5 + 4) % 5 = (x + 1) % 5 by omega] at e)
    (fun k => by have e := st ((x + 3) % 5) (Nat.mod_lt _ (by decide)) k; rwa [show ((x + 3) % 5 + 1) % 5 = (x + 4) % 5 by omega, show ((x + 3) % 5 + 4) % 5 = (x + 2) % 5 by omega] at e)
    (fun k => by have e := st ((x + 4) % 5) (Nat.mod_lt _ (by decide)) k; rwa [show ((x + 4) % 5 + 1) % 5 = x by omega, show ((x + 4) % 5 + 4) % 5 = (x + 3) % 5 by omega] at e)
    (fun k => dif_mod f g x (by omega)) 0
  simpa using z
theorem mix_inj {f g : Nat → Nat} (hf : ∀ i, f i < M64) (hg : ∀ i, g i < M64) (h : Same (mixN f) (mixN g)) : Same f g := fun i hi => by
  refine bits_eq (hf i) (hg i) fun j hj => ?_
  have e := dif_bit hf hg h hi j
  rw [dif_zero hf hg h (Nat.mod_lt _ (by decide)), dif_zero hf hg h (Nat.mod_lt _ (by decide)), Nat.mod_eq_of_lt hj] at e
  revert e
  generalize (f i).testBit j = a
  generalize (g i).testBit j = b
  cases a <;> cases b <;> decide
theorem pr_onto : ∀ j < 25, j ≠ 0 → ∃ t < 24, pr t = j := by decide +kernel
theorem mov_inj {f g : Nat → Nat} (hf : ∀ i, f i < M64) (hg : ∀ i, g i < M64) (h : Same (movN f) (movN g)) : Same f g := fun j hj => by
  by_cases h0 : j = 0
  · subst h0
    have e := h 0 (by omega)
    unfold movN movF at e
    rw [if_neg (by decide), if_neg (by decide)] at e
    exact e
  · obtain ⟨t, ht, rfl⟩ := pr_onto j hj h0
    obtain ⟨h1, h2, _⟩ := wk_facts t ht
    have e := h (wk t) h1
    unfold movN movF at e
    rw [h2, if_pos ht, if_pos ht] at e
    exact rot_inj (hf _) (hg _) e
theorem chi_inj : ∀ a b c d e a' b' c' d' e' : Bool, (a ^^ (!b && c)) = (a' ^^ (!b' && c')) → (b ^^ (!c && d)) = (b' ^^ (!c' && d')) → (c ^^ (!d && e)) = (c' ^^ (!d' && e')) → (d ^^ (!e && a)) = (d' ^^ (!e' && a')) → (e ^^ (!a && b)) = (e' ^^ (!a' && b')) →
    a = a' ∧ b = b' ∧ c = c' ∧ d = d' ∧ e = e' := by decide +kernel
theorem ann_bit {b : Nat} (hb : b < M64) (c : Nat) {j : Nat} (hj : j < 64) : (annN c b).testBit j = (!b.testBit j && c.testBit j) := by
  unfold annN
  rw [Nat.testBit_and, M64_pow, show 2 ^ 64 - 1 - b = 2 ^ 64 - (b + 1) by omega, Nat.testBit_two_pow_sub_succ (by rw [← M64_pow]; exact hb)]
  simp [hj]
theorem bnd_bit {f g : Nat → Nat} (hf : ∀ i, f i < M64) (hg : ∀ i, g i < M64) (h : Same (bndN f) (bndN g)) {i : Nat} (hi : i < 25) {j : Nat} (hj : j < 64) :
    ((f i).testBit j ^^ (!(f ((i % 5 + 1) % 5 + 5 * (i / 5))).testBit j && (f ((i % 5 + 2) % 5 + 5 * (i / 5))).testBit j)) = ((g i).testBit j ^^ (!(g ((i % 5 + 1) % 5 + 5 * (i / 5))).testBit j && (g ((i % 5 + 2) % 5 + 5 * (i / 5))).testBit j)) := by
  have e := congrArg (fun z => Nat.testBit z j) (h i hi)
  simpa only [bndN, Nat.testBit_xor, ann_bit (hf _) _ hj, ann_bit (hg _) _ hj] using e
theorem bnd_inj {f g : Nat → Nat} (hf : ∀ i, f i < M64) (hg : ∀ i, g i < M64) (h : Same (bndN f) (bndN g)) : Same f g := fun i hi => by
  refine bits_eq (hf i) (hg i) fun j hj => ?_
  have hy : i / 5 < 5 := by omega
  have hx : i = i % 5 + 5 * (i / 5) := by omega
  have e0 := bnd_bit hf hg h (i := 5 * (i / 5)) (by omega) hj
  have e1 := bnd_bit hf hg h (i := 5 * (i / 5) + 1) (by omega) hj
  have e2 := bnd_bit hf hg h (i := 5 * (i / 5) + 2) (by omega) hj
  have e3 := bnd_bit hf hg h (i := 5 * (i / 5) + 3) (by omega) hj
  have e4 := bnd_bit hf hg h (i := 5 * (i / 5) + 4) (by omega) hj
  have hr : i % 5 = 0 ∨ i % 5 = 1 ∨ i % 5 = 2 ∨ i % 5 = 3 ∨ i % 5 = 4 := by omega
  generalize i / 5 = y at *
  rw [show (5 * y % 5 + 1) % 5 + 5 * (5 * y / 5) = 5 * y + 1 by omega, show (5 * y % 5 + 2) % 5 + 5 * (5 * y / 5) = 5 * y + 2 by omega] at e0
  rw [show ((5 * y + 1) % 5 + 1) % 5 + 5 * ((5 * y + 1) / 5) = 5 * y + 2 by omega, show ((5 * y + 1) % 5 + 2) % 5 + 5 * ((5 * y + 1) / 5) = 5 * y + 3 by omega] at e1
  rw [show ((5 * y + 2) % 5 + 1) % 5 + 5 * ((5 * y + 2) / 5) = 5 * y + 3 by omega, show ((5 * y + 2) % 5 + 2) % 5 + 5 * ((5 * y + 2) / 5) = 5 * y + 4 by omega] at e2
  rw [show ((5 * y + 3) % 5 + 1) % 5 + 5 * ((5 * y + 3) / 5) = 5 * y + 4 by omega, show ((5 * y + 3) % 5 + 2) % 5 + 5 * ((5 * y + 3) / 5) = 5 * y by omega] at e3
  rw [show ((5 * y + 4) % 5 + 1) % 5 + 5 * ((5 * y + 4) / 5) = 5 * y by omega, show ((5 * y + 4) % 5 + 2) % 5 + 5 * ((5 * y + 4) / 5) = 5 * y + 1 by omega] at e4
  obtain ⟨q0, q1, q2, q3, q4⟩ := chi_inj _ _ _ _ _ _ _ _ _ _ e0 e1 e2 e3 e4
  rcases hr with r | r | r | r | r <;> rw [r] at hx <;> rw [hx] <;> first | (rw [show 0 + 5 * y = 5 * y by omega]; exact q0) | (rw [show 1 + 5 * y = 5 * y + 1 by omega]; exact q1) | (rw [show 2 + 5 * y = 5 * y + 2 by omega]; exact q2) | (rw [show 3 + 5 * y = 5 * y + 3 by omega]; exact q3) | (rw [show 4 + 5 * y = 5 * y + 4 by omega]; exact q4)
theorem pre_inj {f g : Nat → Nat} (hf : ∀ i, f i < M64) (hg : ∀ i, g i < M64) (h : Same (preN f) (preN g)) : Same f g :=
  mix_inj hf hg (mov_inj (mixN_lt hf) (mixN_lt hg) (bnd_inj (movF_lt (mixN_lt hf) 24) (movF_lt (mixN_lt hg) 24) h))
theorem rnd_inj {f g : Nat → Nat} (hf : ∀ i, f i < M64) (hg : ∀ i, g i < M64) {c : Nat} (h : Same (rndN f c) (rndN g c)) : Same f g := by
  refine pre_inj hf hg fun i hi => ?_
  have e := h i hi
  unfold rndN upd at e
  by_cases h0 : i = 0
  · subst h0
    rw [if_pos rfl, if_pos rfl] at e
    have e2 := congrArg (· ^^^ c) e
    simpa [Nat.xor_assoc] using e2
  · rw [if_neg h0, if_neg h0] at e
    exact e
theorem st_inj {f g : Nat → Nat} (hf : ∀ i, f i < M64) (hg : ∀ i, g i < M64) : ∀ k, Same (stN f k) (stN g k) → Same f g
  | 0, h => h
  | k + 1, h => st_inj hf hg k (rnd_inj (stN_lt hf k) (stN_lt hg k) h)
end Go.Proofs.YtienelgkdhmelaaDoor
