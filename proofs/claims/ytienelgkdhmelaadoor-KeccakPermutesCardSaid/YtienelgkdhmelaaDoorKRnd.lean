/- Keccak's rounds by tables of numbers. -/
import Derived.Test.YtienelgkdhmelaaDoorKTurn
namespace Go.Proofs.YtienelgkdhmelaaDoor
open Go.RowKit

def getL (l : List Nat) (i : Nat) : Nat := l.getD i 0
def tab (f : Nat → Nat) : List Nat := (List.range 25).map f
theorem tab_get (f : Nat → Nat) {i : Nat} (hi : i < 25) : getL (tab f) i = f i := by simp [getL, tab, hi]
def Same (f g : Nat → Nat) : Prop := ∀ i, i < 25 → f i = g i
theorem Same.refl (f : Nat → Nat) : Same f f := fun _ _ => rfl
theorem Same.symm {f g : Nat → Nat} (h : Same f g) : Same g f := fun i hi => (h i hi).symm
theorem Same.trans {f g h : Nat → Nat} (a : Same f g) (b : Same g h) : Same f h := fun i hi => (a i hi).trans (b i hi)
theorem Same.col {f g : Nat → Nat} (h : Same f g) {x : Nat} (hx : x < 5) : colN f x = colN g x := by
  unfold colN; rw [h x (by omega), h (x + 5) (by omega), h (x + 10) (by omega), h (x + 15) (by omega), h (x + 20) (by omega)]
theorem Same.mix {f g : Nat → Nat} (h : Same f g) : Same (mixN f) (mixN g) := fun i hi => by
  unfold mixN besN; rw [h i hi, h.col (by omega), h.col (by omega)]
theorem Same.mov {f g : Nat → Nat} (h : Same f g) : Same (movN f) (movN g) := fun i hi => by
  unfold movN movF
  by_cases e : ix i < 24
  · rw [if_pos e, if_pos e, h _ (wk_facts _ e).2.2]
  · rw [if_neg e, if_neg e, h i hi]
theorem Same.bnd {f g : Nat → Nat} (h : Same f g) : Same (bndN f) (bndN g) := fun i hi => by
  unfold bndN; rw [h i hi, h _ (by omega), h _ (by omega)]
theorem Same.pre {f g : Nat → Nat} (h : Same f g) : Same (preN f) (preN g) := h.mix.mov.bnd
theorem Same.rnd {f g : Nat → Nat} (h : Same f g) (c : Nat) : Same (rndN f c) (rndN g c) := fun i hi => by
  unfold rndN upd; rw [h.pre 0 (by omega), h.pre i hi]
theorem Same.st {f g : Nat → Nat} (h : Same f g) : ∀ k, Same (stN f k) (stN g k)
  | 0 => h
  | k + 1 => (Same.st h k).rnd _
theorem Same.lit {f : Nat → Nat} {l l' : List Nat} (h : Same f (getL l)) {c : Nat} (hc : tab (rndN (getL l) c) = l') : Same (rndN f c) (getL l') := by
  subst hc
  exact (h.rnd c).trans fun i hi => (tab_get _ hi).symm
theorem Same.of_tab {f : Nat → Nat} {l : List Nat} (h : tab f = l) : Same f (getL l) := by
  subst h
  exact fun i hi => (tab_get _ hi).symm
theorem rk_0 : rk 0 = 1 := rfl
theorem rk_1 : rk 1 = 128 := by
  have h : rk 1 = rg (rk 0) 7 := rfl
  rw [h, rk_0]
  decide +kernel
theorem rk_2 : rk 2 = 216 := by
  have h : rk 2 = rg (rk 1) 7 := rfl
  rw [h, rk_1]
  decide +kernel
theorem rk_3 : rk 3 = 26 := by
  have h : rk 3 = rg (rk 2) 7 := rfl
  rw [h, rk_2]
  decide +kernel
theorem rk_4 : rk 4 = 223 := by
  have h : rk 4 = rg (rk 3) 7 := rfl
  rw [h, rk_3]
  decide +kernel
theorem rk_5 : rk 5 = 9 := by
  have h : rk 5 = rg (rk 4) 7 := rfl
  rw [h, rk_4]
  decide +kernel
theorem rk_6 : rk 6 = 53 := by
  have h : rk 6 = rg (rk 5) 7 := rfl
  rw [h, rk_5]
  decide +kernel
theorem rk_7 : rk 7 = 79 := by
  have h : rk 7 = rg (rk 6) 7 := rfl
  rw [h, rk_6]
  decide +kernel
theorem rk_8 : rk 8 = 202 := by
  have h : rk 8 = rg (rk 7) 7 := rfl
  rw [h, rk_7]
  decide +kernel
theorem rk_9 : rk 9 = 112 := by
  have h : rk 9 = rg (rk 8) 7 := rfl
  rw [h, rk_8]
  decide +kernel
theorem rk_10 : rk 10 = 65 := by
  have h : rk 10 = rg (rk 9) 7 := rfl
  rw [h, rk_9]
  decide +kernel
theorem rk_11 : rk 11 = 236 := by
  have h : rk 11 = rg (rk 10) 7 := rfl
  rw [h, rk_10]
  decide +kernel
theorem rk_12 : rk 12 = 213 := by
  have h : rk 12 = rg (rk 11) 7 := rfl
  rw [h, rk_11]
  decide +kernel
theorem rk_13 : rk 13 = 205 := by
  have h : rk 13 = rg (rk 12) 7 := rfl
  rw [h, rk_12]
  decide +kernel
theorem rk_14 : rk 14 = 99 := by
  have h : rk 14 = rg (rk 13) 7 := rfl
  rw [h, rk_13]
  decide +kernel
theorem rk_15 : rk 15 = 171 := by
  have h : rk 15 = rg (rk 14) 7 := rfl
  rw [h, rk_14]
  decide +kernel
theorem rk_16 : rk 16 = 170 := by
  have h : rk 16 = rg (rk 15) 7 := rfl
  rw [h, rk_15]
  decide +kernel
theorem rk_17 : rk 17 = 42 := by
  have h : rk 17 = rg (rk 16) 7 := rfl
  rw [h, rk_16]
  decide +kernel
theorem rk_18 : rk 18 = 242 := by
  have h : rk 18 = rg (rk 17) 7 := rfl
  rw [h, rk_17]
  decide +kernel
theorem rk_19 : rk 19 = 232 := by
  have h : rk 19 = rg (rk 18) 7 := rfl
  rw [h, rk_18]
  decide +kernel
theorem rk_20 : rk 20 = 55 := by
  have h : rk 20 = rg (rk 19) 7 := rfl
  rw [h, rk_19]
  decide +kernel
theorem rk_21 : rk 21 = 62 := by
  have h : rk 21 = rg (rk 20) 7 := rfl
  rw [h, rk_20]
  decide +kernel
theorem rk_22 : rk 22 = 11 := by
  have h : rk 22 = rg (rk 21) 7 := rfl
  rw [h, rk_21]
  decide +kernel
theorem rk_23 : rk 23 = 68 := by
  have h : rk 23 = rg (rk 22) 7 := rfl
  rw [h, rk_22]
  decide +kernel
theorem rk_24 : rk 24 = 142 := by
  have h : rk 24 = rg (rk 23) 7 := rfl
  rw [h, rk_23]
  decide +kernel
theorem rc_0 : cn (rk 0) 7 = 1 := by rw [rk_0]; decide +kernel
theorem rc_1 : cn (rk 1) 7 = 32898 := by rw [rk_1]; decide +kernel
theorem rc_2 : cn (rk 2) 7 = 9223372036854808714 := by rw [rk_2]; decide +kernel
theorem rc_3 : cn (rk 3) 7 = 9223372039002292224 := by rw [rk_3]; decide +kernel
theorem rc_4 : cn (rk 4) 7 = 32907 := by rw [rk_4]; decide +kernel
theorem rc_5 : cn (rk 5) 7 = 2147483649 := by rw [rk_5]; decide +kernel
theorem rc_6 : cn (rk 6) 7 = 9223372039002292353 := by rw [rk_6]; decide +kernel
theorem rc_7 : cn (rk 7) 7 = 9223372036854808585 := by rw [rk_7]; decide +kernel
theorem rc_8 : cn (rk 8) 7 = 138 := by rw [rk_8]; decide +kernel
theorem rc_9 : cn (rk 9) 7 = 136 := by rw [rk_9]; decide +kernel
theorem rc_10 : cn (rk 10) 7 = 2147516425 := by rw [rk_10]; decide +kernel
theorem rc_11 : cn (rk 11) 7 = 2147483658 := by rw [rk_11]; decide +kernel
theorem rc_12 : cn (rk 12) 7 = 2147516555 := by rw [rk_12]; decide +kernel
theorem rc_13 : cn (rk 13) 7 = 9223372036854775947 := by rw [rk_13]; decide +kernel
theorem rc_14 : cn (rk 14) 7 = 9223372036854808713 := by rw [rk_14]; decide +kernel
theorem rc_15 : cn (rk 15) 7 = 9223372036854808579 := by rw [rk_15]; decide +kernel
theorem rc_16 : cn (rk 16) 7 = 9223372036854808578 := by rw [rk_16]; decide +kernel
theorem rc_17 : cn (rk 17) 7 = 9223372036854775936 := by rw [rk_17]; decide +kernel
theorem rc_18 : cn (rk 18) 7 = 32778 := by rw [rk_18]; decide +kernel
theorem rc_19 : cn (rk 19) 7 = 9223372039002259466 := by rw [rk_19]; decide +kernel
theorem rc_20 : cn (rk 20) 7 = 9223372039002292353 := by rw [rk_20]; decide +kernel
theorem rc_21 : cn (rk 21) 7 = 9223372036854808704 := by rw [rk_21]; decide +kernel
theorem rc_22 : cn (rk 22) 7 = 2147483649 := by rw [rk_22]; decide +kernel
theorem rc_23 : cn (rk 23) 7 = 9223372039002292232 := by rw [rk_23]; decide +kernel
end Go.Proofs.YtienelgkdhmelaaDoor
