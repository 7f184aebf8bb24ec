/- Plain arithmetic of quotients: no program. -/
import Derived.Test.YthbfhfgmanafpaaNum
import Derived.Lib.BitFns
import Derived.Lib.ItoaNum
namespace Go.Proofs.Ythbfhfgmanafpaa
open Go.RowKit

/-- The guess of a quotient's limb, from the two highest limbs r3, r2 and the divisor's highest one d3. -/
def guessOf (r3 r2 d3 : Nat) : Nat := if r3 < d3 then (r3 * M64 + r2) / d3 else M64 - 1

theorem quot_lt {r n d : Nat} (hr : r < d) (hn : n < M64) : (r * M64 + n) / d < M64 := by
  have hd : 0 < d := by omega
  rw [Nat.div_lt_iff_lt_mul hd]
  have h : (r + 1) * M64 ≤ d * M64 := Nat.mul_le_mul_right _ hr
  rw [Nat.mul_comm M64 d]
  rw [Nat.add_mul] at h
  omega

/-- A guess is right, or too great by 1 or 2. -/
theorem guess_near {r n d r0 r1 r2 r3 d0 d1 d2 d3 : Nat} (hr : Dig r r0 r1 r2 r3) (hd : Dig d d0 d1 d2 d3) (hlt : r < d) (hn : n < M64) (hd3 : M64 / 2 ≤ d3) :
    guessOf r3 r2 d3 < M64 ∧ (r * M64 + n) / d ≤ guessOf r3 r2 d3 ∧ guessOf r3 r2 d3 ≤ (r * M64 + n) / d + 2 := by
  have hq := quot_lt hlt hn
  have hdp : 0 < d := by omega
  have e1 := Nat.div_add_mod (r * M64 + n) d
  have e2 := Nat.mod_lt (r * M64 + n) hdp
  generalize hq0 : (r * M64 + n) / d = q at *
  generalize (r * M64 + n) % d = s at *
  clear hq0
  obtain ⟨h0, h1, h2, h3, rfl⟩ := hr
  obtain ⟨g0, g1, g2, g3, rfl⟩ := hd
  have hd3p : 0 < d3 := by unfold M64 at hd3; omega
  have m1 : (d0 + M64 * (d1 + M64 * (d2 + M64 * d3))) * q = d0 * q + M64 * (d1 * q + M64 * (d2 * q + M64 * (d3 * q))) := by
    simp only [Nat.add_mul, Nat.mul_assoc]
  rw [m1] at e1
  have b0 : d0 * q ≤ M64 * q := Nat.mul_le_mul_right _ (by omega)
  have b1 : d1 * q ≤ M64 * q := Nat.mul_le_mul_right _ (by omega)
  have low : d0 * q + M64 * (d1 * q + M64 * (d2 * q)) ≤ (M64 * M64 * M64 - 1) * q := by
    have : d0 * q + M64 * (d1 * q + M64 * (d2 * q)) = (d0 + M64 * (d1 + M64 * d2)) * q := by simp only [Nat.add_mul, Nat.mul_assoc]
    rw [this]
    refine Nat.mul_le_mul_right _ ?_
    clear b0 b1 m1 e1 e2 hlt hdp hq hd3 hn
    unfold M64 at *
    omega
  have low' : (M64 * M64 * M64 - 1) * q + q = M64 * M64 * M64 * q := by
    rw [Nat.sub_mul, Nat.one_mul]
    have : q ≤ M64 * M64 * M64 * q := Nat.le_mul_of_pos_left q (by unfold M64; omega)
    omega
  unfold guessOf
  split
  · rename_i hlt3
    have hg : (r3 * M64 + r2) / d3 < M64 := quot_lt hlt3 h2
    have f1 := Nat.div_add_mod (r3 * M64 + r2) d3
    have f2 := Nat.mod_lt (r3 * M64 + r2) hd3p
    refine ⟨hg, ?_, ?_⟩
    · rw [Nat.le_div_iff_mul_le hd3p, Nat.mul_comm q]
      generalize d3 * q = p at *
      generalize d0 * q = p0 at *
      generalize d1 * q = p1 at *
      generalize d2 * q = p2 at *
      clear hg f1 f2
      unfold M64 at *
      omega
    · generalize hgd : (r3 * M64 + r2) / d3 = g at *
      clear hgd
      rcases Nat.lt_or_ge (q + 2) g with hlt2 | hle
      · exfalso
        have k1 : d3 * (q + 3) ≤ d3 * g := Nat.mul_le_mul_left _ hlt2
        rw [Nat.mul_add] at k1
        generalize d3 * g = pg at *
        generalize (r3 * M64 + r2) % d3 = sm at *
        generalize d3 * q = p at *
        generalize d0 * q = p0 at *
        generalize d1 * q = p1 at *
        generalize d2 * q = p2 at *
        generalize (M64 * M64 * M64 - 1) * q = mq at *
        clear hlt hlt3 hg b0 b1 m1
        unfold M64 at *
        omega
      · exact hle
  · rename_i hge
    refine ⟨by unfold M64; omega, by omega, ?_⟩
    rcases Nat.lt_or_ge (q + 2) (M64 - 1) with hlt2 | hle
    · exfalso
      have k1 : d3 * (q + 4) ≤ d3 * M64 := Nat.mul_le_mul_left _ (by omega)
      rw [Nat.mul_add] at k1
      generalize d3 * q = p at *
      generalize d0 * q = p0 at *
      generalize d1 * q = p1 at *
      generalize d2 * q = p2 at *
      generalize (M64 * M64 * M64 - 1) * q = mq at *
      clear b0 b1 m1
      unfold M64 at *
      omega
    · exact hle

/-- What is left below the quotient's limb q + t: kept above 0 by twice 2^256. -/
def leftOf (r d t : Nat) : Nat := r + 2 * W256 - t * d
def aboveOf (x : Nat) : Nat := (x / W256 + M64 - 2) % M64

theorem above_start {r n d q t p o s b r0 r1 r2 r3 : Nat} (hr : Dig r r0 r1 r2 r3) (ht : t ≤ 2) (hd : d < W256)
    (hq : d * q + s = r * M64 + n) (hs : s < d) (hp : d * (q + t) = p + W256 * o) 
    {l : Nat} (hl : l < W256) (hl' : n + M64 * (r0 + M64 * (r1 + M64 * r2)) + W256 * b = l + p) :
    l = leftOf s d t % W256 ∧ (r3 + M64 + M64 - o - b) % M64 = aboveOf (leftOf s d t) := by
  obtain ⟨h0, h1, h2, h3, rfl⟩ := hr
  have e : d * (q + t) = d * q + t * d := by rw [Nat.mul_add, Nat.mul_comm d t]
  rw [e] at hp
  have ht' : t * d ≤ 2 * d := Nat.mul_le_mul_right _ ht
  unfold leftOf aboveOf
  generalize t * d = td at *
  generalize d * q = dq at *
  clear e ht
  unfold W256 M64 at *
  omega

theorem above_zero {s d t : Nat} (hs : s < d) (hd : d < W256) (ht : t ≤ 2) : aboveOf (leftOf s d t) = 0 ↔ t = 0 := by
  unfold aboveOf leftOf
  have : t = 0 ∨ t = 1 ∨ t = 2 := by omega
  rcases this with rfl | rfl | rfl
  · simp; unfold W256 M64 at *; omega
  · simp; unfold W256 M64 at *; omega
  · simp; unfold W256 M64 at *; omega

theorem above_step {s d t l c l' : Nat} (hs : s < d) (hd : d < W256) (ht : t + 1 ≤ 2) (hl : l = leftOf s d (t + 1) % W256) (hl' : l' < W256) (h : l + d = l' + W256 * c) :
    l' = leftOf s d t % W256 ∧ (aboveOf (leftOf s d (t + 1)) + c) % M64 = aboveOf (leftOf s d t) := by
  subst hl
  unfold aboveOf leftOf at *
  have : t = 0 ∨ t = 1 := by omega
  rcases this with rfl | rfl
  · simp at h ⊢; unfold W256 M64 at *; omega
  · simp at h ⊢; unfold W256 M64 at *; omega

/-- The trial quotient of Div64's halves: q and r with q*y1 + r = u. -/
theorem trial_start {u v y1 y0 : Nat} (h1 : 0 < y1) (hv : v < 4294967296) : (u * 4294967296 + v) / (y1 * 4294967296 + y0) ≤ u / y1 := by
  have hY : 0 < y1 * 4294967296 + y0 := by omega
  have e := Nat.div_add_mod u y1
  have m := Nat.mod_lt u h1
  refine Nat.le_of_lt_succ ((Nat.div_lt_iff_lt_mul hY).2 ?_)
  generalize u / y1 = q at *
  rw [Nat.succ_eq_add_one, Nat.add_mul, Nat.mul_add, Nat.one_mul, ← Nat.mul_assoc, Nat.mul_comm q y1]
  generalize y1 * q = p at *
  generalize q * y0 = p0 at *
  omega
theorem trial_lt {u v Y : Nat} (hu : u < Y) (hv : v < 4294967296) : (u * 4294967296 + v) / Y < 4294967296 := by
  rw [Nat.div_lt_iff_lt_mul (by omega)]
  omega
theorem trial_down {u v y1 y0 q r p0 : Nat} (hp0 : q * y0 = p0) (hq : y1 * q + r = u) (hu : u < y1 * 4294967296 + y0) (hv : v < 4294967296) (h : 4294967296 ≤ q ∨ 4294967296 * r + v < p0) :
    (u * 4294967296 + v) / (y1 * 4294967296 + y0) ≤ q - 1 ∧ 1 ≤ q := by
  have hY : 0 < y1 * 4294967296 + y0 := by omega
  have hlt : (u * 4294967296 + v) / (y1 * 4294967296 + y0) < q := by
    rcases h with h | h
    · exact Nat.lt_of_lt_of_le (trial_lt hu hv) h
    · rw [Nat.div_lt_iff_lt_mul hY, Nat.mul_add, ← Nat.mul_assoc, Nat.mul_comm q y1, hp0]
      generalize y1 * q = p at *
      omega
  exact ⟨Nat.le_sub_one_of_lt hlt, Nat.lt_of_le_of_lt (Nat.zero_le _) hlt⟩
theorem trial_done {u v y1 y0 q r p0 : Nat} (hp0 : q * y0 = p0) (hq : y1 * q + r = u) (hY : 0 < y1 * 4294967296 + y0) (hT : (u * 4294967296 + v) / (y1 * 4294967296 + y0) ≤ q) (h : p0 ≤ 4294967296 * r + v) :
    q = (u * 4294967296 + v) / (y1 * 4294967296 + y0) := by
  refine Nat.le_antisymm ((Nat.le_div_iff_mul_le hY).2 ?_) hT
  rw [Nat.mul_add, ← Nat.mul_assoc, Nat.mul_comm q y1, hp0]
  generalize y1 * q = p at *
  omega
theorem trial_far {u v y1 y0 q r : Nat} (hq : y1 * q + r = u) (hu : u < y1 * 4294967296 + y0) (h0 : y0 < 4294967296) (hT : (u * 4294967296 + v) / (y1 * 4294967296 + y0) ≤ q) (h : 4294967296 ≤ r) :
    q = (u * 4294967296 + v) / (y1 * 4294967296 + y0) := by
  have h1 : y1 * q < y1 * 4294967296 := by omega
  have h2 : q < 4294967296 := Nat.lt_of_mul_lt_mul_left h1
  refine trial_done rfl hq (by omega) hT ?_
  have : q * y0 ≤ q * 4294967296 := Nat.mul_le_mul_left _ (by omega)
  omega
theorem trial_step {y1 q r u : Nat} (hq : y1 * q + r = u) (h1 : 1 ≤ q) : y1 * (q - 1) + (r + y1) = u := by
  obtain ⟨q, rfl⟩ : ∃ k, q = k + 1 := ⟨q - 1, by omega⟩
  rw [Nat.mul_add] at hq
  simp only [Nat.add_sub_cancel]
  omega
theorem rest_of {u v Y : Nat} (hY : 0 < Y) : (u * 4294967296 + v) / Y * Y + (u * 4294967296 + v) % Y = u * 4294967296 + v ∧ (u * 4294967296 + v) % Y < Y := by
  refine ⟨?_, Nat.mod_lt _ hY⟩
  rw [Nat.mul_comm]; exact Nat.div_add_mod _ _

/-- The quotient by halves. -/
theorem halves {t un0 Y : Nat} (hY : 0 < Y) : t / Y * 4294967296 + (t % Y * 4294967296 + un0) / Y = (t * 4294967296 + un0) / Y := by
  have e := Nat.div_add_mod t Y
  generalize t / Y = q at e ⊢
  generalize t % Y = r at e ⊢
  rw [show t * 4294967296 + un0 = (r * 4294967296 + un0) + Y * (q * 4294967296) by rw [← Nat.mul_assoc, ← e]; omega, Nat.add_mul_div_left _ _ hY, Nat.add_comm]

/-- y moved left until its highest bit is set. -/
theorem bitLen_top {y : Nat} (h0 : y ≠ 0) (hy : y < M64) : Lib.bitLen y ≤ 64 ∧ 1 ≤ Lib.bitLen y ∧ 2 ^ (Lib.bitLen y - 1) ≤ y ∧ y < 2 ^ Lib.bitLen y := by
  have h64 : y < 2 ^ 64 := by rw [show (2 : Nat) ^ 64 = M64 from rfl]; exact hy
  have h := Lib.bitLenAux_bounds 64 y h64 h0
  exact ⟨Lib.bitLen_le y 64 (by omega) h64, h.1, h.2.1, h.2.2⟩
theorem top_bit {y s : Nat} (h0 : y ≠ 0) (hy : y < M64) (hs : s + Lib.bitLen y = 64) : s < 64 ∧ M64 / 2 ≤ y * 2 ^ s ∧ y * 2 ^ s < M64 := by
  obtain ⟨a, b, c, d⟩ := bitLen_top h0 hy
  refine ⟨by omega, ?_, ?_⟩
  · have := Nat.mul_le_mul_right (2 ^ s) c
    rw [← Nat.pow_add, show Lib.bitLen y - 1 + s = 63 by omega] at this
    exact this
  · have := Nat.mul_lt_mul_of_pos_right d (Nat.pow_pos (n := s) (show 0 < 2 by decide))
    rw [← Nat.pow_add, show Lib.bitLen y + s = 64 by omega] at this
    exact this

/-- A number's highest limb that is not 0 tells how far it can be moved. -/
theorem lead_of {a x l k : Nat} (hk : k ≤ 3) (ha : a = x * M64 ^ (3 - k) + l) (hl : l < M64 ^ (3 - k)) (h0 : x ≠ 0) (hx : x < M64) {z : Nat} (hz : z + Lib.bitLen x = 64 * k + 64) :
    z ≤ 255 ∧ W256 / 2 ≤ a * 2 ^ z ∧ a * 2 ^ z < W256 := by
  obtain ⟨b1, b2, b3, b4⟩ := bitLen_top h0 hx
  have eM : M64 ^ (3 - k) = 2 ^ (64 * (3 - k)) := by rw [show M64 = 2 ^ 64 from rfl, ← Nat.pow_mul]
  have hp : 0 < 2 ^ z := Nat.pow_pos (by decide)
  refine ⟨by omega, ?_, ?_⟩
  · have h1 : 2 ^ (Lib.bitLen x - 1) * M64 ^ (3 - k) ≤ a := by
      have := Nat.mul_le_mul_right (M64 ^ (3 - k)) b3
      omega
    have h2 := Nat.mul_le_mul_right (2 ^ z) h1
    rw [eM, ← Nat.pow_add, ← Nat.pow_add, show Lib.bitLen x - 1 + 64 * (3 - k) + z = 255 by omega] at h2
    exact h2
  · have h1 : a < 2 ^ Lib.bitLen x * M64 ^ (3 - k) := by
      have := Nat.mul_le_mul_right (M64 ^ (3 - k)) b4
      rw [Nat.succ_mul] at this
      omega
    have h2 := Nat.mul_lt_mul_of_pos_right h1 hp
    rw [eM, ← Nat.pow_add, ← Nat.pow_add, show Lib.bitLen x + 64 * (3 - k) + z = 256 by omega] at h2
    exact h2

end Go.Proofs.Ythbfhfgmanafpaa
