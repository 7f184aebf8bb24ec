/- CRC-32 as plain numbers: sums moved by bits, by bytes; what is linear, and one to one, in them. -/
import Derived.Test.YtialfpkmcafkmaaGreatKText
namespace Go.Proofs.YtialfpkmcafkmaaGreat
open Go.RowKit

/-- What is xored in; a sum of 32 bits moved by one bit 0, by k of them. -/
def P32 : Nat := 3988292384
def mv (s : Nat) : Nat := s / 2 ^^^ (s % 2) * P32
def mvk : Nat → Nat → Nat
  | 0, s => s
  | k + 1, s => mv (mvk k s)

theorem xor_half (a b : Nat) : (a ^^^ b) / 2 = a / 2 ^^^ b / 2 := by
  have := Nat.shiftRight_xor_distrib (a := a) (b := b) (i := 1)
  simpa [Nat.shiftRight_eq_div_pow] using this
theorem xor_par (a b : Nat) : (a ^^^ b) % 2 = (a % 2) ^^^ (b % 2) := Nat.xor_mod_two_pow (n := 1)
theorem mv_xor (a b : Nat) : mv (a ^^^ b) = mv a ^^^ mv b := by
  unfold mv
  rw [xor_half, xor_par]
  have e : ((a % 2) ^^^ (b % 2)) * P32 = (a % 2) * P32 ^^^ (b % 2) * P32 := by
    rcases Nat.mod_two_eq_zero_or_one a with e | e <;> rcases Nat.mod_two_eq_zero_or_one b with f | f <;> rw [e, f] <;> simp
  rw [e]
  generalize a % 2 * P32 = x
  generalize b % 2 * P32 = y
  rw [Nat.xor_assoc, Nat.xor_assoc, ← Nat.xor_assoc (b / 2), Nat.xor_comm (b / 2) x, Nat.xor_assoc]
theorem mv_lt {s : Nat} (h : s < 2 ^ 32) : mv s < 2 ^ 32 := by
  refine Nat.xor_lt_two_pow (by omega) ?_
  rcases Nat.mod_two_eq_zero_or_one s with e | e <;> rw [e] <;> decide
theorem mv_even (y : Nat) : mv (y * 2) = y := by
  unfold mv
  rw [Nat.mul_div_cancel _ (by decide), Nat.mul_mod_left]
  simp
theorem mv_nil {s : Nat} (h : s < 2 ^ 32) (e : mv s = 0) : s = 0 := by
  rcases Nat.mod_two_eq_zero_or_one s with f | f
  · unfold mv at e
    rw [f, Nat.zero_mul, Nat.xor_zero] at e
    omega
  · exfalso
    unfold mv at e
    rw [f, Nat.one_mul] at e
    have h1 : (s / 2 ^^^ P32).testBit 31 = true := by
      rw [Nat.testBit_xor, Nat.testBit_lt_two_pow (show s / 2 < 2 ^ 31 by omega)]
      decide
    rw [e] at h1
    simp at h1
theorem mvk_xor (k a b : Nat) : mvk k (a ^^^ b) = mvk k a ^^^ mvk k b := by
  induction k with
  | zero => rfl
  | succ k ih => rw [mvk, mvk, mvk, ih, mv_xor]
theorem mvk_lt (k : Nat) {s : Nat} (h : s < 2 ^ 32) : mvk k s < 2 ^ 32 := by
  induction k with
  | zero => exact h
  | succ k ih => exact mv_lt ih
theorem mvk_nil (k : Nat) {s : Nat} (h : s < 2 ^ 32) (e : mvk k s = 0) : s = 0 := by
  induction k with
  | zero => exact e
  | succ k ih => exact ih (mv_nil (mvk_lt k h) e)
theorem mvk_zero (k : Nat) : mvk k 0 = 0 := by
  induction k with
  | zero => rfl
  | succ k ih => rw [mvk, ih]; decide
theorem mvk_up (k y : Nat) : mvk k (y * 2 ^ k) = y := by
  induction k generalizing y with
  | zero => simp [mvk]
  | succ k ih => rw [mvk, Nat.pow_succ, Nat.mul_comm (2 ^ k), ← Nat.mul_assoc, ih, mv_even]
theorem mvk_add (j k s : Nat) : mvk (j + k) s = mvk j (mvk k s) := by
  induction j with
  | zero => simp [mvk]
  | succ j ih => rw [Nat.succ_add, mvk, mvk, ih]
theorem parted (x k : Nat) : x = x / 2 ^ k * 2 ^ k ^^^ x % 2 ^ k := by
  apply Nat.eq_of_testBit_eq
  intro i
  rw [Nat.testBit_xor, Nat.testBit_mod_two_pow, ← Nat.shiftLeft_eq, Nat.testBit_shiftLeft, ← Nat.shiftRight_eq_div_pow, Nat.testBit_shiftRight]
  by_cases h : i < k
  · simp [h, Nat.not_le.2 h]
  · simp [h, Nat.not_lt.1 h]
theorem mvk_part (k x : Nat) : mvk k x = x / 2 ^ k ^^^ mvk k (x % 2 ^ k) := by
  conv => lhs; rw [parted x k, mvk_xor, mvk_up]
theorem xor_self_nil {a b : Nat} (h : a ^^^ b = 0) : a = b := by
  have := congrArg (· ^^^ b) h
  simpa [Nat.xor_assoc] using this

/-- The sum i moved on by n bytes. -/
def cf (i : Nat) (g : Nat → Nat) : Nat → Nat
  | 0 => i
  | n + 1 => mvk 8 (cf i g n ^^^ g n)
theorem cf_lt {i : Nat} (hi : i < 2 ^ 32) {g : Nat → Nat} (hg : ∀ j, g j < 256) (n : Nat) : cf i g n < 2 ^ 32 := by
  induction n with
  | zero => exact hi
  | succ n ih => exact mvk_lt 8 (Nat.xor_lt_two_pow ih (Nat.lt_trans (hg n) (by decide)))
theorem cf_congr {i : Nat} {f g : Nat → Nat} {n : Nat} (h : ∀ j, j < n → f j = g j) : cf i f n = cf i g n := by
  induction n with
  | zero => rfl
  | succ n ih => rw [cf, cf, ih fun j hj => h j (by omega), h n (by omega)]
theorem cf_add (i : Nat) (g : Nat → Nat) (m n : Nat) : cf i g (m + n) = cf (cf i g m) (fun j => g (m + j)) n := by
  induction n with
  | zero => rfl
  | succ n ih => rw [← Nat.add_assoc, cf, cf, ih]
theorem xor_swap (a b c d : Nat) : a ^^^ b ^^^ (c ^^^ d) = (a ^^^ c) ^^^ (b ^^^ d) := by
  rw [Nat.xor_assoc, Nat.xor_assoc, ← Nat.xor_assoc b, Nat.xor_comm b c, Nat.xor_assoc]
theorem cf_xor (a b : Nat) (f g : Nat → Nat) (n : Nat) : cf (a ^^^ b) (fun j => f j ^^^ g j) n = cf a f n ^^^ cf b g n := by
  induction n with
  | zero => rfl
  | succ n ih => rw [cf, cf, cf, ih, xor_swap, mvk_xor]
theorem cf_nil (n : Nat) : cf 0 (fun _ => 0) n = 0 := by
  induction n with
  | zero => rfl
  | succ n ih => rw [cf, ih]; exact mvk_zero 8
/-- What is moved on by bytes 0 alone is 0 only if it was. -/
theorem cf_past {i : Nat} (hi : i < 2 ^ 32) (n : Nat) (e : cf i (fun _ => 0) n = 0) : i = 0 := by
  induction n with
  | zero => exact e
  | succ n ih =>
    rw [cf, Nat.xor_zero] at e
    exact ih (mvk_nil 8 (cf_lt hi (fun _ => by decide) n) e)
/-- Up to four bytes alone, not all 0, move 0 to what is not 0. -/
def pack (g : Nat → Nat) : Nat → Nat
  | 0 => 0
  | n + 1 => pack g n ^^^ g n * 2 ^ (8 * n)
theorem pack_lt {g : Nat → Nat} (hg : ∀ j, g j < 256) (n : Nat) : pack g n < 2 ^ (8 * n) := by
  induction n with
  | zero => show 0 < 1; decide
  | succ n ih =>
    refine Nat.xor_lt_two_pow (Nat.lt_of_lt_of_le ih (Nat.pow_le_pow_right (by decide) (by omega))) ?_
    rw [Nat.mul_succ, Nat.pow_add, Nat.mul_comm]
    exact Nat.mul_lt_mul_of_pos_left (hg n) (Nat.two_pow_pos _)
theorem pack_nil {g : Nat → Nat} (hg : ∀ j, g j < 256) {n : Nat} (e : pack g n = 0) : ∀ j, j < n → g j = 0 := by
  induction n with
  | zero => intro j hj; omega
  | succ n ih =>
    have h1 := xor_self_nil e
    have h2 := pack_lt hg n
    have h3 : g n = 0 := by
      rcases Nat.eq_zero_or_pos (g n) with h | h
      · exact h
      · have : 2 ^ (8 * n) ≤ g n * 2 ^ (8 * n) := Nat.le_mul_of_pos_left _ h
        omega
    rw [h3, Nat.zero_mul] at h1
    intro j hj
    rcases Nat.lt_succ_iff_lt_or_eq.1 hj with h | rfl
    · exact ih h1 j h
    · exact h3
theorem cf_pack {g : Nat → Nat} (n : Nat) : cf 0 g n = mvk (8 * n) (pack g n) := by
  induction n with
  | zero => rfl
  | succ n ih =>
    have h : mvk (8 * n) (g n * 2 ^ (8 * n)) = g n := mvk_up _ _
    rw [cf, ih, pack, Nat.mul_succ, Nat.add_comm (8 * n) 8, mvk_add, mvk_xor (8 * n), h]
theorem cf_short {g : Nat → Nat} (hg : ∀ j, g j < 256) {n : Nat} (hn : n ≤ 4) (e : cf 0 g n = 0) : ∀ j, j < n → g j = 0 := by
  refine pack_nil hg ?_
  rw [cf_pack] at e
  exact mvk_nil _ (Nat.lt_of_lt_of_le (pack_lt hg n) (Nat.pow_le_pow_right (by decide) (by omega))) e

/-- A sum gone on with. -/
def F32 : Nat := 4294967295
def moreN (sum : Nat) (g : Nat → Nat) (n : Nat) : Nat := F32 ^^^ cf (F32 ^^^ sum) g n
theorem moreN_lt {sum : Nat} (h : sum < 2 ^ 32) {g : Nat → Nat} (hg : ∀ j, g j < 256) (n : Nat) : moreN sum g n < 2 ^ 32 :=
  Nat.xor_lt_two_pow (by decide) (cf_lt (Nat.xor_lt_two_pow (by decide) h) hg n)
theorem xor_twice (a b : Nat) : a ^^^ (a ^^^ b) = b := by rw [← Nat.xor_assoc, Nat.xor_self, Nat.zero_xor]
theorem moreN_add (g : Nat → Nat) (m n sum : Nat) : moreN (moreN sum g m) (fun j => g (m + j)) n = moreN sum g (m + n) := by
  unfold moreN
  rw [xor_twice, cf_add]
theorem moreN_zero (g : Nat → Nat) (sum : Nat) : moreN sum g 0 = sum := xor_twice _ _
theorem moreN_xor (f g h : Nat → Nat) (n : Nat) : moreN 0 (fun j => f j ^^^ g j ^^^ h j) n = moreN 0 f n ^^^ moreN 0 g n ^^^ moreN 0 h n := by
  unfold moreN
  have e : F32 ^^^ 0 = (F32 ^^^ 0) ^^^ (F32 ^^^ 0) ^^^ (F32 ^^^ 0) := by decide
  have k : cf (F32 ^^^ 0) (fun j => f j ^^^ g j ^^^ h j) n = cf (F32 ^^^ 0) f n ^^^ cf (F32 ^^^ 0) g n ^^^ cf (F32 ^^^ 0) h n := by
    conv => lhs; rw [e]
    rw [cf_xor _ _ (fun j => f j ^^^ g j) h, cf_xor]
  rw [k]
  generalize cf (F32 ^^^ 0) f n = x
  generalize cf (F32 ^^^ 0) g n = y
  generalize cf (F32 ^^^ 0) h n = z
  rw [xor_swap F32 x F32 y, Nat.xor_self, Nat.zero_xor, ← Nat.xor_assoc, Nat.xor_comm F32 (x ^^^ y), Nat.xor_assoc (x ^^^ y)]
/-- Texts that differ in up to four bytes in a row from k on: the same sum just if they are the same. -/
theorem moreN_turn {f g : Nat → Nat} (hf : ∀ j, f j < 256) (hg : ∀ j, g j < 256) {k m n : Nat} (hm : m ≤ 4) (hn : k + m ≤ n) (hout : ∀ j, j < n → (j < k ∨ k + m ≤ j) → f j = g j)
    (e : moreN 0 f n = moreN 0 g n) : ∀ j, j < n → f j = g j := by
  have e1 : cf (F32 ^^^ 0) f n = cf (F32 ^^^ 0) g n := by
    have := congrArg (F32 ^^^ ·) e
    simpa [moreN, xor_twice] using this
  have e2 : cf 0 (fun j => f j ^^^ g j) n = 0 := by
    have := cf_xor (F32 ^^^ 0) (F32 ^^^ 0) f g n
    rw [Nat.xor_self, e1, Nat.xor_self] at this
    exact this
  have hb : ∀ j, f j ^^^ g j < 256 := fun j => Nat.xor_lt_two_pow (n := 8) (hf j) (hg j)
  obtain ⟨r, rfl⟩ : ∃ r, n = k + (m + r) := ⟨n - k - m, by omega⟩
  rw [cf_add] at e2
  have e3 : cf 0 (fun j => f j ^^^ g j) k = 0 := by
    rw [cf_congr (g := fun _ => 0) fun j hj => by show f j ^^^ g j = 0; rw [hout j (by omega) (Or.inl hj), Nat.xor_self]]
    exact cf_nil k
  rw [e3, cf_add] at e2
  rw [cf_congr (n := r) (g := fun _ => 0) fun j hj => by show f (k + (m + j)) ^^^ g (k + (m + j)) = 0; rw [hout _ (by omega) (Or.inr (by omega)), Nat.xor_self]] at e2
  have e4 := cf_past (cf_lt (by decide) (fun j => hb _) m) r e2
  have e5 := cf_short (fun j => hb _) hm e4
  intro j hj
  by_cases h1 : j < k
  · exact hout j hj (Or.inl h1)
  · by_cases h2 : k + m ≤ j
    · exact hout j hj (Or.inr h2)
    · have := e5 (j - k) (by omega)
      rw [show k + (j - k) = j by omega] at this
      exact xor_self_nil this
end Go.Proofs.YtialfpkmcafkmaaGreat
