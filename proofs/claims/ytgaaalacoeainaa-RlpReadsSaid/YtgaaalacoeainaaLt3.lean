/- How long the items of at most 60 parts are. -/
import Derived.Test.YtgaaalacoeainaaLt2
namespace Go.Proofs.Ytgaaalacoeainaa
open Go.RowKit

theorem encT_le {s : List UInt8} (h : s.length ≤ 300) : (encT s).length ≤ 303 := by
  have h1 := hd_len 128 s.length
  have h2 := num_length_le (n := s.length) 2 (by simp; omega)
  unfold encT hdT
  rw [List.length_append]
  split
  · simp; omega
  · omega
theorem fo_enc (x : It) (r : Fo) : (x.fo r).enc = x.enc ++ r.enc := by cases x <;> rfl
/-- What parts make: so many of them, and no longer. -/
def MadeOk (p : List (Nat × List UInt8) → It × Nat) : Prop := ∀ l, l.length ≤ 60 → (l ≠ [] → 1 ≤ (p l).2 ∧ (p l).1.enc.length ≤ 310 * (p l).2) ∧ (p l).2 ≤ l.length
theorem madeL_le {p : List (Nat × List UInt8) → It × Nat} (hp : MadeOk p) : ∀ (c : Nat) (l : List (Nat × List UInt8)), l.length ≤ 60 → (madeL p c l).1.enc.length ≤ 310 * (madeL p c l).2 ∧ (madeL p c l).2 ≤ l.length := by
  intro c
  induction c with
  | zero => intro l _; simp [madeL, Fo.enc]
  | succ c ih =>
    intro l hl
    cases l with
    | nil => simp [madeL, Fo.enc]
    | cons b l =>
      obtain ⟨h1, h2⟩ := hp (b :: l) hl
      obtain ⟨h3, h4⟩ := h1 (by simp)
      obtain ⟨h5, h6⟩ := ih ((b :: l).drop (p (b :: l)).2) (by rw [List.length_drop]; omega)
      rw [List.length_drop] at h6
      have e1 : (madeL p (c + 1) (b :: l)).1 = (p (b :: l)).1.fo (madeL p c ((b :: l).drop (p (b :: l)).2)).1 := rfl
      have e2 : (madeL p (c + 1) (b :: l)).2 = (p (b :: l)).2 + (madeL p c ((b :: l).drop (p (b :: l)).2)).2 := rfl
      rw [e1, e2, fo_enc, List.length_append]
      omega
theorem madeP_le : ∀ d, MadeOk (madeP d) := by
  intro d
  induction d with
  | zero =>
    intro l hl
    cases l with
    | nil => exact ⟨fun h => absurd rfl h, Nat.le_refl _⟩
    | cons b l =>
      have h := encT_le (s := b.2.take 300) (by rw [List.length_take]; omega)
      exact ⟨fun _ => ⟨Nat.le_refl _, Nat.le_trans h (by show 303 ≤ 310 * 1; omega)⟩, by show 1 ≤ _; simp⟩
  | succ d ih =>
    intro l hl
    cases l with
    | nil => exact ⟨fun h => absurd rfl h, Nat.le_refl _⟩
    | cons b l =>
      obtain ⟨k, s⟩ := b
      by_cases hk : k % 2 = 0
      · have e : madeP (d + 1) ((k, s) :: l) = (.text (s.take 300), 1) := by simp [madeP, hk]
        have h := encT_le (s := s.take 300) (by rw [List.length_take]; omega)
        rw [e]
        exact ⟨fun _ => ⟨Nat.le_refl _, Nat.le_trans h (by show 303 ≤ 310 * 1; omega)⟩, by show 1 ≤ _; simp⟩
      · have e : madeP (d + 1) ((k, s) :: l) = (.list (madeL (madeP d) (k / 2 % 5) l).1, 1 + (madeL (madeP d) (k / 2 % 5) l).2) := by simp [madeP, hk]
        obtain ⟨h1, h2⟩ := madeL_le ih (k / 2 % 5) l (by simp at hl; omega)
        rw [e]
        have h3 := hd_len 192 (madeL (madeP d) (k / 2 % 5) l).1.enc.length
        have h4 := num_length_le (n := (madeL (madeP d) (k / 2 % 5) l).1.enc.length) 2 (by simp at hl ⊢; omega)
        refine ⟨fun _ => ⟨by show 1 ≤ 1 + _; omega, ?_⟩, by show 1 + _ ≤ _; simp; omega⟩
        show (hd 192 _ ++ _).length ≤ 310 * (1 + _)
        rw [List.length_append]
        omega
theorem madeP_enc (d : Nat) (l : List (Nat × List UInt8)) (hl : l.length ≤ 60) : (madeP d l).1.enc.length ≤ 18600 := by
  obtain ⟨h1, h2⟩ := madeP_le d l hl
  cases l with
  | nil =>
    have e : madeP d [] = (.text [], 0) := by cases d <;> rfl
    rw [e]; decide
  | cons b l => have := (h1 (by simp)).2; omega
end Go.Proofs.Ytgaaalacoeainaa
