/- What is cut off is no item; the items of parts. -/
import Derived.Test.YtgaaalacoeainaaLt1
namespace Go.Proofs.Ytgaaalacoeainaa
open Go.RowKit

theorem itemP_one : ∀ (d : Nat) (s : List UInt8) (f : Fo) (r : List UInt8), itemP d s = some (f, r) → ∃ x : It, f = x.fo .nil := by
  intro d s f r h
  cases d with
  | zero => cases h
  | succ d =>
    change itemS (itemP d) s = _ at h
    cases s with
    | nil => cases h
    | cons b s =>
      simp only [itemS] at h
      split at h
      · obtain ⟨h1, _⟩ := Prod.mk.inj (Option.some.inj h)
        exact ⟨.text [b], h1.symm⟩
      · split at h
        · cases hbd : bodyP (b.toNat - 128) s with
          | none => rw [hbd] at h; simp [textS] at h
          | some q =>
            obtain ⟨x, r'⟩ := q
            rw [hbd] at h
            simp only [textS] at h
            split at h
            · cases h
            · obtain ⟨h1, _⟩ := Prod.mk.inj (Option.some.inj h)
              exact ⟨.text x, h1.symm⟩
        · cases hbd : bodyP (b.toNat - 192) s with
          | none => rw [hbd] at h; simp [listS] at h
          | some q =>
            obtain ⟨x, r'⟩ := q
            rw [hbd] at h
            simp only [listS] at h
            split at h
            · cases h
            · next g _ =>
              obtain ⟨h1, _⟩ := Prod.mk.inj (Option.some.inj h)
              exact ⟨.list g, h1.symm⟩
theorem decP_cut (x : It) (hx : x.enc.length < M64) (n : Nat) (hn : n < x.enc.length) : decP (x.enc.take n) = none := by
  cases hd : decP (x.enc.take n) with
  | none => rfl
  | some f =>
    exfalso
    have he := decP_enc hd
    unfold decP at hd
    split at hd
    · next g hg =>
      injection hd with hd
      subst hd
      obtain ⟨y, rfl⟩ := itemP_one _ _ _ _ hg
      rw [It.enc_fo'] at he
      have h1 : x.enc ++ [] = y.enc ++ x.enc.drop n := by rw [he, List.append_nil, List.take_append_drop]
      have h2 := itemP_it (x.dep + y.dep) x [] hx
      have h3 := itemP_it (x.dep + y.dep) y (x.enc.drop n) (by rw [he, List.length_take]; omega)
      rw [if_pos (by omega)] at h2 h3
      rw [h1, h3] at h2
      obtain ⟨_, h4⟩ := Prod.mk.inj (Option.some.inj h2)
      have := congrArg List.length h4
      simp at this
      omega
    · cases hd
/-- The items of parts: so many of them, each out of what is left. -/
def madeL (p : List (Nat × List UInt8) → It × Nat) : Nat → List (Nat × List UInt8) → Fo × Nat
  | 0, _ => (.nil, 0)
  | _ + 1, [] => (.nil, 0)
  | c + 1, l => (((p l).1).fo (madeL p c (l.drop (p l).2)).1, (p l).2 + (madeL p c (l.drop (p l).2)).2)
/-- The item of parts, that may stand in so many lists more; how many of them it took. -/
def madeP : Nat → List (Nat × List UInt8) → It × Nat
  | _, [] => (.text [], 0)
  | 0, (_, s) :: _ => (.text (s.take 300), 1)
  | d + 1, (k, s) :: t => if k % 2 = 0 then (.text (s.take 300), 1) else (.list (madeL (madeP d) (k / 2 % 5) t).1, 1 + (madeL (madeP d) (k / 2 % 5) t).2)
theorem madeL_dep {p : List (Nat × List UInt8) → It × Nat} {d : Nat} (hp : ∀ l, (p l).1.dep ≤ d) : ∀ (c : Nat) (l : List (Nat × List UInt8)), (madeL p c l).1.dep ≤ d := by
  intro c
  induction c with
  | zero => intro l; simp [madeL, Fo.dep]
  | succ c ih =>
    intro l
    cases l with
    | nil => simp [madeL, Fo.dep]
    | cons b l =>
      have h1 := hp (b :: l)
      have h2 := ih ((b :: l).drop (p (b :: l)).2)
      have e : (madeL p (c + 1) (b :: l)).1 = (p (b :: l)).1.fo (madeL p c ((b :: l).drop (p (b :: l)).2)).1 := rfl
      rw [e]
      generalize (madeL p c ((b :: l).drop (p (b :: l)).2)).1 = r at h2 ⊢
      generalize (p (b :: l)).1 = x at h1 ⊢
      cases x <;> simp only [It.fo, Fo.dep, It.dep] at h1 ⊢ <;> omega
theorem madeP_dep : ∀ (d : Nat) (l : List (Nat × List UInt8)), (madeP d l).1.dep ≤ d + 1 := by
  intro d
  induction d with
  | zero => intro l; cases l <;> simp [madeP, It.dep]
  | succ d ih =>
    intro l
    cases l with
    | nil => simp [madeP, It.dep]
    | cons b l =>
      obtain ⟨k, s⟩ := b
      simp only [madeP]
      split
      · simp [It.dep]
      · have := madeL_dep ih (k / 2 % 5) l
        simp only [It.dep]; omega
end Go.Proofs.Ytgaaalacoeainaa
