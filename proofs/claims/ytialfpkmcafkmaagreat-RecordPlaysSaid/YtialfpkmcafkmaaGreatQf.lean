/- A disk as plain data: its files in a list, rising by their names; what each call answers, and leaves. -/
import Derived.Test.YtialfpkmcafkmaaGreatQe
namespace Go.Proofs.YtialfpkmcafkmaaGreat
open Go.RowKit

/-- A file: its name, its bytes, how many are synced. -/
structure Ent where
  name : Nm
  bs : Nm
  syn : Nat
def getE : List Ent → Nm → Option Ent
  | [], _ => none
  | x :: r, s => if x.name = s then some x else getE r s
def putE : List Ent → Ent → List Ent
  | [], e => [e]
  | x :: r, e => if e.name < x.name then e :: x :: r else if x.name = e.name then e :: r else x :: putE r e
def dropE : List Ent → Nm → List Ent
  | [], _ => []
  | x :: r, s => if x.name = s then r else x :: dropE r s
def usedE : List Ent → Nat
  | [] => 0
  | x :: r => x.bs.length + usedE r
/-- Rising. -/
def Up : List Ent → Prop
  | [] => True
  | x :: r => (∀ y ∈ r, x.name < y.name) ∧ Up r
theorem nlt (a : Nm) : ¬ a < a := List.lt_irrefl a
theorem ntr {a b c : Nm} (h : a < b) (k : b < c) : a < c := List.lt_trans h k
theorem ntri {a b : Nm} (h : ¬ a < b) (k : b ≠ a) : b < a := by
  rcases Nat.lt_or_ge 0 0 with h0 | _
  · omega
  · exact Classical.byContradiction fun h2 => k (List.le_antisymm (List.not_lt.1 h) (List.not_lt.1 h2))
theorem getE_mem {L : List Ent} {s : Nm} {e : Ent} (h : getE L s = some e) : e ∈ L ∧ e.name = s := by
  induction L with
  | nil => cases h
  | cons x r ih =>
    simp only [getE] at h
    split at h
    · rename_i hx; cases h; exact ⟨by simp, hx⟩
    · exact ⟨by simp [(ih h).1], (ih h).2⟩
theorem getE_none {L : List Ent} {s : Nm} (h : getE L s = none) : ∀ e ∈ L, e.name ≠ s := by
  induction L with
  | nil => simp
  | cons x r ih =>
    simp only [getE] at h
    split at h
    · cases h
    · rename_i hx
      intro e he
      rcases List.mem_cons.1 he with rfl | he
      · exact hx
      · exact ih h e he
theorem getE_put (L : List Ent) (e : Ent) (t : Nm) : getE (putE L e) t = if t = e.name then some e else getE L t := by
  induction L with
  | nil =>
    simp only [putE, getE]
    by_cases h : e.name = t
    · rw [if_pos h, if_pos h.symm]
    · rw [if_neg h, if_neg (fun k => h k.symm)]
  | cons x r ih =>
    simp only [putE]
    split
    · by_cases h : t = e.name
      · rw [if_pos h]; simp [getE, h]
      · rw [if_neg h]; simp [getE, Ne.symm h]
    · split
      · rename_i hx
        by_cases h : t = e.name
        · rw [if_pos h]; simp [getE, h]
        · rw [if_neg h]; simp only [getE]; rw [if_neg (fun k => h k.symm), if_neg (fun k => h (k.symm.trans hx))]
      · rename_i hx
        simp only [getE]
        rw [ih]
        by_cases h : t = e.name
        · rw [if_pos h, if_pos h, if_neg (fun k => hx (k.trans h))]
        · rw [if_neg h, if_neg h]
theorem mem_put {L : List Ent} {e f : Ent} (h : f ∈ putE L e) : f = e ∨ f ∈ L := by
  induction L with
  | nil => simpa [putE] using h
  | cons x r ih =>
    simp only [putE] at h
    split at h
    · simpa using h
    · split at h
      · rcases List.mem_cons.1 h with h | h
        · exact Or.inl h
        · exact Or.inr (by simp [h])
      · rcases List.mem_cons.1 h with h | h
        · exact Or.inr (by simp [h])
        · exact (ih h).imp id (fun h => by simp [h])
theorem mem_drop {L : List Ent} {s : Nm} {f : Ent} (h : f ∈ dropE L s) : f ∈ L := by
  induction L with
  | nil => cases h
  | cons x r ih =>
    simp only [dropE] at h
    split at h
    · simp [h]
    · rcases List.mem_cons.1 h with h | h
      · simp [h]
      · simp [ih h]
theorem Up.put {L : List Ent} (h : Up L) (e : Ent) : Up (putE L e) := by
  induction L with
  | nil => simp [putE, Up]
  | cons x r ih =>
    obtain ⟨h1, h2⟩ := h
    simp only [putE]
    split
    · rename_i hl
      exact ⟨fun y hy => by
        rcases List.mem_cons.1 hy with rfl | hy
        · exact hl
        · exact ntr hl (h1 y hy), h1, h2⟩
    · split
      · rename_i hx
        exact ⟨fun y hy => hx ▸ h1 y hy, h2⟩
      · rename_i hl hx
        exact ⟨fun y hy => by
          rcases mem_put hy with rfl | hy
          · exact ntri hl hx
          · exact h1 y hy, ih h2⟩
theorem Up.drop {L : List Ent} (h : Up L) (s : Nm) : Up (dropE L s) := by
  induction L with
  | nil => exact trivial
  | cons x r ih =>
    obtain ⟨h1, h2⟩ := h
    simp only [dropE]
    split
    · exact h2
    · exact ⟨fun y hy => h1 y (mem_drop hy), ih h2⟩
theorem Up.none {x : Ent} {r : List Ent} (h : Up (x :: r)) : getE r x.name = .none := by
  cases hg : getE r x.name with
  | none => rfl
  | some e =>
    obtain ⟨h1, h2⟩ := getE_mem hg
    have := h.1 e h1
    rw [h2] at this
    exact absurd this (nlt _)
theorem getE_drop {L : List Ent} (hU : Up L) (s t : Nm) : getE (dropE L s) t = if t = s then none else getE L t := by
  induction L with
  | nil => simp [dropE, getE]
  | cons x r ih =>
    simp only [dropE]
    split
    · rename_i hx
      by_cases h : t = s
      · rw [if_pos h, h, ← hx]; exact hU.none
      · rw [if_neg h]; simp only [getE]; rw [if_neg (fun k => h (k.symm.trans hx))]
    · rename_i hx
      simp only [getE]
      rw [ih hU.2]
      by_cases h : t = s
      · rw [if_pos h, if_pos h, if_neg (fun k => hx (k.trans h))]
      · rw [if_neg h, if_neg h]
theorem usedE_drop {L : List Ent} {s : Nm} {f : Ent} (h : getE L s = some f) : usedE (dropE L s) + f.bs.length = usedE L := by
  induction L with
  | nil => cases h
  | cons x r ih =>
    simp only [getE] at h
    simp only [dropE]
    split at h
    · rename_i hx; cases h; rw [if_pos hx]; simp only [usedE]; omega
    · rename_i hx; rw [if_neg hx]; have := ih h; simp only [usedE]; omega
theorem usedE_le {L : List Ent} {s : Nm} {f : Ent} (h : getE L s = some f) : f.bs.length ≤ usedE L := by have := usedE_drop h; omega
/-- What a list had under a name. -/
def lenE : Option Ent → Nat
  | none => 0
  | some f => f.bs.length
theorem usedE_put {L : List Ent} (hU : Up L) (e : Ent) : usedE (putE L e) + lenE (getE L e.name) = usedE L + e.bs.length := by
  induction L with
  | nil => simp [putE, usedE, getE, lenE]
  | cons x r ih =>
    simp only [putE]
    split
    · rename_i hl
      have hn : getE (x :: r) e.name = .none := by
        cases hg : getE (x :: r) e.name with
        | none => rfl
        | some f =>
          obtain ⟨h1, h2⟩ := getE_mem hg
          rcases List.mem_cons.1 h1 with rfl | h1
          · rw [h2] at hl; exact absurd hl (nlt _)
          · have := ntr hl (hU.1 f h1); rw [h2] at this; exact absurd this (nlt _)
      rw [hn]; simp only [usedE, lenE]; omega
    · split
      · rename_i hx
        simp only [getE]; rw [if_pos hx]; simp only [usedE, lenE]; omega
      · rename_i hx
        simp only [getE]; rw [if_neg hx]; have := ih hU.2; simp only [usedE]; omega
end Go.Proofs.YtialfpkmcafkmaaGreat
