/- Texts put where they belong: the list. -/
import Derived.Test.YtginibphicmmmaaJzk
namespace Go.Proofs.Ytginibphicmmmaa
open Go.RowKit Go.Maps Go.Sort Go.Shelf Mp
def ins (a : Nm) : List Nm → List Nm
  | [] => [a]
  | x :: l => if x < a then x :: ins a l else a :: x :: l
theorem ins_perm (a : Nm) : ∀ l, (ins a l).Perm (a :: l)
  | [] => List.Perm.refl _
  | x :: l => by
    unfold ins
    split
    · exact ((ins_perm a l).cons x).trans (List.Perm.swap a x l)
    · exact List.Perm.refl _
theorem ins_sorted (a : Nm) : ∀ {l : List Nm}, l.Pairwise (fun x y => x ≤ y) → (ins a l).Pairwise (fun x y => x ≤ y)
  | [], _ => by simp [ins]
  | x :: l, h => by
    rw [List.pairwise_cons] at h
    unfold ins
    split
    · rename_i hx
      rw [List.pairwise_cons]
      refine ⟨fun y hy => ?_, ins_sorted a h.2⟩
      rcases List.mem_cons.1 ((ins_perm a l).mem_iff.1 hy) with rfl | hy
      · exact List.le_of_lt hx
      · exact h.1 y hy
    · rename_i hx
      rw [List.pairwise_cons, List.pairwise_cons]
      refine ⟨fun y hy => ?_, h⟩
      rcases List.mem_cons.1 hy with rfl | hy
      · exact List.not_lt.1 hx
      · exact List.le_trans (List.not_lt.1 hx) (h.1 y hy)
theorem ins_at (a : Nm) : ∀ (l : List Nm) (k : Nat), k ≤ l.length → (∀ j s, j < k → l[j]? = some s → s < a) → (∀ s, l[k]? = some s → ¬ s < a) → ins a l = l.take k ++ a :: l.drop k
  | [], k, hk, _, _ => by
    obtain rfl : k = 0 := by simpa using hk
    rfl
  | x :: l, 0, _, _, h2 => by
    have h3 := h2 x rfl
    unfold ins
    rw [if_neg h3]
    rfl
  | x :: l, k + 1, hk, h1, h2 => by
    have h3 := h1 0 x (by omega) rfl
    unfold ins
    rw [if_pos h3, ins_at a l k (by simpa using hk) (fun j s hj hs => h1 (j + 1) s (by omega) (by simpa using hs)) (fun s hs => h2 s (by simpa using hs))]
    rfl
def leavO (M : List Cg) : List Nm := (M.filterMap gnOf).foldl (fun l a => ins a l) []
theorem foldl_ins : ∀ (gs l : List Nm), l.Pairwise (fun x y => x ≤ y) → (gs.foldl (fun l a => ins a l) l).Perm (gs ++ l) ∧ (gs.foldl (fun l a => ins a l) l).Pairwise (fun x y => x ≤ y)
  | [], _, h => ⟨List.Perm.refl _, h⟩
  | g :: gs, l, h => by
    obtain ⟨h1, h2⟩ := foldl_ins gs (ins g l) (ins_sorted g h)
    exact ⟨(h1.trans ((ins_perm g l).append_left gs)).trans List.perm_middle, h2⟩
theorem leavO_leavP (M : List Cg) : leavO M = leavP M.reverse := by
  obtain ⟨h1, h2⟩ := foldl_ins (M.filterMap gnOf) [] List.Pairwise.nil
  rw [List.append_nil] at h1
  have tr : ∀ a b c : List UInt8, leB a b = true → leB b c = true → leB a c = true := fun a b c h1 h2 => by simp only [leB, decide_eq_true_eq] at *; exact List.le_trans h1 h2
  have tot2 : ∀ a b : List UInt8, (leB a b || leB b a) = true := fun a b => by simp only [leB, Bool.or_eq_true, decide_eq_true_eq]; exact List.le_total a b
  refine List.Perm.eq_of_pairwise (le := fun a b => leB a b = true) (fun a b _ _ h1 h2 => ?_) (h2.imp fun h => by simpa [leB] using h) (List.pairwise_mergeSort tr tot2 _) (h1.trans ?_)
  · simp only [leB, decide_eq_true_eq] at h1 h2
    exact List.le_antisymm h1 h2
  · refine List.Perm.trans ?_ (List.mergeSort_perm _ leB).symm
    unfold goneL
    rw [List.filterMap_reverse]
    exact (List.reverse_perm _).symm
theorem leav_gone {M : List Cg} {i : Nat} {c : Cg} (h : M[i]? = some c) (hk : c.kind = 6) : leavO (M.take (i + 1)) = ins c.adr (leavO (M.take i)) := by
  rw [take_snoc h]
  unfold leavO
  rw [List.filterMap_append, List.foldl_append]
  cases c <;> first | rfl | cases hk
theorem leav_none {M : List Cg} {i : Nat} {c : Cg} (h : M[i]? = some c) (hk : c.kind ≠ 6) : leavO (M.take (i + 1)) = leavO (M.take i) := by
  rw [take_snoc h]
  unfold leavO
  rw [List.filterMap_append, List.foldl_append]
  cases c <;> first | rfl | exact absurd rfl hk
theorem leav_few (M : List Cg) : (leavO M).length ≤ M.length := by
  obtain ⟨h1, _⟩ := foldl_ins (M.filterMap gnOf) [] List.Pairwise.nil
  have h2 := h1.length_eq
  rw [List.append_nil] at h2
  unfold leavO
  rw [h2]
  exact List.length_filterMap_le _ _
end Go.Proofs.Ytginibphicmmmaa
