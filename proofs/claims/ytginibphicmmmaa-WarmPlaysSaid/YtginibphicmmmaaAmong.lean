/- Regions that draw their order: each of those that are ready; two blocks beside each other. -/
import Derived.Test.YtginibphicmmmaaDraw
namespace Go.Proofs.Ytginibphicmmmaa
open Go.RowKit

/-- Of those that may come up next, each: it does. -/
theorem Drawn.among {P : Program} {md : Region.Mode} {ops : Array Oper} {Q : Exit → Act → World → Prop} {S : World → Prop} {ex : Nat → Bool} (l : List Nat) {n : Nat} {done : Array Bool} {a : Act} {w : World} (hr : Region.ready md ops done = l) (hne : l ≠ [])
    (h : ∀ i ∈ l, ∃ o : Oper, ops[i]? = some o ∧ Region.wanted o (yielded ops a.tmps) = true ∧
      ∀ K : Act → World → Prop, (∀ a' w', (ex i = false → dirty ops.size ex done = false → S w') → Drawn P md ops Q S ex n (done.setIfInBounds i true) a' w' → K a' w') → Oper.wp P o a w K Q) : Drawn P md ops Q S ex (n + 1) done a w := by
  refine ⟨fun h0 => absurd (hr.symm.trans h0) hne, fun j hj => ?_⟩
  rw [hr] at hj
  obtain ⟨o, hi, hg, hw⟩ := h j hj
  unfold wpOp
  simp only [hi, hg, if_true]
  exact .inl (hw _ fun a' w' h1 h2 => ⟨h1, h2⟩)

theorem heap_far {w : World} {b b' : Nat} (hne : b ≠ b') (u0 u1 u2 u3 : Value) :
    ((((w.setCell ⟨b', 0, none⟩ u0).setCell ⟨b', 1, none⟩ u1).setCell ⟨b', 2, none⟩ u2).setCell ⟨b', 3, none⟩ u3).heap[b]? = w.heap[b]? := by
  rw [heap_setCell_other _ _ _ _ (by simpa using hne), heap_setCell_other _ _ _ _ (by simpa using hne), heap_setCell_other _ _ _ _ (by simpa using hne), heap_setCell_other _ _ _ _ (by simpa using hne)]
theorem New4.other {w : World} {v0 v1 v2 v3 v0' v1' v2' v3' : Value} {t t' : TypeId} {N N' b b' : Nat} (h : New4 N v0 v1 v2 v3 t b w) (_ : New4 N' v0' v1' v2' v3' t' b' w) (hne : b ≠ b') (u0 u1 u2 u3 : Value) :
    New4 N v0 v1 v2 v3 t b ((((w.setCell ⟨b', 0, none⟩ u0).setCell ⟨b', 1, none⟩ u1).setCell ⟨b', 2, none⟩ u2).setCell ⟨b', 3, none⟩ u3) :=
  ⟨(heap_far hne _ _ _ _).trans h.1, by simpa [World.setCell] using h.2.1, h.2.2⟩
theorem Fr.row {w W : World} {B N : Nat} {L : List (Nat × Array Value × TypeId)} (h : Fr w B N L W) {b : Nat} {v0 v1 v2 v3 : Value} {t : TypeId} (hm : (b, #[v0, v1, v2, v3], t) ∈ L) :
    W.cell? ⟨b, 0, none⟩ = some v0 ∧ W.cell? ⟨b, 1, none⟩ = some v1 ∧ W.cell? ⟨b, 2, none⟩ = some v2 ∧ W.cell? ⟨b, 3, none⟩ = some v3 :=
  (cells4 (h.know _ hm).2).1
theorem Fr.lt {w W : World} {B N : Nat} {L : List (Nat × Array Value × TypeId)} (h : Fr w B N L W) {b : Nat} {cs : Array Value} {t : TypeId} (hm : (b, cs, t) ∈ L) : b < W.heap.size :=
  Nat.lt_of_lt_of_le (h.know _ hm).1 h.size

end Go.Proofs.Ytginibphicmmmaa
