/- Merged: Ga. -/
import Derived.Test.YtekoaheiapddiaaGreatU29
section
namespace Go.Proofs.YtekoaheiapddiaaGreat.Dz
open Go.RowKit

/-- I holds in W, and in every world that has the blocks ft as W has them. -/
structure Ob (I : World → Prop) (ft : Nat → Prop) (W : World) : Prop where
  it : I W
  lt : ∀ k, ft k → k < W.heap.size
  keep : ∀ V, (∀ k, ft k → V.heap[k]? = W.heap[k]?) → I V
/-- Amid a call that began in W: what is owned; boxes of the call's own. -/
structure An (I : World → Prop) (ft : Nat → Prop) (W : World) (F0 : Nat → Prop) (L : List (Nat × Obj)) (V : World) : Prop where
  ob : Ob I ft V
  chg : Chg F0 ft W V
  box : ∀ x ∈ L, V.heap[x.1]? = some x.2 ∧ W.heap.size ≤ x.1 ∧ ¬ ft x.1
section
variable {I I' J : World → Prop} {ft ft' gt F0 : Nat → Prop} {W V V' : World} {L : List (Nat × Obj)}
theorem Ob.kept (h : Ob I ft W) (hk : ∀ k, ft k → V.heap[k]? = W.heap[k]?) : Ob I ft V := by
  refine ⟨h.keep V hk, fun k h1 => ?_, fun U hU => h.keep U fun k h1 => (hU k h1).trans (hk k h1)⟩
  have h2 := hk k h1
  rw [Array.getElem?_eq_getElem (h.lt k h1)] at h2
  exact (Array.getElem?_eq_some_iff.1 h2).1
theorem Ob.below (h : Ob I ft W) (hb : Below W.heap.size W V) : Ob I ft V := h.kept fun k hk => hb.block k (h.lt k hk)
theorem An.start (h : Ob I ft W) : An I ft W ft [] W := ⟨h, Chg.refl _ _, by simp⟩
theorem An.step (h : An I ft W F0 L V) (h1 : Ob I' ft' V') (h2 : Chg ft ft' V V') : An I' ft' W F0 L V' :=
  ⟨h1, h.chg.trans h2, fun x hx => ⟨(h2.block _ (lt_of (h.box x hx).1) (h.box x hx).2.2).trans (h.box x hx).1, (h.box x hx).2.1, fun h3 => by
    rcases h2.new _ h3 with h4 | h4
    · exact (h.box x hx).2.2 h4
    · have := lt_of (h.box x hx).1; omega⟩⟩
theorem An.call (h : An I ft W F0 L V) (hb : Below V.heap.size V V') : An I ft W F0 L V' := h.step (h.ob.below hb) (Chg.of_below hb)
theorem An.alloc (h : An I ft W F0 L V) (o : Obj) : An I ft W F0 ((V.heap.size, o) :: L) (V.alloc o) := by
  have h1 := h.call ((Below.refl _ _).alloc (Nat.le_refl _) o)
  refine ⟨h1.ob, h1.chg, fun x hx => ?_⟩
  rcases List.mem_cons.1 hx with rfl | hx
  · exact ⟨heap_alloc_new _ _, h.chg.size, fun hk => by have := h.ob.lt _ hk; simp at this⟩
  · exact h1.box x hx
theorem An.sub {L' : List (Nat × Obj)} (h : An I ft W F0 L V) (hs : ∀ x ∈ L', x ∈ L) : An I ft W F0 L' V := ⟨h.ob, h.chg, fun x hx => h.box x (hs x hx)⟩
theorem An.put {q : Nat} {o o' : Obj} (h : An I ft W F0 ((q, o) :: L) V) (hc : Chg (fun k => k = q) (fun k => k = q) V V') (ho : V'.heap[q]? = some o') (hL : ∀ x ∈ L, x.1 ≠ q) : An I ft W F0 ((q, o') :: L) V' := by
  obtain ⟨_, h2, h3⟩ := h.box (q, o) (by simp)
  have hk : ∀ k, k < V.heap.size → k ≠ q → V'.heap[k]? = V.heap[k]? := fun k h1 h2 => hc.block k h1 h2
  refine ⟨h.ob.kept fun k hk' => hk k (h.ob.lt k hk') fun e => h3 (by rw [← e]; exact hk'), ⟨hc.os.trans h.chg.os, hc.tape.trans h.chg.tape, hc.output.trans h.chg.output, Nat.le_trans h.chg.size hc.size, fun k h1 h4 => (hk k (Nat.lt_of_lt_of_le h1 h.chg.size) (by simp only at h2; omega)).trans (h.chg.block k h1 h4), h.chg.new⟩, fun x hx => ?_⟩
  rcases List.mem_cons.1 hx with rfl | hx
  · exact ⟨ho, h2, h3⟩
  · have h4 := h.box x (by simp [hx])
    exact ⟨(hk _ (lt_of h4.1) (hL x hx)).trans h4.1, h4.2⟩
theorem An.at (h : An I ft W F0 L V) {q : Nat} {o : Obj} (hm : (q, o) ∈ L) : V.heap[q]? = some o := (h.box (q, o) hm).1
end
end Go.Proofs.YtekoaheiapddiaaGreat.Dz
end
