/- List's rounds: what is known, and what keeps it. -/
import Derived.Test.YtgaaalacoeainaaLt
import Derived.Test.YtgaaalacoeainaaLj
namespace Go.Proofs.Ytgaaalacoeainaa
open Go.RowKit

theorem At_unique {T T' : Nat → Prop} {W : World} : ∀ (f f' : Fo) (g o : Nat), f.len = f'.len → f.At T g o W → f'.At T' g o W → f = f' := by
  intro f
  induction f with
  | nil => intro f' g o hl _ _; cases f' <;> simp [Fo.len] at hl; rfl
  | text s r ih =>
    intro f' g o hl ⟨⟨h1, h2, h3⟩, h4⟩ h'
    cases f' with
    | nil => simp [Fo.len] at hl
    | text s' r' =>
      obtain ⟨⟨k1, k2, k3⟩, k4⟩ := h'
      have e1 : s = s' := by rw [h2] at k2; exact str_inj (by simpa using k2)
      rw [e1, ih r' g _ (by simpa [Fo.len] using hl) h4 k4]
    | list i' r' => obtain ⟨⟨k1, _⟩, _⟩ := h'; rw [h1] at k1; simp at k1
  | list i r ihi ih =>
    intro f' g o hl ⟨⟨h1, h2, v, h3, h5⟩, h4⟩ h'
    cases f' with
    | nil => simp [Fo.len] at hl
    | text s' r' => obtain ⟨⟨k1, _⟩, _⟩ := h'; rw [h1] at k1; simp at k1
    | list i' r' =>
      obtain ⟨⟨k1, k2, v', k3, k5⟩, k4⟩ := h'
      obtain rfl : v = v' := by rw [h3] at k3; simpa using k3
      have e1 : i = i' := by
        rcases h5 with ⟨e, rfl⟩ | ⟨g1, o1, c1, e, _, _, ha⟩
        · rcases k5 with ⟨_, rfl⟩ | ⟨g2, o2, c2, e2, _⟩
          · rfl
          · rw [e] at e2; cases e2
        · rcases k5 with ⟨e2, _⟩ | ⟨g2, o2, c2, e2, _, _, hb⟩
          · rw [e] at e2; cases e2
          · rw [e] at e2
            injection e2 with e3 e4 e5
            injection e3 with e3
            injection e3 with e6 e7 e8
            subst e6; subst e7
            exact ihi i' _ _ e4 ha hb
      rw [e1, ih r' g _ (by simpa [Fo.len] using hl) h4 k4]
theorem SlF_unique {T T' : Nat → Prop} {W : World} {i i' : Fo} {u : Value} (h : SlF T i u W) (h' : SlF T' i' u W) : i = i' := by
  rcases h with ⟨e, rfl⟩ | ⟨g1, o1, c1, e, _, _, ha⟩
  · rcases h' with ⟨_, rfl⟩ | ⟨g2, o2, c2, e2, _⟩
    · rfl
    · rw [e] at e2; cases e2
  · rcases h' with ⟨e2, _⟩ | ⟨g2, o2, c2, e2, _, _, hb⟩
    · rw [e] at e2; cases e2
    · rw [e] at e2
      injection e2 with e3 e4 e5
      injection e3 with e3
      injection e3 with e6 e7 e8
      subst e6; subst e7
      exact At_unique i i' _ _ e4 ha hb
theorem cell_set {W : World} {g p : Nat} {u : Value} (u' : Value) (hc : W.cell? ⟨g, p, none⟩ = some u) (g' q : Nat) : (W.setCell ⟨g, p, none⟩ u').cell? ⟨g', q, none⟩ = if g' = g ∧ q = p then some u' else W.cell? ⟨g', q, none⟩ := by
  by_cases h : g' = g ∧ q = p
  · obtain ⟨rfl, rfl⟩ := h
    rw [if_pos ⟨rfl, rfl⟩]
    exact World.cell?_setCell_same _ _ _ hc
  · rw [if_neg h]
    exact World.cell?_setCell_other _ _ _ _ (fun e => by injection e with e1 e2; exact h ⟨e1.symm, e2.symm⟩)
/-- A cell that holds a slice of the items i takes another slice of the same items: all items are as they were. -/
theorem At_swap {T : Nat → Prop} {W : World} {g p : Nat} {u u' : Value} {i : Fo} (hc : W.cell? ⟨g, p, none⟩ = some u) (hu : SlF T i u W) (hu' : SlF T i u' W) (hn : u = .slice none 0 0 → u' = .slice none 0 0) :
    ∀ (f : Fo) (g' o : Nat), f.At T g' o W → f.At T g' o (W.setCell ⟨g, p, none⟩ u') := by
  have hne : ∀ (g' q : Nat) (x : Value), W.cell? ⟨g', q, none⟩ = some x → (∀ a n c, x ≠ .slice a n c) → (W.setCell ⟨g, p, none⟩ u').cell? ⟨g', q, none⟩ = some x := by
    intro g' q x hx hs
    rw [cell_set u' hc]
    by_cases h : g' = g ∧ q = p
    · obtain ⟨rfl, rfl⟩ := h
      rw [hc] at hx
      obtain ⟨a, n, c, e⟩ := hu.form
      exact absurd ((Option.some.inj hx).symm.trans e) (hs a n c)
    · rw [if_neg h]; exact hx
  intro f
  induction f with
  | nil => intro _ _ _; trivial
  | text s r ih =>
    intro g' o ⟨⟨h1, h2, h3⟩, h4⟩
    refine ⟨⟨hne _ _ _ h1 (by simp), hne _ _ _ h2 (by simp), ?_⟩, ih _ _ h4⟩
    rw [cell_set u' hc]
    by_cases h : g' = g ∧ o + 2 = p
    · rw [if_pos h]
      obtain ⟨rfl, rfl⟩ := h
      rw [hc] at h3
      rw [hn (by simpa using h3)]
    · rw [if_neg h]; exact h3
  | list j r ihj ih =>
    intro g' o ⟨⟨h1, h2, v, h3, h5⟩, h4⟩
    have hv : SlF T j v W := h5
    have hv' : ∀ x, SlF T j x W → SlF T j x (W.setCell ⟨g, p, none⟩ u') := fun x hx => by
      rcases hx with h | ⟨g1, o1, c1, e, hl, hm, ha⟩
      · exact Or.inl h
      · exact Or.inr ⟨g1, o1, c1, e, hl, hm, ihj _ _ ha⟩
    by_cases h : g' = g ∧ o + 2 = p
    · refine ⟨⟨hne _ _ _ h1 (by simp), hne _ _ _ h2 (by simp), u', by rw [cell_set u' hc, if_pos h], ?_⟩, ih _ _ h4⟩
      obtain ⟨rfl, rfl⟩ := h
      rw [hc] at h3
      obtain rfl : u = v := by simpa using h3
      have : i = j := SlF_unique hu hv
      subst this
      exact hv' u' hu'
    · exact ⟨⟨hne _ _ _ h1 (by simp), hne _ _ _ h2 (by simp), v, by rw [cell_set u' hc, if_neg h]; exact h3, hv' v hv⟩, ih _ _ h4⟩
theorem SlF_swap {T : Nat → Prop} {W : World} {g p : Nat} {u u' : Value} {i : Fo} (hc : W.cell? ⟨g, p, none⟩ = some u) (hu : SlF T i u W) (hu' : SlF T i u' W) (hn : u = .slice none 0 0 → u' = .slice none 0 0) {f : Fo} {v : Value} (h : SlF T f v W) : SlF T f v (W.setCell ⟨g, p, none⟩ u') := by
  rcases h with h | ⟨g1, o1, c1, e, hl, hm, ha⟩
  · exact Or.inl h
  · exact Or.inr ⟨g1, o1, c1, e, hl, hm, At_swap hc hu hu' hn _ _ _ ha⟩
def Fo.siz : Fo → Nat
  | .nil => 0
  | .text _ r => r.siz + 1
  | .list i r => i.siz + r.siz + 1
theorem Fo.len_siz (f : Fo) : f.len ≤ f.siz := by
  induction f with
  | nil => exact Nat.le_refl _
  | text s r ih => simp only [Fo.len, Fo.siz]; omega
  | list i r _ ih => simp only [Fo.len, Fo.siz]; omega
theorem Fo.siz_app (f g : Fo) : (f.app g).siz = f.siz + g.siz := by
  induction f with
  | nil => simp [Fo.app, Fo.siz]
  | text s r ih => simp [Fo.app, Fo.siz, ih]; omega
  | list i r _ ih => simp [Fo.app, Fo.siz, ih]; omega
def sizQ (q : List Fo) : Nat := (q.map fun f => f.siz + 1).sum
theorem sizQ_cons (f : Fo) (q : List Fo) : sizQ (f :: q) = f.siz + 1 + sizQ q := by simp [sizQ]
theorem sizQ_len (q : List Fo) : q.length ≤ sizQ q := by
  induction q with
  | nil => exact Nat.le_refl _
  | cons f q ih => rw [sizQ_cons]; simp; omega
/-- May its row be written? -/
def Wr (w : World) (n3 : Nat) (y : Value) (W : World) : Prop := y = .slice none 0 0 ∨ (Ow (w.heap.size + 1) y W ∧ y.ownBlock ≠ some n3)
/-- Where the items may lie. -/
def Ti (S : Nat → Prop) (w W : World) (k : Nat) : Prop := S k ∨ (w.heap.size + 1 ≤ k ∧ ∃ cur, W.heap[k]? = some (.cells cur 27 (0, 0)))
/-- What List knows: begun in w; its list lies in block n3, with the items f in vr; q is still to be copied, in ys, whose row is t. -/
structure LI (S : Nat → Prop) (w : World) (n3 : Nat) (f : Fo) (vr : Value) (q : List Fo) (ys : List Value) (t : Value) (W : World) : Prop where
  hS : ∀ k, S k → k < w.heap.size
  below : Below w.heap.size w W
  hn3 : w.heap.size + 1 ≤ n3
  row3 : W.heap[n3]? = some (.cells #[.bool true, .string ⟨#[]⟩, vr] 27 (0, 0))
  row0 : W.heap[w.heap.size]? = some (.cells #[.bool false, .string ⟨#[]⟩, .slice none 0 0] 27 (0, 0))
  root : SlF (Ti S w W) f vr W
  pend : Pend (Ti S w W) q ys W
  ow : ∀ y ∈ ys, Wr w n3 y W
  row : W.ownsRow (n3 + 1) 25 1 t q.length ys.reverse
theorem Pend.mono {S T : Nat → Prop} {W : World} (hm : ∀ k, S k → T k) : ∀ (q : List Fo) (ys : List Value), Pend S q ys W → Pend T q ys W
  | [], _, h => h
  | _ :: q, _, ⟨y, r, e, h1, h2⟩ => ⟨y, r, e, h1.mono hm, Pend.mono hm q r h2⟩
theorem Wr.later {S : Nat → Prop} {w : World} {n3 : Nat} {y : Value} {W W' : World} (h : Wr w n3 y W) (hk : ∀ k, Ti S w W k → W'.heap[k]? = W.heap[k]?) : Wr w n3 y W' := by
  rcases h with h | ⟨⟨g, n, cap, cur, e, hb, hg⟩, h⟩
  · exact Or.inl h
  · exact Or.inr ⟨⟨g, n, cap, cur, e, hb, (hk g (Or.inr ⟨hb, cur, hg⟩)).trans hg⟩, h⟩
theorem Ti.lt {S : Nat → Prop} {w W : World} (hS : ∀ k, S k → k < w.heap.size) (hb : w.heap.size ≤ W.heap.size) {k : Nat} (h : Ti S w W k) : k < W.heap.size := by
  rcases h with h | ⟨_, cur, h⟩
  · have := hS k h; omega
  · exact lt_of h
section
variable {S : Nat → Prop} {w : World} {n3 : Nat} {f : Fo} {vr : Value} {q : List Fo} {ys : List Value} {t : Value} {W W' : World}
/-- Whatever keeps the blocks of items, and the row. -/
theorem LI.keep (h : LI S w n3 f vr q ys t W) (hb : Below w.heap.size W W') (hk0 : W'.heap[w.heap.size]? = W.heap[w.heap.size]?) (hk : ∀ k, Ti S w W k → W'.heap[k]? = W.heap[k]?) : Below w.heap.size w W' ∧ (∀ k, Ti S w W k → Ti S w W' k) ∧ W'.heap[n3]? = some (.cells #[.bool true, .string ⟨#[]⟩, vr] 27 (0, 0)) ∧ W'.heap[w.heap.size]? = some (.cells #[.bool false, .string ⟨#[]⟩, .slice none 0 0] 27 (0, 0)) ∧ SlF (Ti S w W') f vr W' ∧ Pend (Ti S w W') q ys W' ∧ ∀ y ∈ ys, Wr w n3 y W' := by
  have hm : ∀ k, Ti S w W k → Ti S w W' k := fun k hk' => by
    rcases hk' with h1 | ⟨h0, cur, h1⟩
    · exact Or.inl h1
    · exact Or.inr ⟨h0, cur, (hk k (Or.inr ⟨h0, cur, h1⟩)).trans h1⟩
  exact ⟨h.below.trans hb, hm, (hk _ (Or.inr ⟨h.hn3, _, h.row3⟩)).trans h.row3, hk0.trans h.row0, (h.root.kept hk).mono hm, (h.pend.kept hk _ _).mono hm _ _, fun y hy => (h.ow y hy).later hk⟩
theorem LI.calm (h : LI S w n3 f vr q ys t W) (hb : Below W.heap.size W W') : LI S w n3 f vr q ys t W' := by
  obtain ⟨h1, _, h3, h4, h5, h6, h7⟩ := h.keep (hb.mono h.below.size) (hb.block _ (lt_of h.row0)) (fun k hk => hb.block k (hk.lt h.hS h.below.size))
  exact ⟨h.hS, h1, h.hn3, h3, h4, h5, h6, h7, own_keep h.row fun k hk => hb.block k (h.row.lt k hk).2⟩
theorem LI.rowNot (h : LI S w n3 f vr q ys t W) : ∀ k, t.ownBlock = some k → n3 + 1 ≤ k ∧ ¬ Ti S w W k := fun k hk => by
  have hn := h.hn3
  rcases h.row.2 with ⟨e, _⟩ | ⟨g', cap, cur', e, hb, hg', _⟩
  · rw [e] at hk; cases hk
  · rw [e] at hk
    have : g' = k := by simpa [Value.ownBlock] using hk
    subst this
    refine ⟨hb, fun hT => ?_⟩
    rcases hT with h1 | ⟨_, cur, h1⟩
    · have := h.hS _ h1; have := h.hn3; omega
    · rw [hg'] at h1; simp at h1
theorem LI.swap {g p : Nat} {u u' : Value} {i : Fo} (h : LI S w n3 f vr q ys t W) (hg : w.heap.size + 1 ≤ g) (hg3 : g ≠ n3) {cur : Array Value} (hcur : W.heap[g]? = some (.cells cur 27 (0, 0))) (hc : W.cell? ⟨g, p, none⟩ = some u)
    (hu : SlF (Ti S w W) i u W) (hu' : SlF (Ti S w W) i u' W) (hn : u = .slice none 0 0 → u' = .slice none 0 0) : LI S w n3 f vr q ys t (W.setCell ⟨g, p, none⟩ u') ∧ ∀ (f' : Fo) (v' : Value), SlF (Ti S w W) f' v' W → SlF (Ti S w (W.setCell ⟨g, p, none⟩ u')) f' v' (W.setCell ⟨g, p, none⟩ u') := by
  have hk : ∀ k, k ≠ g → (W.setCell ⟨g, p, none⟩ u').heap[k]? = W.heap[k]? := fun k hk => heap_setCell_other _ _ _ _ (by simpa using hk)
  have hT : ∀ k, Ti S w W k → Ti S w (W.setCell ⟨g, p, none⟩ u') k := fun k hk' => by
    rcases hk' with h1 | ⟨h0, c, h1⟩
    · exact Or.inl h1
    · by_cases e : k = g
      · subst e; exact Or.inr ⟨h0, _, heap_setCell_same _ _ _ _ _ _ h1⟩
      · exact Or.inr ⟨h0, c, (hk k e).trans h1⟩
  have hsw : ∀ (f' : Fo) (v' : Value), SlF (Ti S w W) f' v' W → SlF (Ti S w (W.setCell ⟨g, p, none⟩ u')) f' v' (W.setCell ⟨g, p, none⟩ u') := fun f' v' h' => (SlF_swap hc hu hu' hn h').mono hT
  refine ⟨⟨h.hS, h.below.setCell (p := ⟨g, p, none⟩) (by show _ ≤ g; omega) _, h.hn3, (hk _ (Ne.symm hg3)).trans h.row3, (hk _ (by omega)).trans h.row0, hsw _ _ h.root, ?_, fun y hy => ?_, own_keep h.row fun k hv => hk k (fun e => ?_)⟩, hsw⟩
  · have : ∀ (q : List Fo) (ys : List Value), Pend (Ti S w W) q ys W → Pend (Ti S w (W.setCell ⟨g, p, none⟩ u')) q ys (W.setCell ⟨g, p, none⟩ u') := by
      intro q
      induction q with
      | nil => intro ys h; exact h
      | cons f q ih => intro ys ⟨y, r, e, h1, h2⟩; exact ⟨y, r, e, hsw _ _ h1, ih r h2⟩
    exact this _ _ h.pend
  · rcases h.ow y hy with h1 | ⟨⟨g', n, cap, cur', e, hb, hg'⟩, h1⟩
    · exact Or.inl h1
    · refine Or.inr ⟨?_, h1⟩
      by_cases hgg : g' = g
      · subst hgg
        exact ⟨g', n, cap, _, e, hb, heap_setCell_same _ _ _ _ _ _ hg'⟩
      · exact ⟨g', n, cap, cur', e, hb, (hk g' hgg).trans hg'⟩
  · subst e
    exact (h.rowNot k hv).2 (Or.inr ⟨hg, cur, hcur⟩)
theorem LI.pop {fl : Fo} {y : Value} {g cap : Nat} (h : LI S w n3 f vr (fl :: q) (y :: ys) (.slice (some ⟨g, 0, none⟩) (q.length + 1) cap) W) : LI S w n3 f vr q ys (.slice (some ⟨g, 0, none⟩) q.length cap) W ∧ SlF (Ti S w W) fl y W ∧ Wr w n3 y W ∧ W.cell? ⟨g, q.length, none⟩ = some y := by
  obtain ⟨y', r, e, h1, h2⟩ := h.pend
  injection e with e1 e2
  subst e1; subst e2
  have hr := h.row
  rw [List.reverse_cons] at hr
  exact ⟨⟨h.hS, h.below, h.hn3, h.row3, h.row0, h.root, h2, fun y hy => h.ow y (List.mem_cons_of_mem _ hy), own_pop hr⟩, h1, h.ow y List.mem_cons_self, (own_top hr).1⟩
theorem LI.push {i : Fo} {u t' : Value} (h : LI S w n3 f vr q ys t W) (hu : SlF (Ti S w W) i u W) (hw : Wr w n3 u W) (hown : W'.ownsRow (n3 + 1) 25 1 t' (q.length + 1) (ys.reverse ++ [u])) {o : Obj} (hg : (W.alloc o).grownBy W' t.ownBlock) :
    LI S w n3 f vr (i :: q) (u :: ys) t' W' ∧ ∀ (f' : Fo) (v' : Value), SlF (Ti S w W) f' v' W → SlF (Ti S w W') f' v' W' := by
  have hs := hg.size
  simp at hs
  have hbs := h.below.size
  have hk : ∀ k, Ti S w W k → W'.heap[k]? = W.heap[k]? := fun k h1 => (hg.block k (by have := h1.lt h.hS hbs; simp; omega) (fun e => (h.rowNot k e.symm).2 h1)).trans (Below.heap_alloc _ _ _ (h1.lt h.hS hbs))
  have hb : Below w.heap.size W W' := ⟨hg.os, hg.tape, hg.output, by omega, fun k h1 => (hg.block k (by simp; omega) (fun e => by have := (h.rowNot _ e.symm).1; have := h.hn3; omega)).trans (Below.heap_alloc _ _ _ (by omega))⟩
  have hl0 := lt_of h.row0
  have hk0 : W'.heap[w.heap.size]? = W.heap[w.heap.size]? := (hg.block _ (by simp; omega) (fun e => by have := (h.rowNot _ e.symm).1; have := h.hn3; omega)).trans (Below.heap_alloc _ _ _ hl0)
  obtain ⟨h1, hm, h3, h4, h5, h6, h7⟩ := h.keep hb hk0 hk
  refine ⟨⟨h.hS, h1, h.hn3, h3, h4, h5, ⟨u, ys, rfl, (hu.kept hk).mono hm, h6⟩, fun y hy => ?_, by rw [List.reverse_cons]; exact hown⟩, fun f' v' h' => (h'.kept hk).mono hm⟩
  rcases List.mem_cons.1 hy with rfl | hy
  · exact hw.later hk
  · exact h7 y hy
theorem LI.push_wr {y : Value} (h : LI S w n3 f vr q ys t W) (hw : Wr w n3 y W) {o : Obj} (hg : (W.alloc o).grownBy W' t.ownBlock) : Wr w n3 y W' := by
  have hbs := h.below.size
  exact hw.later fun k h1 => (hg.block k (by have := h1.lt h.hS hbs; simp; omega) (fun e => (h.rowNot k e.symm).2 h1)).trans (Below.heap_alloc _ _ _ (h1.lt h.hS hbs))
theorem LI.calmS (h : LI S w n3 f vr q ys t W) (hb : Below W.heap.size W W') : ∀ (f' : Fo) (v' : Value), SlF (Ti S w W) f' v' W → SlF (Ti S w W') f' v' W' := by
  obtain ⟨_, hm, _⟩ := h.keep (hb.mono h.below.size) (hb.block _ (lt_of h.row0)) (fun k hk => hb.block k (hk.lt h.hS h.below.size))
  exact fun f' v' h' => (h'.kept fun k hk => hb.block k (hk.lt h.hS h.below.size)).mono hm
end
theorem SlF.len {S : Nat → Prop} {f : Fo} {v : Value} {W : World} (h : SlF S f v W) : ∃ a c, v = .slice a f.len c := by
  rcases h with ⟨rfl, rfl⟩ | ⟨g, o, c, rfl, _⟩
  · exact ⟨_, _, rfl⟩
  · exact ⟨_, _, rfl⟩
theorem At_split {T : Nat → Prop} {W : World} : ∀ (f1 f2 : Fo) (g o : Nat), (f1.app f2).At T g o W → f2.At T g (o + f1.len * 3) W := by
  intro f1
  induction f1 with
  | nil => intro f2 g o h; exact h
  | text s r ih => intro f2 g o h; have := ih f2 g _ h.2; rwa [show o + 3 + r.len * 3 = o + (Fo.text s r).len * 3 by simp only [Fo.len]; omega] at this
  | list i r _ ih => intro f2 g o h; have := ih f2 g _ h.2; rwa [show o + 3 + r.len * 3 = o + (Fo.list i r).len * 3 by simp only [Fo.len]; omega] at this
/-- The slice of an item's own items (of a text: none). -/
def It.inner : It → Fo
  | .text _ => .nil
  | .list i => i
theorem At_inner {T : Nat → Prop} {W : World} {x : It} {r : Fo} {g o : Nat} (h : (x.fo r).At T g o W) : ∃ u, W.cell? ⟨g, o + 2, none⟩ = some u ∧ SlF T x.inner u W := by
  cases x with
  | text s => exact ⟨_, h.1.2.2, Or.inl ⟨rfl, rfl⟩⟩
  | list i => obtain ⟨⟨_, _, v, h3, h4⟩, _⟩ := h; exact ⟨v, h3, h4⟩
theorem It.siz_inner (x : It) (r : Fo) : (x.fo r).siz = x.inner.siz + r.siz + 1 := by cases x <;> simp [It.fo, It.inner, Fo.siz]
theorem It.fo_app (x : It) (r : Fo) : (x.fo .nil).app r = x.fo r := by cases x <;> rfl
theorem fo_first {f : Fo} (h : 0 < f.len) : ∃ (x : It) (r : Fo), f = x.fo r := by
  cases f with
  | nil => simp [Fo.len] at h
  | text s r => exact ⟨.text s, r, rfl⟩
  | list i r => exact ⟨.list i, r, rfl⟩
theorem LI.step {S : Nat → Prop} {w : World} {n3 : Nat} {f fl i : Fo} {vr t u u' : Value} {q : List Fo} {ys : List Value} {W W3 : World} {gl p n c : Nat} {cur : Array Value} (h : LI S w n3 f vr q ys t W) (hsl : SlF (Ti S w W) fl (.slice (some ⟨gl, 0, none⟩) n c) W) (hu : SlF (Ti S w W) i u W) (hcur : W.heap[gl]? = some (.cells cur 27 (0, 0)))
    (hgl : w.heap.size + 1 ≤ gl) (hgl3 : gl ≠ n3) (hc : W.cell? ⟨gl, p, none⟩ = some u) (h1 : Below W.heap.size W W3) (h2 : u = .slice none 0 0 → u' = .slice none 0 0)
    (h3 : SlF (fun k => Ti S w W k ∨ (W.heap.size ≤ k ∧ ∃ cur, W3.heap[k]? = some (.cells cur 27 (0, 0)))) i u' W3) (h4 : u' = .slice none 0 0 ∨ Ow W.heap.size u' W3) :
    W3.cell? ⟨gl, p, none⟩ = some u ∧ W3.frozen? ⟨gl, p, none⟩ = false ∧ LI S w n3 f vr q ys t (W3.setCell ⟨gl, p, none⟩ u') ∧ SlF (Ti S w (W3.setCell ⟨gl, p, none⟩ u')) fl (.slice (some ⟨gl, 0, none⟩) n c) (W3.setCell ⟨gl, p, none⟩ u') ∧ Wr w n3 (.slice (some ⟨gl, 0, none⟩) n c) (W3.setCell ⟨gl, p, none⟩ u') ∧
      SlF (Ti S w (W3.setCell ⟨gl, p, none⟩ u')) i u' (W3.setCell ⟨gl, p, none⟩ u') ∧ Wr w n3 u' (W3.setCell ⟨gl, p, none⟩ u') := by
  have hb := h.below.size
  have hn3 := h.hn3
  have hl3 := lt_of h.row3
  have hcur3 := (h1.block _ (lt_of hcur)).trans hcur
  have hc3 : W3.cell? ⟨gl, p, none⟩ = some u := (World.cell?_of_block (h1.block _ (lt_of hcur))).trans hc
  have hu3 := h.calmS h1 _ _ hu
  have hu3' : SlF (Ti S w W3) i u' W3 := h3.mono fun k hk => by
    rcases hk with hk | ⟨hk, cur, hcc⟩
    · rcases hk with hk | ⟨hk0, cur, hk⟩
      · exact Or.inl hk
      · exact Or.inr ⟨hk0, cur, (h1.block _ (lt_of hk)).trans hk⟩
    · exact Or.inr ⟨by have := lt_of h.row0; omega, cur, hcc⟩
  obtain ⟨g1, g2⟩ := (h.calm h1).swap hgl hgl3 hcur3 hc3 hu3 hu3' h2
  have hnew : (W3.setCell ⟨gl, p, none⟩ u').heap[gl]? = some (.cells (cur.setIfInBounds p u') 27 (0, 0)) := heap_setCell_same _ _ _ _ _ _ hcur3
  refine ⟨hc3, free_of hcur3 p, g1, g2 _ _ (h.calmS h1 _ _ hsl), Or.inr ⟨⟨gl, n, c, _, rfl, hgl, hnew⟩, by simpa [Value.ownBlock] using hgl3⟩, g2 _ _ hu3', ?_⟩
  rcases h4 with h4 | ⟨g, n', cap, cur', e, hg, hgg⟩
  · exact Or.inl h4
  · have hlt0 := lt_of h.row0
    have hgc := lt_of hcur
    refine Or.inr ⟨⟨g, n', cap, cur', e, by omega, ?_⟩, by rw [e]; intro e2; simp [Value.ownBlock] at e2; omega⟩
    rw [heap_setCell_other _ _ _ _ (by simp; omega)]
    exact hgg
end Go.Proofs.Ytgaaalacoeainaa
