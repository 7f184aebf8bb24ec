/- The reference's set in memory: its changes, the oldest first; has. -/
import Derived.Test.YtginibphicmmmaaJz
namespace Go.Proofs.Ytginibphicmmmaa
open Go.RowKit Go.Maps Go.Shelf Mp

def Cg.kind : Cg → Nat
  | .addr _ => 1
  | .slot _ _ => 2
  | .made _ => 3
  | .refund _ => 4
  | .log _ => 5
  | .gone _ => 6
def Cg.adr : Cg → Nm
  | .addr a => a
  | .slot a _ => a
  | .made a => a
  | .gone a => a
  | _ => []
def Cg.key : Cg → Wq
  | .slot _ k => k
  | _ => Wq.zero
def Cg.num : Cg → Int
  | .refund n => n
  | _ => 0
def Cg.lg : Cg → LogP
  | .log l => l
  | _ => ⟨[], [], []⟩
/-- A change's ten cells. -/
def chE (c : Cg) (t : Value) : List Value := [.int .i64 (c.kind : Nat), .string (str c.adr), .int .u64 (c.key.a : Nat), .int .u64 (c.key.b : Nat), .int .u64 (c.key.c : Nat), .int .u64 (c.key.d : Nat), .int .i64 c.num, .string (str c.lg.addr), t, .string (str c.lg.data)]
def chCells (M : List Cg) (ts : List Value) : List Value := (List.zipWith chE M ts).flatten
def RTops (fx : List (Nat × Obj)) : List Cg → List Value → Prop
  | [], [] => True
  | c :: M, t :: ts => TopAt fx t c.lg.tops ∧ RTops fx M ts
  | _, _ => False
theorem RTops.len {fx : List (Nat × Obj)} : ∀ {M : List Cg} {ts : List Value}, RTops fx M ts → ts.length = M.length
  | [], [], _ => rfl
  | _ :: _, _ :: _, h => by simp [RTops.len h.2]
  | [], _ :: _, h => h.elim
  | _ :: _, [], h => h.elim
theorem RTops.more {fx fx' : List (Nat × Obj)} (hf : ∀ z ∈ fx, z ∈ fx') : ∀ {M : List Cg} {ts : List Value}, RTops fx M ts → RTops fx' M ts
  | [], [], _ => trivial
  | _ :: _, _ :: _, h => ⟨h.1.more hf, RTops.more hf h.2⟩
  | [], _ :: _, h => h.elim
  | _ :: _, [], h => h.elim
theorem RTops.snoc {fx : List (Nat × Obj)} {c : Cg} {t : Value} (h0 : TopAt fx t c.lg.tops) : ∀ {M : List Cg} {ts : List Value}, RTops fx M ts → RTops fx (M ++ [c]) (ts ++ [t])
  | [], [], _ => ⟨h0, trivial⟩
  | _ :: _, _ :: _, h => ⟨h.1, RTops.snoc h0 h.2⟩
  | [], _ :: _, h => h.elim
  | _ :: _, [], h => h.elim
theorem RTops.take {fx : List (Nat × Obj)} : ∀ (k : Nat) {M : List Cg} {ts : List Value}, RTops fx M ts → RTops fx (M.take k) (ts.take k)
  | 0, [], [], _ => trivial
  | 0, _ :: _, _ :: _, _ => trivial
  | _ + 1, [], [], _ => trivial
  | k + 1, _ :: _, _ :: _, h => ⟨h.1, RTops.take k h.2⟩
  | _, [], _ :: _, h => h.elim
  | _, _ :: _, [], h => h.elim
theorem RTops.get {fx : List (Nat × Obj)} : ∀ {M : List Cg} {ts : List Value} {i : Nat} {c : Cg}, RTops fx M ts → M[i]? = some c → ∃ t, ts[i]? = some t ∧ TopAt fx t c.lg.tops
  | [], _, _, _, _, h => by simp at h
  | _ :: _, t :: _, 0, _, h, e => by simp at e; exact ⟨t, rfl, e ▸ h.1⟩
  | _ :: M, _ :: ts, i + 1, _, h, e => by
    obtain ⟨t, h1, h2⟩ := RTops.get (M := M) (ts := ts) (i := i) h.2 (by simpa using e)
    exact ⟨t, by simpa using h1, h2⟩
  | _ :: _, [], _, _, h, _ => h.elim
theorem chCells_len : ∀ {M : List Cg} {ts : List Value}, ts.length = M.length → (chCells M ts).length = M.length * 10
  | [], [], _ => rfl
  | l :: M, t :: ts, h => by
    have := chCells_len (M := M) (ts := ts) (by simpa using h)
    unfold chCells at this ⊢
    simp only [List.zipWith_cons_cons, List.flatten_cons, List.length_append, this, chE, List.length_cons, List.length_nil]
    omega
  | [], _ :: _, h => by simp at h
  | _ :: _, [], h => by simp at h
theorem chCells_snoc {c : Cg} {t : Value} : ∀ {M : List Cg} {ts : List Value}, ts.length = M.length → chCells (M ++ [c]) (ts ++ [t]) = chCells M ts ++ chE c t
  | [], [], _ => by simp [chCells]
  | _ :: M, _ :: ts, h => by
    have := chCells_snoc (c := c) (t := t) (M := M) (ts := ts) (by simpa using h)
    unfold chCells at this ⊢
    simp only [List.cons_append, List.zipWith_cons_cons, List.flatten_cons, this, List.append_assoc]
  | [], _ :: _, h => by simp at h
  | _ :: _, [], h => by simp at h
theorem chCells_at : ∀ {M : List Cg} {ts : List Value} {i : Nat} {c : Cg} {t : Value}, M[i]? = some c → ts[i]? = some t → ∀ j, j < 10 → (chCells M ts)[i * 10 + j]? = (chE c t)[j]?
  | [], _, _, _, _, h, _, _, _ => by simp at h
  | _ :: _, [], _, _, _, _, h, _, _ => by simp at h
  | l0 :: M, t0 :: ts, 0, l, t, h1, h2, j, hj => by
    simp at h1 h2
    subst h1 h2
    unfold chCells
    simp only [List.zipWith_cons_cons, List.flatten_cons]
    rw [List.getElem?_append_left (by simp [chE]; omega)]
    simp
  | l0 :: M, t0 :: ts, i + 1, l, t, h1, h2, j, hj => by
    have := chCells_at (M := M) (ts := ts) (i := i) (c := l) (t := t) (by simpa using h1) (by simpa using h2) j hj
    unfold chCells at this ⊢
    simp only [List.zipWith_cons_cons, List.flatten_cons]
    rw [List.getElem?_append_right (by simp [chE]; omega), ← this]
    congr 1
    simp [chE]
    omega
theorem chCells_take {M : List Cg} {ts : List Value} (h : ts.length = M.length) {k : Nat} (hk : k ≤ M.length) : (chCells M ts).take (k * 10) = chCells (M.take k) (ts.take k) := by
  have e : chCells M ts = chCells (M.take k) (ts.take k) ++ chCells (M.drop k) (ts.drop k) := by
    unfold chCells
    rw [← List.flatten_append, ← List.zipWith_append (by simp [h]), List.take_append_drop, List.take_append_drop]
  rw [e, List.take_left' (by rw [chCells_len (by simp [h])]; simp; omega)]
/-- The reference's set at block e. -/
structure RAt (e : Nat) (rv : Value) (ts : List Value) (fx : List (Nat × Obj)) (M : List Cg) (W : World) : Prop where
  cell : W.heap[e]? = some (.cells #[rv] 29 (0, 0))
  row : W.ownsRow 0 71 10 rv M.length (chCells M ts)
  tops : RTops fx M ts
  fix : ∀ p ∈ fx, W.heap[p.1]? = some p.2 ∧ p.1 ≠ e ∧ rv.ownBlock ≠ some p.1
def rF (e : Nat) (rv : Value) (fx : List (Nat × Obj)) (k : Nat) : Prop := k = e ∨ rv.ownBlock = some k ∨ ∃ o, (k, o) ∈ fx
section
variable {e : Nat} {rv : Value} {ts : List Value} {fx : List (Nat × Obj)} {M : List Cg} {W : World}
theorem RAt.ob (h : RAt e rv ts fx M W) : Ob (RAt e rv ts fx M) (rF e rv fx) W :=
  ⟨h, fun k hk => by
      rcases hk with rfl | hk | ⟨o, ho⟩
      · exact lt_of h.cell
      · exact (World.ownsRow.lt h.row k hk).2
      · exact lt_of (h.fix _ ho).1,
    fun _ hV => ⟨(hV e (Or.inl rfl)).trans h.cell, own_keep h.row fun k hk => hV k (Or.inr (Or.inl hk)), h.tops, fun p hp => ⟨(hV p.1 (Or.inr (Or.inr ⟨p.2, hp⟩))).trans (h.fix p hp).1, (h.fix p hp).2⟩⟩⟩
/-- What the walk reads of the change i. -/
theorem RAt.at (h : RAt e rv ts fx M W) {i : Nat} {c : Cg} (hc : M[i]? = some c) : ∃ g cap t, rv = .slice (some ⟨g, 0, none⟩) M.length cap ∧ g < W.heap.size ∧ TopAt fx t c.lg.tops ∧ ∀ j, j < 10 → W.cell? ⟨g, i * 10 + j, none⟩ = (chE c t)[j]? := by
  obtain ⟨t, ht, htop⟩ := h.tops.get hc
  have hi : i < M.length := (List.getElem?_eq_some_iff.1 hc).1
  rcases h.row.2 with ⟨e1, e2⟩ | ⟨g, cap, cur, e1, _, hg, h1, h2, h3, h4⟩
  · omega
  · refine ⟨g, cap, t, e1, lt_of hg, htop, fun j hj => ?_⟩
    rw [cell_of hg, ← chCells_at hc ht j hj, ← h4, List.getElem?_take_of_lt (by omega)]; simp
theorem no_more {M : List Cg} {i : Nat} {c : Cg} {f : Cg → Bool} (h : ∀ j d, j < i → M[j]? = some d → f d = false) (hc : M[i]? = some c) (hf : f c = false) : ∀ j d, j < i + 1 → M[j]? = some d → f d = false := by
  intro j d hj hd
  by_cases e : j = i
  · rw [e, hc] at hd; cases hd; exact hf
  · exact h j d (by omega) hd
theorem none_at {M : List Cg} {f : Cg → Bool} (h : ∀ j d, j < M.length → M[j]? = some d → f d = false) : M.any f = false := by
  rw [List.any_eq_false]
  intro c hc
  obtain ⟨i, hi⟩ := List.getElem?_of_mem hc
  rw [h i c (List.getElem?_eq_some_iff.1 hi).1 hi]
  simp
def Cg.is (kind : Nat) (a : Nm) (k : Wq) (c : Cg) : Bool := decide (c.kind = kind) && (decide (c.adr = a) && decide (c.key = k))
end
end Go.Proofs.Ytginibphicmmmaa
