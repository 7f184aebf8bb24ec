/- Rows of one cell an element; what a call may turn; what walk tells its three functions. -/
import Derived.Test.YtgaaalacoeainaaLb
import Derived.Maps.AppendAt
import Derived.Test.YtgaaalacoeainaaAmong
namespace Go.Proofs.Ytgaaalacoeainaa
open Go.RowKit

section
variable {w : World} {B : Nat} {e : TypeId} {g cap n : Nat} {xs : List Value} {y : Value}
theorem own_form {v : Value} (h : w.ownsRow B e 1 v (n + 1) xs) : ∃ g cap, v = .slice (some ⟨g, 0, none⟩) (n + 1) cap ∧ B ≤ g ∧ g < w.heap.size ∧ n + 1 ≤ cap := by
  rcases h.2 with ⟨_, h0⟩ | ⟨g, cap, cur, rfl, hb, hg, hn, _⟩
  · omega
  · exact ⟨g, cap, rfl, hb, lt_of hg, hn⟩
theorem own_cell {v : Value} (h : w.ownsRow B e 1 v n xs) (hv : v = .slice (some ⟨g, 0, none⟩) n cap) (j : Nat) (u : Value) (hj : xs[j]? = some u) : w.cell? ⟨g, j, none⟩ = some u := by
  have h1 := h.cells (g := g) (by rw [hv]; rfl) j u hj
  have e : (⟨g, 0, none⟩ : Addr).add j = ⟨g, j, none⟩ := by unfold Addr.add; split <;> simp_all
  rwa [e] at h1
theorem own_free {v : Value} (h : w.ownsRow B e 1 v n xs) (hv : v = .slice (some ⟨g, 0, none⟩) n cap) (j : Nat) : w.frozen? ⟨g, j, none⟩ = false := by
  rcases h.2 with ⟨rfl, _⟩ | ⟨g', cap', cur, rfl, _, hg, _⟩
  · cases hv
  · cases hv; exact free_of hg j
theorem own_pop (h : w.ownsRow B e 1 (.slice (some ⟨g, 0, none⟩) (n + 1) cap) (n + 1) (xs ++ [y])) : w.ownsRow B e 1 (.slice (some ⟨g, 0, none⟩) n cap) n xs := by
  have hl : xs.length = n := by have := h.1; simp at this; omega
  refine ⟨by omega, Or.inr ?_⟩
  rcases h.2 with ⟨h0, _⟩ | ⟨g', cap', cur, hv, hb, hg, hn, hm, hs, ht⟩
  · cases h0
  · cases hv
    refine ⟨g, cap, cur, rfl, hb, hg, by omega, hm, hs, ?_⟩
    have := congrArg (List.take n) ht
    rw [List.take_take, Nat.mul_one, show min n (n + 1) = n by omega, List.take_left' hl] at this
    rwa [Nat.mul_one]
theorem own_setAt {v : Value} (h : w.ownsRow B e 1 v n xs) (hv : v = .slice (some ⟨g, 0, none⟩) n cap) (j : Nat) (y : Value) : (w.setCell ⟨g, j, none⟩ y).ownsRow B e 1 v n (xs.set j y) := by
  refine ⟨by simpa using h.1, Or.inr ?_⟩
  rcases h.2 with ⟨rfl, _⟩ | ⟨g', cap', cur, rfl, hb, hg, hn, hm, hs, ht⟩
  · cases hv
  · cases hv
    refine ⟨g, cap, cur.setIfInBounds j y, rfl, hb, heap_setCell_same _ _ _ _ _ _ hg, hn, hm, by simpa using hs, ?_⟩
    rw [Array.toList_setIfInBounds, ← ht, List.take_set]
end
theorem own_top {w : World} {B : Nat} {e : TypeId} {g cap n : Nat} {xs : List Value} {y : Value} (h : w.ownsRow B e 1 (.slice (some ⟨g, 0, none⟩) (n + 1) cap) (n + 1) (xs ++ [y])) : w.cell? ⟨g, n, none⟩ = some y ∧ w.frozen? ⟨g, n, none⟩ = false := by
  have hl : xs.length = n := by have := h.1; simp at this; omega
  exact ⟨own_cell h rfl n y (by rw [List.getElem?_append_right (by omega), hl]; simp), own_free h rfl n⟩
theorem own_keep {w w' : World} {B : Nat} {e : TypeId} {v : Value} {n : Nat} {xs : List Value} (h : w.ownsRow B e 1 v n xs) (hb : ∀ k, v.ownBlock = some k → w'.heap[k]? = w.heap[k]?) : w'.ownsRow B e 1 v n xs := by
  refine ⟨h.1, ?_⟩
  rcases h.2 with h0 | ⟨g, cap, cur, rfl, hbg, hg, rest⟩
  · exact Or.inl h0
  · exact Or.inr ⟨g, cap, cur, rfl, hbg, (hb g rfl).trans hg, rest⟩

/-- One element of one cell more. -/
theorem wpList_append_one {ops : Array Oper} {rest : List Oper} {o : Oper} {a : Act} {Q : Exit → Act → World → Prop} {W : World} (hgd : o.guard = none) (s x : Operand) (ty e : TypeId)
    (ho : o.op = .call { callee := .builtin .append, args := #[s, x], argTypes := #[ty, ty] }) (hu : Try.prog.underlying ty = some (.slice e)) (z : Value) (bytes : Nat)
    (hinfo : (Try.prog.info? e).map (fun i => (i.zero, i.size, i.bytes)) = some (some z, 1, bytes)) (hz1 : z.cells.size = 1) (hby : bytes ≤ 48)
    (B : Nat) (v : Value) (n : Nat) (xs : List Value) (hs : a.eval s = v) (hown : W.ownsRow B e 1 v n xs) (q : Nat) (u : Value) (h1 : u.oneCell' = true) (hx : a.eval x = .slice (some ⟨q, 0, none⟩) 1 1) (hz : W.heap[q]? = some (.cells #[u] e (0, 0)))
    (hB : B ≤ W.heap.size) (hn : n < 1000000000)
    (hK : ∀ v' W', W'.ownsRow B e 1 v' (n + 1) (xs ++ [u]) → W.grownBy W' v.ownBlock → (v'.ownBlock = v.ownBlock ∨ v'.ownBlock = some W.heap.size) → wpList Try.prog ops Q rest (a.put o.dst v') W') : wpList Try.prog ops Q (o :: rest) a W := by
  obtain ⟨i0, hi, hz0, hzz, hz2⟩ := info_parts hinfo
  refine wpList_append_own_at W hgd s x ty ho B e i0 z 1 bytes hu hi hz0 hzz hz2 hz1 (by omega) v n xs hs hown ⟨q, 0, none⟩ 1 1 [u] hx rfl ?_ ?_ (by unfold maxLen; omega) ?_ hB fun v' W' h2 h3 _ h5 => hK v' W' h2 h3 h5
  · intro j u' hj
    have e : (⟨q, 0, none⟩ : Addr).add j = ⟨q, j, none⟩ := by unfold Addr.add; split <;> simp_all
    rw [e, cell_of hz]
    simpa using hj
  · intro u' hu'
    obtain rfl : u' = u := by simpa using hu'
    exact h1
  · exact Nat.le_trans (Nat.mul_le_mul_left (n + 1) hby) (by omega)

theorem wp_append_one {o : Oper} {a : Act} {K : Act → World → Prop} {Q : Exit → Act → World → Prop} {W : World} (s x : Operand) (ty e : TypeId)
    (ho : o.op = .call { callee := .builtin .append, args := #[s, x], argTypes := #[ty, ty] }) (hu : Try.prog.underlying ty = some (.slice e)) (z : Value) (bytes : Nat)
    (hinfo : (Try.prog.info? e).map (fun i => (i.zero, i.size, i.bytes)) = some (some z, 1, bytes)) (hz1 : z.cells.size = 1) (hby : bytes ≤ 48)
    (B : Nat) (v : Value) (n : Nat) (xs : List Value) (hs : a.eval s = v) (hown : W.ownsRow B e 1 v n xs) (q : Nat) (u : Value) (h1 : u.oneCell' = true) (hx : a.eval x = .slice (some ⟨q, 0, none⟩) 1 1) (hz : W.heap[q]? = some (.cells #[u] e (0, 0)))
    (hB : B ≤ W.heap.size) (hn : n < 1000000000)
    (hK : ∀ v' W', W'.ownsRow B e 1 v' (n + 1) (xs ++ [u]) → W.grownBy W' v.ownBlock → (v'.ownBlock = v.ownBlock ∨ v'.ownBlock = some W.heap.size) → K (a.put o.dst v') W') : Oper.wp Try.prog o a W K Q := by
  obtain ⟨i0, hi, hz0, hzz, hz2⟩ := info_parts hinfo
  obtain ⟨v', w', hr, h2, h3, h4, h5⟩ := run_append_own_at (P := Try.prog) W B ty o.type e i0 z 1 bytes hu hi hz0 hzz hz2 hz1 (by omega) v n xs hown ⟨q, 0, none⟩ 1 1 [u] rfl (by
    intro j u' hj
    have e : (⟨q, 0, none⟩ : Addr).add j = ⟨q, j, none⟩ := by unfold Addr.add; split <;> simp_all
    rw [e, cell_of hz]
    simpa using hj) (by
    intro u' hu'
    obtain rfl : u' = u := by simpa using hu'
    exact h1) (by unfold maxLen; omega) (Nat.le_trans (Nat.mul_le_mul_left (n + 1) hby) (by omega)) hB
  unfold Oper.wp execOp
  simp only [ho, resolve, invoke, builtin, Sem.run_bind, Sem.run_pure, Result.andThen_ok, List.map_toArray, List.map_cons, List.map_nil, hs, hx, hr]
  exact hK _ _ h2 h3 h5

/-- What walk tells: a list begins, a text, a list ends. -/
inductive Ev where
  | bgn : Ev
  | txt (s : List UInt8) : Ev
  | fin : Ev
def Fo.evs : Fo → List Ev
  | .nil => []
  | .text s r => .txt s :: r.evs
  | .list i r => .bgn :: i.evs ++ .fin :: r.evs
/-- Of what is still to come, the last list first. -/
def evP : List Fo → List Ev
  | [] => []
  | f :: q => f.evs ++ .fin :: evP q
/-- From w to w' a call has turned nothing but blocks of F, and new ones; F' is what it may turn then. -/
structure Chg (F F' : Nat → Prop) (w w' : World) : Prop where
  os : w'.os = w.os
  tape : w'.tape = w.tape
  output : w'.output = w.output
  size : w.heap.size ≤ w'.heap.size
  block : ∀ k, k < w.heap.size → ¬ F k → w'.heap[k]? = w.heap[k]?
  new : ∀ k, F' k → F k ∨ w.heap.size ≤ k
theorem Chg.refl (F : Nat → Prop) (w : World) : Chg F F w w := ⟨rfl, rfl, rfl, Nat.le_refl _, fun _ _ _ => rfl, fun _ h => Or.inl h⟩
theorem Chg.trans {F F' F'' : Nat → Prop} {a b c : World} (h : Chg F F' a b) (k : Chg F' F'' b c) : Chg F F'' a c :=
  ⟨k.os.trans h.os, k.tape.trans h.tape, k.output.trans h.output, Nat.le_trans h.size k.size,
    fun i hi hn => (k.block i (Nat.lt_of_lt_of_le hi h.size) (fun hf => (h.new i hf).elim hn (by omega))).trans (h.block i hi hn),
    fun i hi => (k.new i hi).elim (fun hf => h.new i hf) (fun h2 => Or.inr (Nat.le_trans h.size h2))⟩
/-- Whom walk tells: a state, where it lies, and how each of the three functions turns it. -/
structure Sink (σ : Type) (nb nt ne : FuncId) (p : Value) where
  St : σ → World → Prop
  ft : World → Nat → Prop
  ok : σ → Ev → Prop
  step : σ → Ev → σ
  lt : ∀ s W k, St s W → ft W k → k < W.heap.size
  kept : ∀ s W W', St s W → (∀ k, ft W k → W'.heap[k]? = W.heap[k]?) → W.heap.size ≤ W'.heap.size → St s W' ∧ ∀ k, ft W' k ↔ ft W k
  eb : ∀ args w, (callFunc nb args).run Try.prog w = .ok (.enter nb args) w
  et : ∀ args w, (callFunc nt args).run Try.prog w = .ok (.enter nt args) w
  ee : ∀ args w, (callFunc ne args).run Try.prog w = .ok (.enter ne args) w
  cb : ∀ s W, St s W → ok s .bgn → Calls Try.prog nb #[p] W fun e W' => e = .returned (.tuple #[]) ∧ St (step s .bgn) W' ∧ Chg (ft W) (ft W') W W'
  ct : ∀ s t W, St s W → ok s (.txt t) → Calls Try.prog nt #[p, .string (str t)] W fun e W' => e = .returned (.tuple #[]) ∧ St (step s (.txt t)) W' ∧ Chg (ft W) (ft W') W W'
  ce : ∀ s W, St s W → ok s .fin → Calls Try.prog ne #[p] W fun e W' => e = .returned (.tuple #[]) ∧ St (step s .fin) W' ∧ Chg (ft W) (ft W') W W'
def runE {σ : Type} (st : σ → Ev → σ) : σ → List Ev → σ
  | s, [] => s
  | s, e :: r => runE st (st s e) r
def goodE {σ : Type} (st : σ → Ev → σ) (ok : σ → Ev → Prop) : σ → List Ev → Prop
  | _, [] => True
  | s, e :: r => ok s e ∧ goodE st ok (st s e) r
theorem runE_app {σ : Type} (st : σ → Ev → σ) : ∀ (a b : List Ev) (s : σ), runE st s (a ++ b) = runE st (runE st s a) b
  | [], _, _ => rfl
  | _ :: r, b, s => runE_app st r b (st s _)
theorem goodE_app {σ : Type} (st : σ → Ev → σ) (ok : σ → Ev → Prop) : ∀ (a b : List Ev) (s : σ), goodE st ok s (a ++ b) ↔ goodE st ok s a ∧ goodE st ok (runE st s a) b
  | [], _, _ => by simp [goodE, runE]
  | e :: r, b, s => by
    show ok s e ∧ goodE st ok (st s e) (r ++ b) ↔ (ok s e ∧ goodE st ok (st s e) r) ∧ goodE st ok (runE st (st s e) r) b
    rw [goodE_app st ok r b (st s e), and_assoc]
/-- What is still to come, as values. -/
def Pend (S : Nat → Prop) : List Fo → List Value → World → Prop
  | [], ys, _ => ys = []
  | f :: q, ys, W => ∃ y r, ys = y :: r ∧ SlF S f y W ∧ Pend S q r W
theorem Pend.kept {S : Nat → Prop} {W W' : World} (hb : ∀ k, S k → W'.heap[k]? = W.heap[k]?) : ∀ (q : List Fo) (ys : List Value), Pend S q ys W → Pend S q ys W'
  | [], _, h => h
  | _ :: q, _, ⟨y, r, e, h1, h2⟩ => ⟨y, r, e, h1.kept hb, Pend.kept hb q r h2⟩
theorem Pend.length {S : Nat → Prop} {W : World} : ∀ (q : List Fo) (ys : List Value), Pend S q ys W → ys.length = q.length
  | [], _, h => by cases h; rfl
  | _ :: q, _, ⟨y, r, e, h1, h2⟩ => by subst e; simp [Pend.length q r h2]
theorem evP_len : ∀ q : List Fo, q.length ≤ (evP q).length
  | [] => Nat.le_refl _
  | f :: q => by have := evP_len q; simp [evP]; omega
end Go.Proofs.Ytgaaalacoeainaa
