/- Slices of the reference's items that grow; an item amid others. -/
import Derived.Test.YtgaaalacoeainaaLt6
namespace Go.Proofs.Ytgaaalacoeainaa
open Go.RowKit

theorem infoItemR : (Try.prog.info? 35).map (fun i => (i.zero, i.size, i.bytes)) = some (some (.agg #[.bool false, .string ⟨#[]⟩, .slice none 0 0]), 3, 48) := by kernel_rfl
/-- A slice of items that the call has made, from block B on, and that may grow. -/
def OwnR (B : Nat) (f : Fo) (v : Value) (W : World) : Prop :=
  ∃ (S : Nat → Prop) (xs : List Value), W.ownsRow B 35 3 v f.len xs ∧ Cel S f xs W ∧ ∀ k, S k → B ≤ k ∧ k < W.heap.size ∧ v.ownBlock ≠ some k
theorem OwnR.sl {B : Nat} {f : Fo} {v : Value} {W : World} (h : OwnR B f v W) : SlF (fun k => B ≤ k ∧ k < W.heap.size) f v W := by
  obtain ⟨S, xs, ho, hc, hS⟩ := h
  have hc' := hc.mono (T := fun k => B ≤ k ∧ k < W.heap.size) (fun k hk => ⟨(hS k hk).1, (hS k hk).2.1⟩) f xs
  rcases ho.2 with ⟨rfl, h0⟩ | ⟨g, cap, cur, rfl, hb, hg, hn, _, _, _⟩
  · left
    refine ⟨rfl, ?_⟩
    cases f with
    | nil => rfl
    | text s r => simp [Fo.len] at h0
    | list i r => simp [Fo.len] at h0
  · right
    refine ⟨g, 0, cap, rfl, ⟨hb, lt_of hg⟩, hn, ?_⟩
    refine Cel.at f xs 0 (fun j u hj => ?_) hc'
    have h := ho.cells (g := g) rfl j u hj
    have e : (⟨g, 0, none⟩ : Addr).add j = ⟨g, j, none⟩ := by unfold Addr.add; split <;> simp_all
    rw [e] at h
    rw [Nat.zero_add]; exact h
theorem OwnR.nil (B : Nat) (W : World) : OwnR B .nil (.slice none 0 0) W := ⟨fun _ => False, [], World.ownsRow_nil _ _ _ _, rfl, fun _ h => h.elim⟩
/-- It stays while its blocks stay. -/
theorem OwnR.kept {B : Nat} {f : Fo} {v : Value} {W W' : World} (h : OwnR B f v W) (hb : ∀ k, B ≤ k → k < W.heap.size → W'.heap[k]? = W.heap[k]?) (hs : W.heap.size ≤ W'.heap.size) : OwnR B f v W' := by
  obtain ⟨S, xs, ho, hc, hS⟩ := h
  refine ⟨S, xs, ?_, hc.kept (fun k hk => hb k (hS k hk).1 (hS k hk).2.1) f xs, fun k hk => ⟨(hS k hk).1, Nat.lt_of_lt_of_le (hS k hk).2.1 hs, (hS k hk).2.2⟩⟩
  refine ⟨ho.1, ?_⟩
  rcases ho.2 with h0 | ⟨g, cap, cur, rfl, hbg, hg, rest⟩
  · exact Or.inl h0
  · exact Or.inr ⟨g, cap, cur, rfl, hbg, (hb g hbg (lt_of hg)).trans hg, rest⟩
theorem OwnR.blk {B : Nat} {f : Fo} {v : Value} {W : World} (h : OwnR B f v W) : ∀ k, v.ownBlock = some k → B ≤ k ∧ k < W.heap.size := by
  obtain ⟨S, xs, ho, _⟩ := h
  exact ho.lt
theorem OwnR.later2 {B g : Nat} {f : Fo} {v : Value} {W W1 : World} (o : Obj) (h : OwnR B f v W) (hg : g < B) (ho : Only (fun k => k = g) W.heap.size W W1) : OwnR B f v (W1.alloc o) := by
  refine (h.kept (fun k hk hk2 => ho.block k hk2 (by omega)) ho.size).kept (fun k _ hk2 => Below.heap_alloc _ _ _ hk2) (by simp)
/-- One item more. -/
theorem wpList_append_itemR {ops : Array Oper} {rest : List Oper} {o : Oper} {a : Act} {Q : Exit → Act → World → Prop} {W : World} (hgd : o.guard = none) (s x : Operand)
    (ho : o.op = .call { callee := .builtin .append, args := #[s, x], argTypes := #[33, 33] })
    (B : Nat) (v : Value) (f : Fo) (it : It) (b : Bool) (t : ByteArray) (l : Value) (S : Nat → Prop) (hs : a.eval s = v) (h : OwnR B f v W) (hS : ∀ k, S k → B ≤ k ∧ k < W.heap.size ∧ v.ownBlock ≠ some k)
    (hone : l.oneCell' = true) (hcel : Cel S (it.fo .nil) [.bool b, .string t, l] W)
    (q : Nat) (hx : a.eval x = .slice (some ⟨q, 0, none⟩) 1 1) (hz : W.heap[q]? = some (.cells #[.bool b, .string t, l] 35 (0, 0))) (hB : B ≤ W.heap.size) (hn : f.len < 1000000)
    (hK : ∀ v' W', OwnR B (f.app (it.fo .nil)) v' W' → W.grownBy W' v.ownBlock → (v'.ownBlock = v.ownBlock ∨ v'.ownBlock = some W.heap.size) → wpList Try.prog ops Q rest (a.put o.dst v') W') : wpList Try.prog ops Q (o :: rest) a W := by
  obtain ⟨i0, hi, hz0, hz1, hz2⟩ := info_parts infoItemR
  obtain ⟨S0, xs, hown, hc, hS0⟩ := h
  have hlen : (it.fo .nil).len = 1 := by cases it <;> rfl
  refine wpList_append_own_at W hgd s x 33 ho B 35 i0 _ 3 48 Try.underlying33 hi hz0 hz1 hz2 rfl (by omega) v f.len xs hs hown ⟨q, 0, none⟩ 1 1 [.bool b, .string t, l] hx rfl ?_ ?_ (by unfold maxLen; omega) (by omega) hB ?_
  · intro j u hj
    have e : (⟨q, 0, none⟩ : Addr).add j = ⟨q, j, none⟩ := by unfold Addr.add; split <;> simp_all
    rw [e, cell_of hz]
    simpa using hj
  · intro u hu
    simp only [List.mem_cons, List.not_mem_nil, or_false] at hu
    rcases hu with rfl | rfl | rfl
    · rfl
    · rfl
    · exact hone
  · intro v' W' h1 h2 h3 h4
    refine hK v' W' ?_ h2 h4
    have hk0 : ∀ k, S0 k → W'.heap[k]? = W.heap[k]? := fun k hk => h2.block k (hS0 k hk).2.1 (fun e => (hS0 k hk).2.2 e.symm)
    have hk1 : ∀ k, S k → W'.heap[k]? = W.heap[k]? := fun k hk => h2.block k (hS k hk).2.1 (fun e => (hS k hk).2.2 e.symm)
    refine ⟨fun k => S0 k ∨ S k, xs ++ [.bool b, .string t, l], ?_, ?_, ?_⟩
    · rw [Fo.len_app, hlen]; exact h1
    · exact Cel.app ((hcel.kept hk1 _ _).mono (fun _ h => Or.inr h) _ _) _ _ ((hc.kept hk0 _ _).mono (fun _ h => Or.inl h) _ _)
    · intro k hk
      have hkk : B ≤ k ∧ k < W.heap.size ∧ v.ownBlock ≠ some k := hk.elim (hS0 k) (hS k)
      refine ⟨hkk.1, Nat.lt_of_lt_of_le hkk.2.1 h2.size, ?_⟩
      rcases h4 with h4 | h4
      · rw [h4]; exact hkk.2.2
      · rw [h4]; intro e; injection e with e; omega

/-- One item more. -/
theorem wp_append_itemR {o : Oper} {a : Act} {K : Act → World → Prop} {Q : Exit → Act → World → Prop} {W : World} (s x : Operand)
    (ho : o.op = .call { callee := .builtin .append, args := #[s, x], argTypes := #[33, 33] })
    (B : Nat) (v : Value) (f : Fo) (it : It) (b : Bool) (t : ByteArray) (l : Value) (S : Nat → Prop) (hs : a.eval s = v) (h : OwnR B f v W) (hS : ∀ k, S k → B ≤ k ∧ k < W.heap.size ∧ v.ownBlock ≠ some k)
    (hone : l.oneCell' = true) (hcel : Cel S (it.fo .nil) [.bool b, .string t, l] W)
    (q : Nat) (hx : a.eval x = .slice (some ⟨q, 0, none⟩) 1 1) (hz : W.heap[q]? = some (.cells #[.bool b, .string t, l] 35 (0, 0))) (hB : B ≤ W.heap.size) (hn : f.len < 1000000)
    (hK : ∀ v' W', OwnR B (f.app (it.fo .nil)) v' W' → W.grownBy W' v.ownBlock → (v'.ownBlock = v.ownBlock ∨ v'.ownBlock = some W.heap.size) → K (a.put o.dst v') W') : Oper.wp Try.prog o a W K Q := by
  obtain ⟨i0, hi, hz0, hz1, hz2⟩ := info_parts infoItemR
  obtain ⟨S0, xs, hown, hc, hS0⟩ := h
  have hlen : (it.fo .nil).len = 1 := by cases it <;> rfl
  obtain ⟨v', W', hr, h1, h2, h3, h4⟩ := run_append_own_at (P := Try.prog) W B 33 o.type 35 i0 _ 3 48 Try.underlying33 hi hz0 hz1 hz2 rfl (by omega) v f.len xs hown ⟨q, 0, none⟩ 1 1 [.bool b, .string t, l] rfl (by
    intro j u hj
    have e : (⟨q, 0, none⟩ : Addr).add j = ⟨q, j, none⟩ := by unfold Addr.add; split <;> simp_all
    rw [e, cell_of hz]
    simpa using hj) (by
    intro u hu
    simp only [List.mem_cons, List.not_mem_nil, or_false] at hu
    rcases hu with rfl | rfl | rfl
    · rfl
    · rfl
    · exact hone) (by unfold maxLen; omega) (by omega) hB
  unfold Oper.wp execOp
  simp only [ho, resolve, invoke, builtin, Sem.run_bind, Sem.run_pure, Result.andThen_ok, List.map_toArray, List.map_cons, List.map_nil, hs, hx, hr]
  · refine hK v' W' ?_ h2 h4
    have hk0 : ∀ k, S0 k → W'.heap[k]? = W.heap[k]? := fun k hk => h2.block k (hS0 k hk).2.1 (fun e => (hS0 k hk).2.2 e.symm)
    have hk1 : ∀ k, S k → W'.heap[k]? = W.heap[k]? := fun k hk => h2.block k (hS k hk).2.1 (fun e => (hS k hk).2.2 e.symm)
    refine ⟨fun k => S0 k ∨ S k, xs ++ [.bool b, .string t, l], ?_, ?_, ?_⟩
    · rw [Fo.len_app, hlen]; exact h1
    · exact Cel.app ((hcel.kept hk1 _ _).mono (fun _ h => Or.inr h) _ _) _ _ ((hc.kept hk0 _ _).mono (fun _ h => Or.inl h) _ _)
    · intro k hk
      have hkk : B ≤ k ∧ k < W.heap.size ∧ v.ownBlock ≠ some k := hk.elim (hS0 k) (hS k)
      refine ⟨hkk.1, Nat.lt_of_lt_of_le hkk.2.1 h2.size, ?_⟩
      rcases h4 with h4 | h4
      · rw [h4]; exact hkk.2.2
      · rw [h4]; intro e; injection e with e; omega


/-- The first of some items. -/
theorem At_cons {S : Nat → Prop} {x : It} {r : Fo} {g o : Nat} {W : World} (h : (x.fo r).At S g o W) :
    ∃ b t a n c, W.cell? ⟨g, o, none⟩ = some (.bool b) ∧ W.cell? ⟨g, o + 1, none⟩ = some (.string t) ∧ W.cell? ⟨g, o + 2, none⟩ = some (.slice a n c) ∧ ItV S x (.agg #[.bool b, .string t, .slice a n c]) W ∧ r.At S g (o + 3) W := by
  cases x with
  | text s => exact ⟨false, str s, none, 0, 0, h.1.1, h.1.2.1, h.1.2.2, rfl, h.2⟩
  | list i =>
    obtain ⟨⟨h0, h1, v, h2, h3⟩, h4⟩ := h
    rcases h3 with ⟨rfl, rfl⟩ | ⟨g', o', c, rfl, hS, hc, ha⟩
    · exact ⟨true, ⟨#[]⟩, none, 0, 0, h0, h1, h2, ⟨_, rfl, Or.inl ⟨rfl, rfl⟩⟩, h4⟩
    · exact ⟨true, ⟨#[]⟩, some ⟨g', o', none⟩, i.len, c, h0, h1, h2, ⟨_, rfl, Or.inr ⟨g', o', c, rfl, hS, hc, ha⟩⟩, h4⟩
theorem Fo.cases_it (f : Fo) : f = .nil ∨ ∃ x r, f = It.fo x r := by
  cases f with
  | nil => exact Or.inl rfl
  | text s r => exact Or.inr ⟨.text s, r, rfl⟩
  | list i r => exact Or.inr ⟨.list i, r, rfl⟩
/-- What holds of each of the items. -/
def Fo.All (P : It → Prop) : Fo → Prop
  | .nil => True
  | .text s r => P (.text s) ∧ r.All P
  | .list i r => P (.list i) ∧ r.All P
theorem Fo.all_cons {P : It → Prop} {x : It} {r : Fo} (h : (x.fo r).All P) : P x ∧ r.All P := by cases x <;> exact h
theorem Fo.all_of {P : It → Prop} (ht : ∀ s, P (.text s)) (hl : ∀ i : Fo, i.All P → P (.list i)) (f : Fo) : f.All P := by
  induction f with
  | nil => trivial
  | text s r ih => exact ⟨ht s, ih⟩
  | list i r ih1 ih2 => exact ⟨hl i ih1, ih2⟩
theorem It.all_of {P : It → Prop} (ht : ∀ s, P (.text s)) (hl : ∀ i : Fo, i.All P → P (.list i)) (x : It) : P x := by
  cases x with
  | text s => exact ht s
  | list i => exact hl i (Fo.all_of ht hl i)
theorem fo_len (x : It) (r : Fo) : (x.fo r).len = r.len + 1 := by cases x <;> rfl
end Go.Proofs.Ytgaaalacoeainaa
