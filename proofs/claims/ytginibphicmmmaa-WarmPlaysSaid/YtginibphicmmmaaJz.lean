/- WarmLogs: what the law notes for itself; topics copied by append. -/
import Derived.Test.YtginibphicmmmaaJy
import Derived.Test.YtginibphicmmmaaJr
namespace Go.Proofs.Ytginibphicmmmaa
open Go.RowKit Go.Maps Go.Shelf Mp

theorem run_append_words {W : World} {tv : Value} {ws : List Wq} {B : Nat} (h : WordsAt W tv ws) (h32 : ws.length * 32 ≤ 140737488355328) (hB : B ≤ W.heap.size) (ty : TypeId) :
    ∃ t' W', (Builtin.append_ #[31, 31] ty #[.slice none 0 0, tv]).run Try.prog W = .ok t' W' ∧ W'.ownsRow B 46 4 t' ws.length (wordsC ws) ∧ W.grownBy W' none := by
  obtain ⟨i0, hi, hz0, hz1, hz2⟩ := info_parts infoWord
  obtain ⟨pa, c, rfl, h1, h2⟩ := h
  cases pa with
  | none =>
    obtain ⟨rfl, rfl⟩ := h1 rfl
    exact ⟨_, W, run_append_owned_none (P := Try.prog) (w := W) B 31 ty 46 i0 4 Try.underlying31 hi (.slice none 0 0) 0 [] (World.ownsRow_nil _ _ _ _), World.ownsRow_nil _ _ _ _, ⟨rfl, rfl, rfl, Nat.le_refl _, fun _ _ _ => rfl⟩⟩
  | some ad =>
    obtain ⟨v', W', hr, k1, k2, _, _⟩ := run_append_own_at (P := Try.prog) W B 31 ty 46 i0 _ 4 32 Try.underlying31 hi hz0 hz1 hz2 rfl (by omega) (.slice none 0 0) 0 [] (World.ownsRow_nil _ _ _ _) ad ws.length c (wordsC ws) (wordsC_len ws) (h2 ad rfl).2 (wordsC_one ws) (by unfold maxLen; omega) (by omega) hB
    rw [Nat.zero_add, List.nil_append] at k1
    exact ⟨v', W', hr, k1, k2⟩
theorem wpList_append_words {ops : Array Oper} {rest : List Oper} {o : Oper} {a : Act} {Q : Exit → Act → World → Prop} {W : World} (hgd : o.guard = none) (x : Operand)
    (ho : o.op = .call { callee := .builtin .append, args := #[.const (.slice none 0 0), x], argTypes := #[31, 31] }) {tv : Value} {ws : List Wq} {B : Nat} (hx : a.eval x = tv) (h : WordsAt W tv ws) (h32 : ws.length * 32 ≤ 140737488355328) (hB : B ≤ W.heap.size)
    (hK : ∀ t' W', W'.ownsRow B 46 4 t' ws.length (wordsC ws) → W.grownBy W' none → wpList Try.prog ops Q rest (a.put o.dst t') W') : wpList Try.prog ops Q (o :: rest) a W := by
  refine wpList_plain hgd fun K hK' => ?_
  obtain ⟨t', W', hr, k1, k2⟩ := run_append_words h h32 hB o.type
  have h0 : a.eval (.const (.slice none 0 0)) = .slice none 0 0 := rfl
  unfold Oper.wp execOp
  simp only [ho, resolve, invoke, builtin, Sem.run_bind, Sem.run_pure, Result.andThen_ok, List.map_toArray, List.map_cons, List.map_nil, h0, hx, hr]
  exact hK' _ _ (hK t' W' k1 k2)
theorem wp_append_words {o : Oper} {a : Act} {K : Act → World → Prop} {Q : Exit → Act → World → Prop} {W : World} (x : Operand)
    (ho : o.op = .call { callee := .builtin .append, args := #[.const (.slice none 0 0), x], argTypes := #[31, 31] }) {tv : Value} {ws : List Wq} {B : Nat} (hx : a.eval x = tv) (h : WordsAt W tv ws) (h32 : ws.length * 32 ≤ 140737488355328) (hB : B ≤ W.heap.size)
    (hK : ∀ t' W', W'.ownsRow B 46 4 t' ws.length (wordsC ws) → W.grownBy W' none → K (a.put o.dst t') W') : Oper.wp Try.prog o a W K Q := by
  obtain ⟨t', W', hr, k1, k2⟩ := run_append_words h h32 hB o.type
  have h0 : a.eval (.const (.slice none 0 0)) = .slice none 0 0 := rfl
  unfold Oper.wp execOp
  simp only [ho, resolve, invoke, builtin, Sem.run_bind, Sem.run_pure, Result.andThen_ok, List.map_toArray, List.map_cons, List.map_nil, h0, hx, hr]
  exact hK t' W' k1 k2
section
variable {b n : Nat} {L : List Cg} {J : World → Prop} {gt : Nat → Prop} {B : List (Nat × Obj)} {W V : World}
theorem StJ.log (h : StJ L b n J gt B W V) (hn : n < 1000000000) {l : LogP} {tv : Value} (hw : WordsAt V tv l.tops) (ha : l.addr.length ≤ big) (hd : l.data.length ≤ big) (h32 : l.tops.length * 32 ≤ 140737488355328) :
    Calls Try.prog 22 #[ptr b, logV l tv] V fun e V' => e = .returned (.tuple #[]) ∧ StJ (.log l :: L) b (n + 1) J gt B W V' := by
  obtain ⟨x, M⟩ := h
  exact (log_c M.an.ob.it hn hw ha hd h32).mono fun e V' h => ⟨h.1, StJ.step M h.2⟩
theorem StJ.logs (h : StJ L b n J gt B W V) (hn : n < 1000000000) (h32 : ∀ l ∈ logsOf L, l.tops.length * 32 ≤ 140737488355328) :
    Calls Try.prog 14 #[ptr b] V fun e V' => ∃ pa c, e = .returned (.slice pa (logsOf L).length c) ∧ LogsAt V' (.slice pa (logsOf L).length c) (logsOf L) ∧ StJ L b n J gt B W V' ∧ Below V.heap.size V V' := by
  obtain ⟨x, M⟩ := h
  refine (logs_c M.an.ob.it hn h32).mono ?_
  rintro e V' ⟨v, rfl, h1, h2⟩
  have h3 := h1
  obtain ⟨pa, c, rfl, _⟩ := h1
  exact ⟨pa, c, rfl, h3, StJ.call ⟨x, M⟩ h2, h2⟩
end
/-- A list of logs that the law itself has put together. -/
structure Wt (ls : List LogP) (v : Value) (ts : List Value) (fx : List (Nat × Obj)) (W : World) : Prop where
  row : W.ownsRow 0 33 3 v ls.length (logCells ls ts)
  tops : Tops fx ls ts
  fix : ∀ p ∈ fx, W.heap[p.1]? = some p.2
def wtF (v : Value) (fx : List (Nat × Obj)) (k : Nat) : Prop := v.ownBlock = some k ∨ ∃ o, (k, o) ∈ fx
theorem Wt.ob {ls : List LogP} {v : Value} {ts : List Value} {fx : List (Nat × Obj)} {W : World} (h : Wt ls v ts fx W) : Ob (Wt ls v ts fx) (wtF v fx) W :=
  ⟨h, fun k hk => hk.elim (fun e => (World.ownsRow.lt h.row k e).2) fun ⟨_, ho⟩ => lt_of (h.fix _ ho), fun _ hV => ⟨own_keep h.row fun k e => hV k (Or.inl e), h.tops, fun p hp => (hV p.1 (Or.inr ⟨p.2, hp⟩)).trans (h.fix p hp)⟩⟩
theorem Wt.logsAt {ls : List LogP} {v : Value} {ts : List Value} {fx : List (Nat × Obj)} {W : World} (h : Wt ls v ts fx W) : LogsAt W v ls := by
  rcases h.row.2 with ⟨e1, e2⟩ | ⟨g, cap, cur, e1, _, hg, h1, h2, h3, h4⟩
  · refine ⟨none, 0, by rw [e1, e2], fun i l hl => ?_⟩
    rw [List.length_eq_zero_iff.1 e2] at hl
    simp at hl
  · refine ⟨some ⟨g, 0, none⟩, cap, e1, fun i l hl => ?_⟩
    obtain ⟨t, ht, htop⟩ := h.tops.get hl
    have hi : i < ls.length := (List.getElem?_eq_some_iff.1 hl).1
    have hc : ∀ j, j < 3 → W.cell? ⟨g, 0 + (i * 3 + j), none⟩ = (logE l t)[j]? := fun j hj => by
      rw [Nat.zero_add, cell_of hg, ← logCells_at hl ht j hj, ← h4]
      rw [List.getElem?_take_of_lt (by omega)]; simp
    exact ⟨g, 0, t, rfl, lt_of hg, hc 0 (by omega), hc 1 (by omega), hc 2 (by omega), htop.words fun p hp => h.fix p hp⟩
theorem Wt.nil (W : World) : Wt [] (.slice none 0 0) [] [] W := ⟨World.ownsRow_nil _ _ _ _, trivial, fun _ h => (by cases h)⟩
/-- One log more, with its own row of topics. -/
theorem Wt.snoc {ls : List LogP} {v v' : Value} {ts : List Value} {fx : List (Nat × Obj)} {V0 V1 V2 V3 : World} {l : LogP} {t' : Value} (h : Wt ls v ts fx V0) (ht : V1.ownsRow V0.heap.size 46 4 t' l.tops.length (wordsC l.tops)) (g1 : V0.grownBy V1 none)
    (b2 : Below V1.heap.size V1 V2) (hrow : V3.ownsRow 0 33 3 v' (ls.length + 1) (logCells ls ts ++ logE l t')) (g3 : V2.grownBy V3 v.ownBlock) (hv : v'.ownBlock = v.ownBlock ∨ v'.ownBlock = some V2.heap.size) (hfv : ∀ p ∈ fx, v.ownBlock ≠ some p.1) :
    ∃ fx', Wt (ls ++ [l]) v' (ts ++ [t']) fx' V3 ∧ (∀ p ∈ fx', v'.ownBlock ≠ some p.1) ∧ Chg (wtF v fx) (wtF v' fx') V0 V3 := by
  have c1 : Chg (wtF v fx) (wtF v fx) V0 V1 := Chg.of_below (grown_below g1 (Nat.le_refl _))
  have c2 : Chg (wtF v fx) (wtF v fx) V1 V2 := Chg.of_below b2
  have c3 : Chg (wtF v fx) (wtF v fx) V2 V3 := chg_grown g3 fun k hk => Or.inl hk
  have C := (c1.trans c2).trans c3
  have hvlt : ∀ k, v.ownBlock = some k → k < V0.heap.size := fun k hk => (World.ownsRow.lt h.row k hk).2
  have hs01 : V0.heap.size ≤ V1.heap.size := g1.size
  obtain ⟨new, hnew, htop⟩ : ∃ new : List (Nat × Obj), (∀ p ∈ new, V1.heap[p.1]? = some p.2 ∧ V0.heap.size ≤ p.1) ∧ TopAt new t' l.tops := by
    rcases ht.2 with ⟨e1, e2⟩ | ⟨g2, cap2, cur, e1, hB, hg, h1, h2, h3, h4⟩
    · exact ⟨[], fun _ h => (by cases h), Or.inl ⟨List.length_eq_zero_iff.1 e2, e1⟩⟩
    · exact ⟨[(g2, .cells cur 46 (0, 0))], fun p hp => by rw [List.mem_singleton] at hp; subst hp; exact ⟨hg, hB⟩, Or.inr ⟨g2, cap2, cur, e1, List.mem_singleton.2 rfl, h1, h2, h3, h4⟩⟩
  have hvn : ∀ k, v'.ownBlock = some k → v.ownBlock = some k ∨ V2.heap.size ≤ k := fun k hk => hv.imp (fun e => by rw [← e]; exact hk) fun e => by rw [e] at hk; cases hk; exact Nat.le_refl _
  refine ⟨new ++ fx, ⟨by rw [logCells_snoc h.tops.len, List.length_append]; exact hrow, Tops.snoc (htop.more fun z hz => List.mem_append_left _ hz) (h.tops.more fun z hz => List.mem_append_right _ hz), fun p hp => ?_⟩, fun p hp e => ?_, ⟨C.os, C.tape, C.output, C.size, C.block, fun k hk => ?_⟩⟩
  · rcases List.mem_append.1 hp with hp | hp
    · obtain ⟨k1, k2⟩ := hnew p hp
      have h2 : V2.heap[p.1]? = some p.2 := (b2.block _ (lt_of k1)).trans k1
      exact (g3.block _ (lt_of h2) fun e => by have := hvlt _ e.symm; omega).trans h2
    · have h0 := h.fix p hp
      have h1 : V1.heap[p.1]? = some p.2 := (g1.block _ (lt_of h0) (by simp)).trans h0
      have h2 : V2.heap[p.1]? = some p.2 := (b2.block _ (lt_of h1)).trans h1
      exact (g3.block _ (lt_of h2) fun e => hfv p hp e.symm).trans h2
  · rcases hvn _ e with e | e
    · rcases List.mem_append.1 hp with hp | hp
      · have := (hnew p hp).2; have := hvlt _ e; omega
      · exact hfv p hp e
    · rcases List.mem_append.1 hp with hp | hp
      · have := lt_of (hnew p hp).1; have := b2.size; omega
      · have := lt_of (h.fix p hp); have := b2.size; omega
  · rcases hk with e | ⟨o, ho⟩
    · rcases hvn _ e with e | e
      · exact Or.inl (Or.inl e)
      · exact Or.inr (Nat.le_trans hs01 (Nat.le_trans b2.size e))
    · rcases List.mem_append.1 ho with ho | ho
      · exact Or.inr (hnew _ ho).2
      · exact Or.inl (Or.inr ⟨o, ho⟩)
end Go.Proofs.Ytginibphicmmmaa
