/- What holds of what the disk's calls leave; how many files. -/
import Derived.Test.YtialfpkmcafkmaaGreatP13
namespace Go.Proofs.YtialfpkmcafkmaaGreat
open Go.RowKit

theorem putE_len (L : List Ent) (e : Ent) : (putE L e).length ≤ L.length + 1 := by
  induction L with
  | nil => simp [putE]
  | cons x r ih =>
    simp only [putE]
    split
    · simp
    · split
      · simp
      · simp only [List.length_cons]; omega
theorem putE_len_there {L : List Ent} (hU : Up L) {e f : Ent} (h : getE L e.name = some f) : (putE L e).length = L.length := by
  induction L with
  | nil => cases h
  | cons x r ih =>
    obtain ⟨h1, h2⟩ := hU
    simp only [putE]
    simp only [getE] at h
    split
    · rename_i hl
      exfalso
      split at h
      · rename_i hx; rw [hx] at hl; exact nlt _ hl
      · obtain ⟨k1, k2⟩ := getE_mem h
        have := h1 f k1
        rw [k2] at this
        exact nlt _ (ntr hl this)
    · split
      · simp
      · rename_i hx
        rw [if_neg hx] at h
        simp only [List.length_cons, ih h2 h]
theorem dropE_len {L : List Ent} {s : Nm} {f : Ent} (h : getE L s = some f) : (dropE L s).length + 1 = L.length := by
  induction L with
  | nil => cases h
  | cons x r ih =>
    simp only [dropE]
    simp only [getE] at h
    split
    · simp
    · rename_i hx
      rw [if_neg hx] at h
      have := ih h
      simp only [List.length_cons]; omega
/-- What a call of the disk may leave: k files more at most. -/
structure Gr (k : Nat) (p q : Pd) : Prop where
  ok : q.Ok
  len : q.L.length ≤ p.L.length + k
  room : q.room = p.room
theorem Gr.refl {p : Pd} (h : p.Ok) : Gr 0 p p := ⟨h, by omega, rfl⟩
theorem Gr.trans {k m : Nat} {p q r : Pd} (h : Gr k p q) (g : Gr m q r) : Gr (k + m) p r := ⟨g.ok, by have := h.len; have := g.len; omega, g.room.trans h.room⟩
theorem Gr.mono {k m : Nat} {p q : Pd} (h : Gr k p q) (hm : k ≤ m) : Gr m p q := ⟨h.ok, by have := h.len; omega, h.room⟩
section
variable {p : Pd} {s t xs : Nm}
theorem gr_tick (h : p.Ok) : Gr 0 p p.tick := ⟨h.tick, Nat.le_refl _, rfl⟩
theorem gr_die (h : p.Ok) : Gr 0 p p.die := ⟨h.die, Nat.le_refl _, rfl⟩
theorem gr_append (h : p.Ok) (s xs : Nm) : Gr 1 p (p.append s xs).2 := by
  unfold Pd.append
  split
  · exact (Gr.refl h).mono (by omega)
  · split
    · split
      · rename_i hf
        refine ⟨h.die.app ?_, putE_len _ _, rfl⟩
        have := hf.1
        show usedE p.L + (xs.take (tornN p.torn xs.length)).length ≤ p.room
        rw [List.length_take]; omega
      · exact (gr_die h).mono (by omega)
    · split
      · rename_i hf
        exact ⟨h.tick.app hf, putE_len _ _, rfl⟩
      · exact (gr_tick h).mono (by omega)
theorem gr_sync (h : p.Ok) (s : Nm) : Gr 0 p (p.sync s).2 := by
  unfold Pd.sync Pd.change
  split
  · exact Gr.refl h
  · split
    · exact gr_die h
    · cases hg : getE p.L s with
      | none => exact gr_tick h
      | some e => exact ⟨(h.putS hg e.bs.length (Nat.le_refl _)).2, Nat.le_of_eq (putE_len_there h.up (e := ⟨s, e.bs, e.bs.length⟩) hg), rfl⟩
theorem gr_delete (h : p.Ok) (s : Nm) : Gr 0 p (p.delete s).2 := by
  unfold Pd.delete Pd.change
  split
  · exact Gr.refl h
  · split
    · exact gr_die h
    · cases hg : getE p.L s with
      | none => exact gr_tick h
      | some e => exact ⟨h.dropS hg, by have := dropE_len hg; show (dropE p.L s).length ≤ _; omega, rfl⟩
theorem gr_rename (h : p.Ok) (s t : Nm) : Gr 0 p (p.rename s t).2 := by
  unfold Pd.rename Pd.change
  split
  · exact Gr.refl h
  · split
    · exact gr_die h
    · cases hg : getE p.L s with
      | none => exact gr_tick h
      | some e => exact ⟨h.mv hg t, by have := dropE_len hg; have := putE_len (dropE p.L s) ⟨t, e.bs, e.syn⟩; show (putE (dropE p.L s) ⟨t, e.bs, e.syn⟩).length ≤ _; omega, rfl⟩
theorem gr_discard (h : p.Ok) (s : Nm) : Gr 0 p (p.discard s).2 := by
  unfold Pd.discard
  split
  · exact Gr.refl h
  · exact gr_delete h s
theorem Gr.step {k m : Nat} {f : Pd → Int × Pd} {r : List (Pd → Int × Pd)} (hf : Gr k p (f p).2) (hr : Gr m (f p).2 (runP (f p).2 r).2) : Gr (k + m) p (runP p (f :: r)).2 := by
  rw [runP]
  split
  · exact hf.trans hr
  · exact hf.mono (by omega)
theorem gr_nil (h : p.Ok) : Gr 0 p (runP p []).2 := Gr.refl h
theorem gr_add (h : p.Ok) (name s : Nm) : Gr 1 p (p.add name s).2 := by
  unfold Pd.add
  split
  · have h1 := gr_append h name (fr s)
    have h2 := gr_sync h1.ok name
    exact Gr.step (k := 1) (m := 0) h1 (Gr.step (k := 0) (m := 0) h2 (gr_nil h2.ok))
  · exact (Gr.refl h).mono (by omega)
theorem gr_exchange (h : p.Ok) (name s : Nm) : Gr 1 p (p.exchange name s).2 := by
  unfold Pd.exchange
  have h0 := gr_discard h (fresh name)
  have h1 := gr_append h0.ok (fresh name) s
  have h2 := gr_sync h1.ok (fresh name)
  have h3 := gr_rename h2.ok (fresh name) name
  exact Gr.step (k := 0) (m := 1) h0 (Gr.step (k := 1) (m := 0) h1 (Gr.step (k := 0) (m := 0) h2 (Gr.step (k := 0) (m := 0) h3 (gr_nil h3.ok))))
theorem gr_replace (h : p.Ok) (name s : Nm) : Gr 1 p (p.replace name s).2 := by
  unfold Pd.replace
  split
  · exact gr_exchange h name _
  · exact (Gr.refl h).mono (by omega)
theorem gr_mend (h : p.Ok) (name g : Nm) : Gr 1 p (p.mendW name g).2 := by
  unfold Pd.mendW
  split
  · exact (Gr.refl h).mono (by omega)
  · split
    · have h0 := gr_discard h (fresh name)
      have h1 := gr_delete h0.ok name
      exact (Gr.step (k := 0) (m := 0) h0 (Gr.step (k := 0) (m := 0) h1 (gr_nil h1.ok))).mono (by omega)
    · exact gr_exchange h name g
theorem gr_lost (h : p.Ok) (keep : Int) : Gr 0 p (p.lost keep) := ⟨h.lost keep, by show (p.L.map _).length ≤ _; rw [List.length_map]; omega, rfl⟩
theorem gr_arm (h : p.Ok) (after torn : Int) (ha : -9223372036854775808 ≤ after ∧ after ≤ 9223372036854775807) : Gr 0 p { p with after := after, torn := torn } := ⟨⟨h.up, h.used, h.room, ha, h.syn⟩, Nat.le_refl _, rfl⟩
end
/-- The reference's disk, its row from an earlier block on. -/
theorem Rk.from {p : Pd} {b B B' : Nat} {v : Value} {W : World} (h : Rk p b v B W) (hB : B' ≤ B) : Rk p b v B' W := by
  refine ⟨h.cell, ⟨h.row.1, ?_⟩, Nat.le_trans hB h.ge, h.few⟩
  rcases h.row.2 with h0 | ⟨g, cap, cur, h1, h2, h3⟩
  · exact Or.inl h0
  · exact Or.inr ⟨g, cap, cur, h1, by omega, h3⟩
theorem wp_append_files {o : Oper} {a : Act} {K : Act → World → Prop} {Q : Exit → Act → World → Prop} {W : World} (s x : Operand)
    (ho : o.op = .call { callee := .builtin .append, args := #[s, x], argTypes := #[49, 49] })
    (B : Nat) (v : Value) (L : List Ent) (e : Ent) (hs : a.eval s = v) (h : W.ownsRow B 61 3 v L.length (cellsE L))
    (q : Nat) (hx : a.eval x = .slice (some ⟨q, 0, none⟩) 1 1) (hz : W.heap[q]? = some (.cells (fileCells e) 61 (0, 0))) (hB : B ≤ W.heap.size) (hn : L.length < 1000000)
    (hK : ∀ v' W', W'.ownsRow B 61 3 v' (L ++ [e]).length (cellsE (L ++ [e])) → W.grownBy W' v.ownBlock → (v'.ownBlock = v.ownBlock ∨ v'.ownBlock = some W.heap.size) → K (a.put o.dst v') W') : Oper.wp Tryz.prog o a W K Q := by
  obtain ⟨i0, hi, hz0, hz1, hz2⟩ := info_parts infoFileP
  obtain ⟨v', W', hr, h1, h2, h3, h4⟩ := run_append_own_at (P := Tryz.prog) W B 49 o.type 61 i0 _ 3 40 Tryz.underlying49 hi hz0 hz1 hz2 rfl (by omega) v L.length (cellsE L) h ⟨q, 0, none⟩ 1 1 (cellsE [e]) rfl (by
    intro j u hj
    rw [addr_addP, Nat.zero_add]
    rcases j with _ | _ | _ | j
    · simp [cellsE] at hj; subst hj; exact cell_of hz 0
    · simp [cellsE] at hj; subst hj; exact cell_of hz 1
    · simp [cellsE] at hj; subst hj; exact cell_of hz 2
    · simp [cellsE] at hj) (cellsE_one _) (by unfold maxLen; omega) (by omega) hB
  unfold Oper.wp execOp
  simp only [ho, resolve, invoke, builtin, Sem.run_bind, Sem.run_pure, Result.andThen_ok, List.map_toArray, List.map_cons, List.map_nil, hs, hx, hr]
  refine hK v' W' ?_ h2 h4
  rw [cellsE_app, List.length_append]; exact h1
end Go.Proofs.YtialfpkmcafkmaaGreat
