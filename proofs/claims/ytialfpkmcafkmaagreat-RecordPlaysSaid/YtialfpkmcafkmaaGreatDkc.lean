/- write, secure, remove: what stands in a file is more, is synced, is gone. -/
import Derived.Test.YtialfpkmcafkmaaGreatDkb
namespace Go.Proofs.YtialfpkmcafkmaaGreat
open Go.RowKit Go.Maps Go.WideElems Go.ChangeMaps Go.MapKept Go.WideMaps

theorem infoByte : (Tryz.prog.info? 5).map (fun i => (i.zero, i.size, i.bytes)) = some (some (.int .u8 0), 1, 1) := by kernel_rfl
/-- A text behind a row of bytes of the call's own: where the new row lies. -/
theorem wpList_append_text {ops : Array Oper} {rest : List Oper} {o : Oper} {a : Act} {Q : Exit → Act → World → Prop} {W : World} (hgd : o.guard = none) (sl x : Operand)
    (ho : o.op = .call { callee := .builtin .append, args := #[sl, x], argTypes := #[80, 9] }) (B : Nat) (v : Value) (n : Nat) (xs : List Value) (hs : a.eval sl = v) (hown : W.ownsRow B 5 1 v n xs) (s : ByteArray) (hx : a.eval x = .string s)
    (hbytes : n + s.size ≤ 140737488355328) (hB : B ≤ W.heap.size)
    (h : ∀ v' W', W'.ownsRow B 5 1 v' (n + s.size) (xs ++ Lib.strCells s) → W.grownBy W' v.ownBlock → (v'.ownBlock = v.ownBlock ∨ v'.ownBlock = some W.heap.size) → wpList Tryz.prog ops Q rest (a.put o.dst v') W') : wpList Tryz.prog ops Q (o :: rest) a W := by
  obtain ⟨i0, hi, hz0, hz1, hz2⟩ := info_parts infoByte
  refine wpList_plain hgd fun K hK => ?_
  obtain ⟨v', w', hr, h2, h3, h4⟩ := Lib.run_append_own_string (P := Tryz.prog) W B 80 9 o.type 5 i0 Tryz.underlying80 Tryz.underlying9 hi hz0 hz1 hz2 v n xs hown s (by unfold maxLen; omega) hbytes hB
  have hl : v'.ownBlock = v.ownBlock ∨ v'.ownBlock = some W.heap.size := by
    rcases hown.2 with ⟨rfl, rfl⟩ | ⟨g, cap, cur, rfl, hbg, hg, hnc, _, hcs, _⟩
    · by_cases hm : s.size = 0
      · left; rw [h4.2 ⟨rfl, hm⟩]
      · have e := hr.symm.trans (run_append_nil_string (P := Tryz.prog) W 80 9 o.type 5 i0 _ Tryz.underlying80 Tryz.underlying9 hi hz0 s (by omega) (by omega) (by rw [hz2]; omega))
        injection e with e _
        right; rw [e]; rfl
    · by_cases hroom : n + s.size ≤ cap
      · have e := hr.symm.trans (Lib.run_append_room_string (P := Tryz.prog) W 80 9 o.type 5 i0 Tryz.underlying80 Tryz.underlying9 hi hz1 g n cap cur hg s hroom (by omega))
        injection e with e _
        left; rw [e]; rfl
      · have e := hr.symm.trans (Lib.run_append_grow_string (P := Tryz.prog) W 80 9 o.type 5 i0 _ Tryz.underlying80 Tryz.underlying9 hi hz0 ⟨g, 0, none⟩ n cap xs (by rw [hz1]; exact hown.1) (hown.cells rfl) s (by omega) (by omega) (by rw [hz2]; exact growslice_fits (by omega) (by omega)))
        injection e with e _
        right; rw [e]; rfl
  unfold Oper.wp execOp
  simp only [ho, resolve, invoke, builtin, Sem.run_bind, Sem.run_pure, Result.andThen_ok, List.map_toArray, List.map_cons, List.map_nil, hs, hx, hr]
  exact hK _ _ (h v' w' h2 h3 hl)

def bytesF : Option Fl → List UInt8
  | none => []
  | some f => f.bs
def synF : Option Fl → Nat
  | none => 0
  | some f => f.syn
section
variable {x : Dk} {W : World}
/-- The blocks of a disk apart. -/
theorem DiskAt.ne (h : DiskAt x W) : x.m ≠ x.d ∧ (∀ s f, x.fs s = some f → f.b ≠ x.d ∧ f.b ≠ x.m ∧ ∀ k, f.v.ownBlock = some k → k ≠ x.d ∧ k ≠ x.m) ∧ ∀ s t f g k, x.fs s = some f → x.fs t = some g → f.v.ownBlock = some k → k ≠ g.b := by
  obtain ⟨D, ⟨es, c, hb, _⟩, _⟩ := h.own
  refine ⟨fun e => ?_, fun s f hs => ⟨fun e => ?_, fun e => ?_, fun k hk => ⟨fun e => ?_, fun e => ?_⟩⟩, fun s t f g k hs ht hk e => ?_⟩
  · rw [e, h.cell] at hb; cases hb
  · have hb := (h.file s f hs).cell; rw [e, h.cell] at hb; simp [Dk.cells] at hb
  · have hc := (h.file s f hs).cell; rw [e, hb] at hc; cases hc
  · obtain ⟨cs, hg⟩ := own_block (h.file s f hs).row hk; rw [e, h.cell] at hg; injection hg with hg; injection hg with _ hg; exact absurd hg (by decide)
  · obtain ⟨cs, hg⟩ := own_block (h.file s f hs).row hk; rw [e, hb] at hg; cases hg
  · obtain ⟨cs, hg⟩ := own_block (h.file s f hs).row hk; rw [e, (h.file t g ht).cell] at hg; injection hg with hg; injection hg with _ hg; exact absurd hg (by decide)
/-- A new file, empty. -/
theorem DiskAt.fresh (h : DiskAt x W) {s : Nm} (hs : x.fs s = none) {D : DataW Unit} (hD : Maps.IsMap D) (hat : ∀ t, D.atKey (.string t) .nil = encF (x.fs t)) (hhas : ∀ t, Maps.has D (.string t) = (x.fs t).isSome) {W2 : World}
    (ho : W2.ownsMap Tryz.prog 9 ptrElem x.m (x.n + 1) (D.put (.string s) (.lit (.int .i64 (W.heap.size : Nat)))))
    (hg : (W.alloc (.cells #[.slice none 0 0, .int .i64 0] 82)).grownBy W2 (some x.m)) :
    DiskAt { x with n := x.n + 1, fs := updF x.fs s (some ⟨W.heap.size, .slice none 0 0, [], 0⟩) } W2 ∧ Chg x.ft (Dk.ft { x with n := x.n + 1, fs := updF x.fs s (some ⟨W.heap.size, .slice none 0 0, [], 0⟩) }) W W2 := by
  obtain ⟨hmd, hne, _⟩ := h.ne
  have hk : ∀ k, k < W.heap.size → k ≠ x.m → W2.heap[k]? = W.heap[k]? := fun k hk hm => (hg.block k (by simp; omega) (by simpa using hm)).trans (Below.heap_alloc _ _ _ hk)
  have hml := h.lt (k := x.m) (Or.inr (Or.inl rfl))
  refine ⟨⟨?_, ⟨_, ho, fun t => ?_, fun t => ?_⟩, fun t f ht => ?_, fun t t' f g ht ht' htt => ?_⟩, ⟨hg.os, hg.tape, hg.output, by have := hg.size; simp at this; omega, fun k hk1 hk2 => hk k hk1 (fun e => hk2 (Or.inr (Or.inl e))), fun k hk1 => ?_⟩⟩
  · exact (hk _ (h.lt (Or.inl rfl)) (Ne.symm hmd)).trans h.cell
  · by_cases e : t = s
    · subst e; rw [Maps.atKey_put_same (k := .string t) hD (by simp [WideAt.IsKeyLit])]; simp [updF, encF]
    · rw [Maps.atKey_put_other (by simpa using e), hat]; simp [updF, e]
  · by_cases e : t = s
    · subst e; rw [Maps.has_put_same (k := .string t) hD (by simp [WideAt.IsKeyLit])]; simp [updF]
    · rw [Maps.has_put_other (by simpa using e), hhas]; simp [updF, e]
  · by_cases e : t = s
    · subst e
      simp only [updF, if_true, Option.some.injEq] at ht
      subst ht
      refine ⟨?_, ?_⟩
      · exact (hg.block W.heap.size (by simp) (by simp; omega)).trans (heap_alloc_new _ _)
      · exact ⟨rfl, Or.inl ⟨rfl, rfl⟩⟩
    · simp only [updF, e, if_false] at ht
      have hf := h.file t f ht
      exact hf.kept (hk _ (h.lt (Or.inr (Or.inr ⟨t, f, ht, Or.inl rfl⟩))) (hne t f ht).2.1) (fun k hb => hk _ (h.lt (Or.inr (Or.inr ⟨t, f, ht, Or.inr hb⟩))) ((hne t f ht).2.2 k hb).2)
  · have hlt : ∀ r u, x.fs r = some u → u.b ≠ W.heap.size := fun r u hr => by have := h.lt (k := u.b) (Or.inr (Or.inr ⟨r, u, hr, Or.inl rfl⟩)); omega
    simp only [updF] at ht ht'
    split at ht <;> split at ht'
    · rename_i e1 e2; exact absurd (e1.trans e2.symm) htt
    · cases ht; exact ⟨fun e => hlt _ _ ht' e.symm, fun k hb => by cases hb⟩
    · cases ht'; exact ⟨hlt _ _ ht, fun k _ hb => by cases hb⟩
    · exact h.apart t t' f g ht ht' htt
  · rcases hk1 with e | e | ⟨t, f, ht, hk1⟩
    · exact Or.inl (Or.inl e)
    · exact Or.inl (Or.inr (Or.inl e))
    · simp only [updF] at ht
      split at ht
      · cases ht
        rcases hk1 with e | e
        · exact Or.inr (by rw [e]; exact Nat.le_refl _)
        · cases e
      · exact Or.inl (Or.inr (Or.inr ⟨t, f, ht, hk1⟩))
/-- A file whose cells are others: its own block and its row have turned, nothing else of the disk's. -/
theorem DiskAt.turn (h : DiskAt x W) {s : Nm} {f f' : Fl} (hf : x.fs s = some f) {W2 : World} (hb : f'.b = f.b) (hk : ∀ k, k < W.heap.size → k ≠ f.b → f.v.ownBlock ≠ some k → W2.heap[k]? = W.heap[k]?) (hat : FileAt f' W2)
    (hv : ∀ k, f'.v.ownBlock = some k → f.v.ownBlock = some k ∨ W.heap.size ≤ k) (hos : W2.os = W.os) (htp : W2.tape = W.tape) (hout : W2.output = W.output) (hsz : W.heap.size ≤ W2.heap.size) :
    DiskAt { x with fs := updF x.fs s (some f') } W2 ∧ Chg x.ft (Dk.ft { x with fs := updF x.fs s (some f') }) W W2 := by
  obtain ⟨hmd, hne, hrb⟩ := h.ne
  obtain ⟨D, ho, h2, h3⟩ := h.own
  have hfx : x.ft f.b := Or.inr (Or.inr ⟨s, f, hf, Or.inl rfl⟩)
  have hfl : f.b < W.heap.size := h.lt hfx
  refine ⟨⟨?_, ⟨D, ownsMap_keep ho ?_, fun t => ?_, fun t => ?_⟩, fun t g ht => ?_, fun t t' g g' ht ht' htt => ?_⟩, ⟨hos, htp, hout, hsz, fun k hk1 hk2 => hk k hk1 (fun e => hk2 (e ▸ hfx)) (fun e => hk2 (Or.inr (Or.inr ⟨s, f, hf, Or.inr e⟩))), fun k hk1 => ?_⟩⟩
  · exact (hk _ (h.lt (Or.inl rfl)) (Ne.symm (hne s f hf).1) (fun e => ((hne s f hf).2.2 _ e).1 rfl)).trans h.cell
  · exact hk _ (h.lt (Or.inr (Or.inl rfl))) (Ne.symm (hne s f hf).2.1) (fun e => ((hne s f hf).2.2 _ e).2 rfl)
  · rw [h2]
    by_cases e : t = s
    · subst e; simp [updF, hf, encF, hb]
    · simp [updF, e]
  · rw [h3]
    by_cases e : t = s
    · subst e; simp [updF, hf]
    · simp [updF, e]
  · simp only [updF] at ht
    split at ht
    · cases ht; exact hat
    · rename_i e
      have ha := h.apart t s g f ht hf e
      refine (h.file t g ht).kept (hk _ (h.lt (Or.inr (Or.inr ⟨t, g, ht, Or.inl rfl⟩))) ha.1 (fun e2 => hrb s t f g _ hf ht e2 rfl)) (fun k hb2 => hk _ (h.lt (Or.inr (Or.inr ⟨t, g, ht, Or.inr hb2⟩))) (hrb t s g f k ht hf hb2) (fun e2 => ha.2 k hb2 e2))
  · simp only [updF] at ht ht'
    have hlt : ∀ r u k, x.fs r = some u → u.v.ownBlock = some k → k < W.heap.size := fun r u k hr hk => h.lt (Or.inr (Or.inr ⟨r, u, hr, Or.inr hk⟩))
    split at ht <;> split at ht'
    · rename_i e1 e2; exact absurd (e1.trans e2.symm) htt
    · rename_i e1 e2; subst e1; cases ht
      have ha := h.apart t t' f g' hf ht' htt
      refine ⟨by rw [hb]; exact ha.1, fun k hk2 hk3 => ?_⟩
      rcases hv k hk2 with h4 | h4
      · exact ha.2 k h4 hk3
      · have := hlt _ _ _ ht' hk3; omega
    · rename_i e1 e2; subst e2; cases ht'
      have ha := h.apart t t' g f ht hf htt
      refine ⟨by rw [hb]; exact ha.1, fun k hk2 hk3 => ?_⟩
      rcases hv k hk3 with h4 | h4
      · exact ha.2 k hk2 h4
      · have := hlt _ _ _ ht hk2; omega
    · exact h.apart t t' g g' ht ht' htt
  · rcases hk1 with e | e | ⟨t, g, ht, hk1⟩
    · exact Or.inl (Or.inl e)
    · exact Or.inl (Or.inr (Or.inl e))
    · simp only [updF] at ht
      split at ht
      · cases ht
        rcases hk1 with e | e
        · exact Or.inl (by rw [e, hb]; exact hfx)
        · exact (hv k e).imp (fun e => Or.inr (Or.inr ⟨s, f, hf, Or.inr e⟩)) id
      · exact Or.inl (Or.inr (Or.inr ⟨t, g, ht, hk1⟩))
/-- A file has more bytes. -/
theorem DiskAt.grow (h : DiskAt x W) {s : Nm} {f : Fl} (hf : x.fs s = some f) {xs : List UInt8} {v' : Value} {W2 : World} (hown : W2.ownsRow 0 5 1 v' (f.bs ++ xs).length (Lib.byteCells (f.bs ++ xs))) (hg : W.grownBy W2 f.v.ownBlock)
    (hl : v'.ownBlock = f.v.ownBlock ∨ v'.ownBlock = some W.heap.size) :
    DiskAt { x with fs := updF x.fs s (some ⟨f.b, v', f.bs ++ xs, f.syn⟩) } (W2.setCell ⟨f.b, 0, none⟩ v') ∧ Chg x.ft (Dk.ft { x with fs := updF x.fs s (some ⟨f.b, v', f.bs ++ xs, f.syn⟩) }) W (W2.setCell ⟨f.b, 0, none⟩ v') ∧
      (W2.cell? ⟨f.b, 0, none⟩ = some f.v ∧ W2.frozen? ⟨f.b, 0, none⟩ = false) ∧ W2.cell? ⟨x.d, 2, none⟩ = some (.int .i64 x.used) ∧ W2.frozen? ⟨x.d, 2, none⟩ = false := by
  obtain ⟨hmd, hne, hrb⟩ := h.ne
  have hfl : f.b < W.heap.size := h.lt (Or.inr (Or.inr ⟨s, f, hf, Or.inl rfl⟩))
  have h2b : W2.heap[f.b]? = _ := (hg.block f.b hfl (fun e => hrb s s f f _ hf hf e.symm rfl)).trans (h.file s f hf).cell
  have hvb : ∀ k, v'.ownBlock = some k → k ≠ f.b := fun k hk => by
    rcases hl with e | e
    · exact hrb s s f f k hf hf (e ▸ hk)
    · rw [e] at hk; injection hk with hk; omega
  have ht := h.turn hf (f' := ⟨f.b, v', f.bs ++ xs, f.syn⟩) (W2 := W2.setCell ⟨f.b, 0, none⟩ v') rfl
    (fun k hk1 hk2 hk3 => (heap_setCell_other _ _ _ _ (by simpa using hk2)).trans (hg.block k hk1 (fun e => hk3 e.symm)))
    ⟨by simpa using heap_setCell_same _ _ 0 _ _ v' h2b, own_keep hown fun k hk => heap_setCell_other _ _ _ _ (by simpa using hvb k hk)⟩
    (fun k hk => by
      rcases hl with e | e
      · exact Or.inl (e ▸ hk)
      · have hk : v'.ownBlock = some k := hk
        rw [e] at hk; injection hk with hk; right; omega)
    hg.os hg.tape hg.output (by have := hg.size; simpa [World.setCell] using this)
  have h2d : W2.heap[x.d]? = _ := (hg.block x.d (h.lt (Or.inl rfl)) (fun e => ((hne s f hf).2.2 _ e.symm).1 rfl)).trans h.cell
  exact ⟨ht.1, ht.2, ⟨cell_of h2b 0, free_of h2b 0⟩, cell_of h2d 2, free_of h2d 2⟩
end
end Go.Proofs.YtialfpkmcafkmaaGreat
