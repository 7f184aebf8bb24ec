/- What touches: an address, a slot, who was made, who leaves; and the closures that take it back. -/
import Derived.Test.YtginibphicmmmaaJc
import Derived.Deep.CutRange
namespace Go.Proofs.Ytginibphicmmmaa
open Go.RowKit Go.Maps Mp

set_option maxRecDepth 100000 in
set_option maxHeartbeats 2000000 in
theorem undoP_c {m n : Nat} {f : Pl → Option Unit} {W : World} (h : MapFn kitP m n f W) {p : Pl} (hp : p.Ok) {q1 q2 : Nat} (h1 : W.heap[q1]? = some (.cells #[.map (some m)] 60 (0, 0))) (h2 : W.heap[q2]? = some (.cells (plC p) 75 (0, 0))) :
    Calls Try.prog 54 #[ptr q1, ptr q2] W fun e W' => e = .returned (.tuple #[]) ∧ MapFn kitP m n (upf f p none) W' ∧ Chg (fun j => j = m) (fun j => j = m) W W' := by
  obtain ⟨o, HP, hmap⟩ := h.del (k := p) hp 0
  have HM := Lib.hid hmap
  replace HP : (Builtin.delete_ #[60, 75] 0 #[.map (some m), .agg (plC p)]).run Try.prog W = _ := HP
  have a0 := cell_of h1 0
  unfold plC at *
  have f0 := cell_of h2 0
  have f1 := cell_of h2 1
  have f2 := cell_of h2 2
  have f3 := cell_of h2 3
  have f4 := cell_of h2 4
  have f5 := cell_of h2 5
  simp only [List.getElem?_toArray, List.getElem?_cons_zero, List.getElem?_cons_succ] at a0 f0 f1 f2 f3 f4 f5
  unfold ptr
  clear h hp h1 h2 hmap
  go_enter Try.func54, Try.ntmps54
  go_wp2_with fail
  go_end0
  exact ⟨rfl, HM.out, setBlock_chg fun k hk => Or.inl hk⟩
set_option maxRecDepth 100000 in
set_option maxHeartbeats 2000000 in
theorem undoS_c {m n : Nat} {f : Nm → Option Unit} {W : World} (h : MapFn kitS m n f W) {a : Nm} (ha : a.length ≤ big) {q1 q2 : Nat} (h1 : W.heap[q1]? = some (.cells #[.map (some m)] 61 (0, 0))) (h2 : W.heap[q2]? = some (.cells #[.string (str a)] 9 (0, 0))) :
    Calls Try.prog 57 #[ptr q1, ptr q2] W fun e W' => e = .returned (.tuple #[]) ∧ MapFn kitS m n (upf f a none) W' ∧ Chg (fun j => j = m) (fun j => j = m) W W' := by
  obtain ⟨o, HP, hmap⟩ := h.del (k := a) ha 0
  have HM := Lib.hid hmap
  replace HP : (Builtin.delete_ #[61, 9] 0 #[.map (some m), .string (str a)]).run Try.prog W = _ := HP
  have a0 := cell_of h1 0
  have f0 := cell_of h2 0
  simp only [List.getElem?_toArray, List.getElem?_cons_zero] at a0 f0
  unfold ptr
  clear h ha h1 h2 hmap
  go_enter Try.func57, Try.ntmps57
  go_wp2_with fail
  go_end0
  exact ⟨rfl, HM.out, setBlock_chg fun k hk => Or.inl hk⟩
set_option maxRecDepth 100000 in
set_option maxHeartbeats 2000000 in
theorem undoR_c {W : World} {b : Nat} {c0 c1 c2 c3 c4 bv : Value} {old : Int} {q1 q2 : Nat} (hb : W.heap[b]? = some (.cells #[c0, c1, c2, c3, c4, bv] 64 (0, 0))) (h1 : W.heap[q1]? = some (.cells #[.int .i64 old] 2 (0, 0))) (h2 : W.heap[q2]? = some (.cells #[ptr b] 24 (0, 0))) :
    Calls Try.prog 44 #[ptr q1, ptr q2] W fun e W' => e = .returned (.tuple #[]) ∧ W'.heap[b]? = some (.cells #[c0, c1, c2, .int .i64 old, c4, bv] 64 (0, 0)) ∧ Chg (fun j => j = b) (fun j => j = b) W W' := by
  have a0 := cell_of h1 0
  have f0 := cell_of h2 0
  have g3 := free_of hb 3
  have d3 := cell_of hb 3
  simp only [List.getElem?_toArray, List.getElem?_cons_zero, List.getElem?_cons_succ] at a0 f0 d3
  unfold ptr at *
  have HB := Lib.hid hb
  clear hb h1 h2
  go_enter Try.func44, Try.ntmps44
  go_wp2_with fail
  go_end0
  refine ⟨rfl, ?_, chg_set (F := fun j => j = b) (F' := fun j => j = b) (Chg.refl _ W) (Or.inl rfl) 3 _⟩
  have h2 := heap_setCell_same _ _ 3 _ _ (.int .i64 old) HB.out
  simpa using h2
/-- A call's step: a set that tells L' then. -/
def Step (x : Sx) (b : Nat) (L' : List Cg) (n' : Nat) (W W' : World) : Prop := ∃ x', WAt x' b L' n' W' ∧ Chg (x.ft b) (x'.ft b) W W' ∧ x'.mw = x.mw
/-- A change noted of what was not there. -/
def noteBy {K : Type} [DecidableEq K] (g : Cg → Option K) (c : Cg) (k : K) (L : List Cg) : List Cg := if (hasBy g L k).isSome then L else c :: L
theorem plOf_only {c : Cg} {p : Pl} (h : plOf c = some p) : mdOf c = none ∧ gnOf c = none ∧ (∀ L, tot (c :: L) = tot L) ∧ (∀ L, logsOf (c :: L) = logsOf L) ∧ (∀ x b L v, Clo x b L c v ↔ CloP x.fix x.mw p v) := by
  cases c <;> simp [plOf] at h <;> subst h <;> exact ⟨rfl, rfl, fun _ => rfl, fun _ => rfl, fun _ _ _ _ => Iff.rfl⟩
theorem mdOf_only {c : Cg} {a : Nm} (h : mdOf c = some a) : plOf c = none ∧ gnOf c = none ∧ (∀ L, tot (c :: L) = tot L) ∧ (∀ L, logsOf (c :: L) = logsOf L) ∧ (∀ x b L v, Clo x b L c v ↔ CloS x.fix x.mm a v) := by
  cases c <;> simp [mdOf] at h <;> subst h <;> exact ⟨rfl, rfl, fun _ => rfl, fun _ => rfl, fun _ _ _ _ => Iff.rfl⟩
theorem gnOf_only {c : Cg} {a : Nm} (h : gnOf c = some a) : plOf c = none ∧ mdOf c = none ∧ (∀ L, tot (c :: L) = tot L) ∧ (∀ L, logsOf (c :: L) = logsOf L) ∧ (∀ x b L v, Clo x b L c v ↔ CloS x.fix x.mg a v) := by
  cases c <;> simp [gnOf] at h <;> subst h <;> exact ⟨rfl, rfl, fun _ => rfl, fun _ => rfl, fun _ _ _ _ => Iff.rfl⟩
/-- One map's block turned, and a closure more: the set then. -/
theorem touched {x : Sx} {b n m : Nat} {L : List Cg} {W V3 V5 : World} {B : List (Nat × Obj)} {o : Obj} {c : Cg} {bv' v : Value} (M : An (WAt x b L n) (x.ft b) W (x.ft b) B V3) (hm : m = x.mw ∨ m = x.mm ∨ m = x.mg)
    (q1 : V5.heap[b]? = some (.cells #[.map (some x.mw), .map (some x.mm), .map (some x.mg), .int .i64 (tot L), x.lv, bv'] 64 (0, 0))) (q2 : V5.ownsRow 0 1 1 bv' (L.length + 1) (x.vs.reverse ++ [v]))
    (q3 : ∀ j, bv'.ownBlock = some j → x.bv.ownBlock = some j ∨ (ChangeMaps.setBlock V3 m o).heap.size ≤ j) (q4 : Chg (fun j => j = b ∨ x.bv.ownBlock = some j) (fun j => j = b ∨ bv'.ownBlock = some j) (ChangeMaps.setBlock V3 m o) V5)
    (hmw : MapFn kitP x.mw (n + 1) (hasBy plOf (c :: L)) (ChangeMaps.setBlock V3 m o)) (hmm : MapFn kitS x.mm (n + 1) (hasBy mdOf (c :: L)) (ChangeMaps.setBlock V3 m o)) (hmg : MapFn kitS x.mg (n + 1) (hasBy gnOf (c :: L)) (ChangeMaps.setBlock V3 m o))
    (ht : tot (c :: L) = tot L) (hl : logsOf (c :: L) = logsOf L) (hclo : Clo ⟨x.mw, x.mm, x.mg, x.lv, x.ts, bv', v :: x.vs, B ++ x.fix⟩ b L c v) (honce : Once (c :: L)) : Step x b (c :: L) (n + 1) W V5 := by
  have h := M.ob.it
  have s4 : (ChangeMaps.setBlock V3 m o).heap.size = V3.heap.size := setBlock_size
  have keep : ∀ k, k < V3.heap.size → k ≠ b → x.bv.ownBlock ≠ some k → V5.heap[k]? = (ChangeMaps.setBlock V3 m o).heap[k]? := fun k hk h1 h2 => q4.block k (by rw [s4]; exact hk) fun e => e.elim h1 h2
  have keep2 : ∀ k, k < V3.heap.size → k ≠ b → x.bv.ownBlock ≠ some k → k ≠ m → V5.heap[k]? = V3.heap[k]? := fun k hk h1 h2 h3 => (keep k hk h1 h2).trans (setBlock_other h3)
  have mapk : ∀ k, k = x.mw ∨ k = x.mm ∨ k = x.mg → V5.heap[k]? = (ChangeMaps.setBlock V3 m o).heap[k]? := fun k hk => by
    rcases hk with rfl | rfl | rfl
    · exact keep _ h.mw.lt (Ne.symm h.b_ne.1) fun e => (h.bv_ne e).2.1 rfl
    · exact keep _ h.mm.lt (Ne.symm h.b_ne.2.1) fun e => (h.bv_ne e).2.2.1 rfl
    · exact keep _ h.mg.lt (Ne.symm h.b_ne.2.2) fun e => (h.bv_ne e).2.2.2.1 rfl
  have hmv : x.mv b m := by rcases hm with e | e | e; exact Or.inr (Or.inl e); exact Or.inr (Or.inr (Or.inl e)); exact Or.inr (Or.inr (Or.inr (Or.inl e)))
  have hmx : ∀ k, x.lv.ownBlock = some k → k ≠ m := fun k hk e => by
    have h1 := h.lv_ne hk
    rcases hm with e1 | e1 | e1
    · exact h1.2.1 (e.trans e1)
    · exact h1.2.2.1 (e.trans e1)
    · exact h1.2.2.2.1 (e.trans e1)
  have P := h.push (W0 := W) M.chg (c := c) (V := V5) (lv' := x.lv) (bv' := bv') (ts' := x.ts) (v := v) (new := B) (q4.os.trans rfl) (q4.tape.trans rfl) (q4.output.trans rfl) (by rw [← s4]; exact q4.size)
    (fun k hk hn => keep2 k hk (fun e => hn (Or.inl e)) (fun e => hn (Or.inr (Or.inr (Or.inr (Or.inr (Or.inr e)))))) (fun e => hn (by rw [e]; exact hmv)))
    (by rw [ht]; exact q1) (hmw.keep (mapk _ (Or.inl rfl))) (hmm.keep (mapk _ (Or.inr (Or.inl rfl)))) (hmg.keep (mapk _ (Or.inr (Or.inr rfl))))
    (by rw [hl]; exact own_keep h.lrow fun k hk => keep2 k (h.lrow_lt hk) (h.lv_ne hk).1 (h.lv_ne hk).2.2.2.2 (hmx k hk)) (by rw [hl]; exact h.tops.more fun z hz => List.mem_append_right _ hz) q2 hclo
    (fun p hp => ?_) (fun k hk => Or.inl hk) (fun k hk => by rw [← s4]; exact q3 k hk) honce
  · exact ⟨_, P.1, P.2, rfl⟩
  · obtain ⟨h1, h2, h3⟩ := M.box p hp
    have h4 : ¬ x.mv b p.1 := fun e => h3 (Or.inl e)
    exact ⟨(keep2 p.1 (lt_of h1) (fun e => h4 (Or.inl e)) (fun e => h4 (Or.inr (Or.inr (Or.inr (Or.inr (Or.inr e)))))) (fun e => h4 (by rw [e]; exact hmv))).trans h1, h2, h4, lt_of h1⟩
theorem chg_set6 (V : World) (q : Nat) (u0 u1 u2 u3 u4 u5 : Value) : Chg (fun k => k = q) (fun k => k = q) V ((((((V.setCell ⟨q, 0, none⟩ u0).setCell ⟨q, 1, none⟩ u1).setCell ⟨q, 2, none⟩ u2).setCell ⟨q, 3, none⟩ u3).setCell ⟨q, 4, none⟩ u4).setCell ⟨q, 5, none⟩ u5) :=
  have s : ∀ {W1 : World}, Chg (fun k => k = q) (fun k => k = q) V W1 → ∀ j u, Chg (fun k => k = q) (fun k => k = q) V (W1.setCell ⟨q, j, none⟩ u) := fun h j u => chg_set (F := fun k => k = q) (F' := fun k => k = q) h (Or.inl rfl) j u
  s (s (s (s (s (s (Chg.refl _ V) 0 _) 1 _) 2 _) 3 _) 4 _) 5 _
theorem set6 {V : World} {q : Nat} {v0 v1 v2 v3 v4 v5 : Value} {t : TypeId} (h : V.heap[q]? = some (.cells #[v0, v1, v2, v3, v4, v5] t (0, 0))) (u0 u1 u2 u3 u4 u5 : Value) : ((((((V.setCell ⟨q, 0, none⟩ u0).setCell ⟨q, 1, none⟩ u1).setCell ⟨q, 2, none⟩ u2).setCell ⟨q, 3, none⟩ u3).setCell ⟨q, 4, none⟩ u4).setCell ⟨q, 5, none⟩ u5).heap[q]? = some (.cells #[u0, u1, u2, u3, u4, u5] t (0, 0)) := by
  have e := heap_setCell_same _ _ 5 _ _ u5 (heap_setCell_same _ _ 4 _ _ u4 (heap_setCell_same _ _ 3 _ _ u3 (heap_setCell_same _ _ 2 _ _ u2 (heap_setCell_same _ _ 1 _ _ u1 (heap_setCell_same _ _ 0 _ _ u0 h)))))
  simpa using e
set_option maxRecDepth 100000 in
set_option maxHeartbeats 8000000 in
theorem touchP_c {x : Sx} {b n : Nat} {L : List Cg} {W : World} (h : WAt x b L n W) (hn : n < 1000000000) {p : Pl} (hp : p.Ok) {c : Cg} (hc : plOf c = some p) :
    Calls Try.prog 41 #[.pointer (some ⟨b, 0, none⟩), .map (some x.mw), .agg (plC p), .func (.func 42) #[] #[]] W fun e W' => e = .returned (.bool (hasBy plOf L p).isSome) ∧ Step x b (noteBy plOf c p L) (n + 1) W W' := by
  have M := ((An.start h.ob).alloc (.cells #[.map (some x.mw)] 60 (0, 0))).alloc (.cells (plC p) 75 (0, 0))
  rw [alloc_size] at M
  have HM := Lib.hid M
  have CH := Lib.hid (hasP_c M.ob.it.mw hp)
  have CC := Lib.hid (fun V => pclone_c hp.addr V)
  have HC := Lib.hid (And.intro hn (And.intro hp hc))
  have hnn : noteBy plOf c p L = if (hasBy plOf L p).isSome then L else c :: L := rfl
  rw [hnn]
  clear hnn M hn hp hc h
  cases hr : (hasBy plOf L p).isSome with
  | true =>
    rw [hr] at CH
    simp only [if_true]
    unfold plC at *
    go_enter Try.func41, Try.ntmps41
    go_wp2_with fail
    refine CH.out.mono ?_
    rintro e V1 ⟨rfl, hb⟩
    have M1 := Lib.hid (HM.out.call hb)
    clear hb
    go_wp2_with fail
    go_ret
    exact ⟨rfl, x, M1.out.ob.it.mono (Nat.le_succ n), M1.out.chg, rfl⟩
  | false =>
    rw [hr] at CH
    simp only [Bool.false_eq_true, if_false]
    unfold plC at *
    go_enter Try.func41, Try.ntmps41
    go_wp2_with fail
    refine CH.out.mono ?_
    rintro e V1 ⟨rfl, hb⟩
    have M1 := Lib.hid (HM.out.call hb)
    clear hb
    have g1 := M1.out.at (q := W.heap.size + 1) (List.mem_cons_self ..)
    have f0 := cell_of g1 0
    have f1 := cell_of g1 1
    have f2 := cell_of g1 2
    have f3 := cell_of g1 3
    have f4 := cell_of g1 4
    have f5 := cell_of g1 5
    simp only [List.getElem?_toArray, List.getElem?_cons_zero, List.getElem?_cons_succ] at f0 f1 f2 f3 f4 f5
    clear g1
    go_wp2_with fail
    refine (CC.out _).mono ?_
    rintro e V2 ⟨rfl, hb⟩
    have M2 := Lib.hid (M1.out.call hb)
    clear hb f0 f1 f2 f3 f4 f5
    have g1 := M2.out.at (q := W.heap.size + 1) (List.mem_cons_self ..)
    have k0 := cell_of g1 0
    have e0 := free_of g1 0
    have k1 := cell_of g1 1
    have e1 := free_of g1 1
    have k2 := cell_of g1 2
    have e2 := free_of g1 2
    have k3 := cell_of g1 3
    have e3 := free_of g1 3
    have k4 := cell_of g1 4
    have e4 := free_of g1 4
    have k5 := cell_of g1 5
    have e5 := free_of g1 5
    simp only [List.getElem?_toArray, List.getElem?_cons_zero, List.getElem?_cons_succ] at k0 k1 k2 k3 k4 k5
    clear g1
    go_upto_region 4 with fail
    have M3 := M2.out.put (chg_set6 V2 (W.heap.size + 1) (.string (str p.addr)) (.bool p.whole) (.int .u64 (p.slot.a : Nat)) (.int .u64 (p.slot.b : Nat)) (.int .u64 (p.slot.c : Nat)) (.int .u64 (p.slot.d : Nat))) (set6 (M2.out.at (q := W.heap.size + 1) (List.mem_cons_self ..)) (.string (str p.addr)) (.bool p.whole) (.int .u64 (p.slot.a : Nat)) (.int .u64 (p.slot.b : Nat)) (.int .u64 (p.slot.c : Nat)) (.int .u64 (p.slot.d : Nat))) (by simp)
    clear e0 e1 e2 e3 e4 e5 k0 k1 k2 k3 k4 k5 M1 HM CH CC
    generalize World.setCell _ _ _ = V3 at M3 ⊢
    clear M2
    obtain ⟨o, HP, hmap⟩ := M3.ob.it.mw.put (k := p) (by have := HC.out.1; unfold maxLen; omega) HC.out.2.1 ()
    replace HP : (Instr.mapUpdate 60 (.map (some x.mw)) (.agg (plC p)) (.agg #[])).run Try.prog V3 = _ := HP
    have HH := Lib.hid (And.intro M3 hmap)
    have g0 := M3.at (q := W.heap.size) (List.mem_cons_of_mem _ (List.mem_cons_self ..))
    have g1 := M3.at (q := W.heap.size + 1) (List.mem_cons_self ..)
    have a0 := cell_of g0 0
    have f0 := cell_of g1 0
    have f1 := cell_of g1 1
    have f2 := cell_of g1 2
    have f3 := cell_of g1 3
    have f4 := cell_of g1 4
    have f5 := cell_of g1 5
    simp only [List.getElem?_toArray, List.getElem?_cons_zero, List.getElem?_cons_succ] at a0 f0 f1 f2 f3 f4 f5
    clear g0 g1 M3 hmap
    unfold plC at *
    go_upto_region 5 with fail
    clear a0 f0 f1 f2 f3 f4 f5 HP
    obtain ⟨M3, hmap⟩ := HH.out
    have h3 := M3.ob.it
    have s4 : (ChangeMaps.setBlock V3 x.mw o).heap.size = V3.heap.size := setBlock_size
    have CG := Lib.hid (change_c (W := ChangeMaps.setBlock V3 x.mw o) ((setBlock_other h3.b_ne.1).trans h3.cell) (own_keep h3.brow fun k hk => setBlock_other (h3.bv_ne hk).2.1) (by have := h3.few; have := HC.out.1; omega) 54 #[] #[ptr W.heap.size, ptr (W.heap.size + 1)])
    unfold ptr at *
    clear M3 hmap h3 s4
    go_wp2_with fail
    refine CG.out.mono ?_
    rintro e V5 ⟨rfl, bv', q1, q2, q3, q4⟩
    have HQ := Lib.hid (And.intro q1 (And.intro q2 (And.intro q3 q4)))
    clear q1 q2 q3 q4
    go_wp2_with fail
    go_ret
    obtain ⟨q1, q2, q3, q4⟩ := HQ.out
    obtain ⟨M3, hmap⟩ := HH.out
    obtain ⟨a1, a2, a3, a4, a5⟩ := plOf_only HC.out.2.2
    have hnone : hasBy plOf L p = none := by cases h : hasBy plOf L p with | none => rfl | some _ => rw [h] at hr; cases hr
    refine ⟨rfl, touched M3 (Or.inl rfl) q1 q2 q3 q4 (by rw [hasBy_some HC.out.2.2]; exact hmap) ?_ ?_ (a3 L) (a4 L) ((a5 _ _ _ _).2 ⟨_, _, rfl, by simp, by simp [plC], HC.out.2.1⟩) ?_⟩
    · rw [hasBy_none a1]; exact (M3.ob.it.mm.keep (setBlock_other (Ne.symm M3.ob.it.wm))).mono (Nat.le_succ n)
    · rw [hasBy_none a2]; exact (M3.ob.it.mg.keep (setBlock_other (Ne.symm M3.ob.it.wg))).mono (Nat.le_succ n)
    · exact ⟨fun k hk => by rw [HC.out.2.2] at hk; cases hk; exact hnone, fun k hk => by (rw [a1] at hk; cases hk), fun k hk => by (rw [a2] at hk; cases hk), M3.ob.it.once⟩
end Go.Proofs.Ytginibphicmmmaa
