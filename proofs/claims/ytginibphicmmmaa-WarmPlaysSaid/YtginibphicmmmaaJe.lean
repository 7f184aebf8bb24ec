/- What touches: who was made, who leaves (written by genJe.py). -/
import Derived.Test.YtginibphicmmmaaJd
namespace Go.Proofs.Ytginibphicmmmaa
open Go.RowKit Go.Maps Mp

theorem set1 {V : World} {q : Nat} {v0 : Value} {t : TypeId} (h : V.heap[q]? = some (.cells #[v0] t (0, 0))) (u0 : Value) : (V.setCell ⟨q, 0, none⟩ u0).heap[q]? = some (.cells #[u0] t (0, 0)) := by
  have e := heap_setCell_same _ _ 0 _ _ u0 h
  simpa using e
set_option maxRecDepth 100000 in
set_option maxHeartbeats 8000000 in
theorem touchM_c {x : Sx} {b n : Nat} {L : List Cg} {W : World} (h : WAt x b L n W) (hn : n < 1000000000) {a : Nm} (ha : a.length ≤ big) {c : Cg} (hc : mdOf c = some a) :
    Calls Try.prog 47 #[.pointer (some ⟨b, 0, none⟩), .map (some x.mm), .string (str a), .func (.func 45) #[] #[]] W fun e W' => e = .returned (.bool (hasBy mdOf L a).isSome) ∧ Step x b (noteBy mdOf c a L) (n + 1) W W' := by
  have M := ((An.start h.ob).alloc (.cells #[.map (some x.mm)] 61 (0, 0))).alloc (.cells #[.string (str a)] 9 (0, 0))
  rw [alloc_size] at M
  have HM := Lib.hid M
  have CH := Lib.hid (hasS_c M.ob.it.mm ha)
  have CC := Lib.hid (fun V => sclone_c (str a) V (by rw [str_size]; exact ha))
  have HC := Lib.hid (And.intro hn (And.intro ha hc))
  have hnn : noteBy mdOf c a L = if (hasBy mdOf L a).isSome then L else c :: L := rfl
  rw [hnn]
  clear hnn M hn ha hc h
  cases hr : (hasBy mdOf L a).isSome with
  | true =>
    rw [hr] at CH
    simp only [if_true]
    go_enter Try.func47, Try.ntmps47
    go_wp2_with fail
    refine CH.out.mono ?_
    rintro e V1 ⟨rfl, hb⟩
    have M1 := Lib.hid (HM.out.call hb)
    clear hb
    go_wp2_with fail
    go_ret
    exact ⟨rfl, x, M1.out.ob.it.mono (Nat.le_succ n), M1.out.chg, rfl⟩
  | false =>
    rw [hr] at CH
    simp only [Bool.false_eq_true, if_false]
    go_enter Try.func47, Try.ntmps47
    go_wp2_with fail
    refine CH.out.mono ?_
    rintro e V1 ⟨rfl, hb⟩
    have M1 := Lib.hid (HM.out.call hb)
    clear hb
    have g1 := M1.out.at (q := W.heap.size + 1) (List.mem_cons_self ..)
    have f0 := cell_of g1 0
    simp only [List.getElem?_toArray, List.getElem?_cons_zero] at f0
    clear g1
    go_wp2_with fail
    refine (CC.out _).mono ?_
    rintro e V2 ⟨rfl, hb⟩
    have M2 := Lib.hid (M1.out.call hb)
    clear hb f0
    have g1 := M2.out.at (q := W.heap.size + 1) (List.mem_cons_self ..)
    have k0 := cell_of g1 0
    have e0 := free_of g1 0
    simp only [List.getElem?_toArray, List.getElem?_cons_zero] at k0
    clear g1
    go_upto_region 4 with fail
    have M3 := M2.out.put (chg_set (F := fun k => k = W.heap.size + 1) (F' := fun k => k = W.heap.size + 1) (Chg.refl _ V2) (Or.inl rfl) 0 (.string (str a))) (set1 (M2.out.at (q := W.heap.size + 1) (List.mem_cons_self ..)) (.string (str a))) (by simp)
    clear e0 k0 M1 HM CH CC
    generalize World.setCell _ _ _ = V3 at M3 ⊢
    clear M2
    obtain ⟨o, HP, hmap⟩ := M3.ob.it.mm.put (k := a) (by have := HC.out.1; unfold maxLen; omega) HC.out.2.1 ()
    replace HP : (Instr.mapUpdate 61 (.map (some x.mm)) (.string (str a)) (.agg #[])).run Try.prog V3 = _ := HP
    have HH := Lib.hid (And.intro M3 hmap)
    have g0 := M3.at (q := W.heap.size) (List.mem_cons_of_mem _ (List.mem_cons_self ..))
    have g1 := M3.at (q := W.heap.size + 1) (List.mem_cons_self ..)
    have a0 := cell_of g0 0
    have f0 := cell_of g1 0
    simp only [List.getElem?_toArray, List.getElem?_cons_zero] at a0 f0
    clear g0 g1 M3 hmap
    go_upto_region 5 with fail
    clear a0 f0 HP
    obtain ⟨M3, hmap⟩ := HH.out
    have h3 := M3.ob.it
    have s4 : (ChangeMaps.setBlock V3 x.mm o).heap.size = V3.heap.size := setBlock_size
    have CG := Lib.hid (change_c (W := ChangeMaps.setBlock V3 x.mm o) ((setBlock_other h3.b_ne.2.1).trans h3.cell) (own_keep h3.brow fun k hk => setBlock_other (h3.bv_ne hk).2.2.1) (by have := h3.few; have := HC.out.1; omega) 57 #[] #[ptr W.heap.size, ptr (W.heap.size + 1)])
    unfold ptr at *
    clear M3 hmap h3 s4
    go_wp2_with fail
    refine CG.out.mono ?_
    rintro e V5 ⟨rfl, bv', q1, q2, q3, q4⟩
    have HQ := Lib.hid (And.intro q1 (And.intro q2 (And.intro q3 q4)))
    clear q1 q2 q3 q4
    go_wp2_with fail
    go_ret
    obtain ⟨q1, q2, q3, q4⟩ := HQ.out
    obtain ⟨M3, hmap⟩ := HH.out
    obtain ⟨a1, a2, a3, a4, a5⟩ := mdOf_only HC.out.2.2
    have hnone : hasBy mdOf L a = none := by cases h : hasBy mdOf L a with | none => rfl | some _ => rw [h] at hr; cases hr
    refine ⟨rfl, touched M3 (Or.inr (Or.inl rfl)) q1 q2 q3 q4 ?_ (by rw [hasBy_some HC.out.2.2]; exact hmap) ?_ (a3 L) (a4 L) ((a5 _ _ _ _).2 ⟨_, _, rfl, by simp, by simp, HC.out.2.1⟩) ?_⟩
    · rw [hasBy_none a1]; exact (M3.ob.it.mw.keep (setBlock_other M3.ob.it.wm)).mono (Nat.le_succ n)
    · rw [hasBy_none a2]; exact (M3.ob.it.mg.keep (setBlock_other (Ne.symm M3.ob.it.mn))).mono (Nat.le_succ n)
    · exact ⟨fun k hk => by (rw [a1] at hk; cases hk), fun k hk => by rw [HC.out.2.2] at hk; cases hk; exact hnone, fun k hk => by (rw [a2] at hk; cases hk), M3.ob.it.once⟩
set_option maxRecDepth 100000 in
set_option maxHeartbeats 8000000 in
theorem touchG_c {x : Sx} {b n : Nat} {L : List Cg} {W : World} (h : WAt x b L n W) (hn : n < 1000000000) {a : Nm} (ha : a.length ≤ big) {c : Cg} (hc : gnOf c = some a) :
    Calls Try.prog 47 #[.pointer (some ⟨b, 0, none⟩), .map (some x.mg), .string (str a), .func (.func 45) #[] #[]] W fun e W' => e = .returned (.bool (hasBy gnOf L a).isSome) ∧ Step x b (noteBy gnOf c a L) (n + 1) W W' := by
  have M := ((An.start h.ob).alloc (.cells #[.map (some x.mg)] 61 (0, 0))).alloc (.cells #[.string (str a)] 9 (0, 0))
  rw [alloc_size] at M
  have HM := Lib.hid M
  have CH := Lib.hid (hasS_c M.ob.it.mg ha)
  have CC := Lib.hid (fun V => sclone_c (str a) V (by rw [str_size]; exact ha))
  have HC := Lib.hid (And.intro hn (And.intro ha hc))
  have hnn : noteBy gnOf c a L = if (hasBy gnOf L a).isSome then L else c :: L := rfl
  rw [hnn]
  clear hnn M hn ha hc h
  cases hr : (hasBy gnOf L a).isSome with
  | true =>
    rw [hr] at CH
    simp only [if_true]
    go_enter Try.func47, Try.ntmps47
    go_wp2_with fail
    refine CH.out.mono ?_
    rintro e V1 ⟨rfl, hb⟩
    have M1 := Lib.hid (HM.out.call hb)
    clear hb
    go_wp2_with fail
    go_ret
    exact ⟨rfl, x, M1.out.ob.it.mono (Nat.le_succ n), M1.out.chg, rfl⟩
  | false =>
    rw [hr] at CH
    simp only [Bool.false_eq_true, if_false]
    go_enter Try.func47, Try.ntmps47
    go_wp2_with fail
    refine CH.out.mono ?_
    rintro e V1 ⟨rfl, hb⟩
    have M1 := Lib.hid (HM.out.call hb)
    clear hb
    have g1 := M1.out.at (q := W.heap.size + 1) (List.mem_cons_self ..)
    have f0 := cell_of g1 0
    simp only [List.getElem?_toArray, List.getElem?_cons_zero] at f0
    clear g1
    go_wp2_with fail
    refine (CC.out _).mono ?_
    rintro e V2 ⟨rfl, hb⟩
    have M2 := Lib.hid (M1.out.call hb)
    clear hb f0
    have g1 := M2.out.at (q := W.heap.size + 1) (List.mem_cons_self ..)
    have k0 := cell_of g1 0
    have e0 := free_of g1 0
    simp only [List.getElem?_toArray, List.getElem?_cons_zero] at k0
    clear g1
    go_upto_region 4 with fail
    have M3 := M2.out.put (chg_set (F := fun k => k = W.heap.size + 1) (F' := fun k => k = W.heap.size + 1) (Chg.refl _ V2) (Or.inl rfl) 0 (.string (str a))) (set1 (M2.out.at (q := W.heap.size + 1) (List.mem_cons_self ..)) (.string (str a))) (by simp)
    clear e0 k0 M1 HM CH CC
    generalize World.setCell _ _ _ = V3 at M3 ⊢
    clear M2
    obtain ⟨o, HP, hmap⟩ := M3.ob.it.mg.put (k := a) (by have := HC.out.1; unfold maxLen; omega) HC.out.2.1 ()
    replace HP : (Instr.mapUpdate 61 (.map (some x.mg)) (.string (str a)) (.agg #[])).run Try.prog V3 = _ := HP
    have HH := Lib.hid (And.intro M3 hmap)
    have g0 := M3.at (q := W.heap.size) (List.mem_cons_of_mem _ (List.mem_cons_self ..))
    have g1 := M3.at (q := W.heap.size + 1) (List.mem_cons_self ..)
    have a0 := cell_of g0 0
    have f0 := cell_of g1 0
    simp only [List.getElem?_toArray, List.getElem?_cons_zero] at a0 f0
    clear g0 g1 M3 hmap
    go_upto_region 5 with fail
    clear a0 f0 HP
    obtain ⟨M3, hmap⟩ := HH.out
    have h3 := M3.ob.it
    have s4 : (ChangeMaps.setBlock V3 x.mg o).heap.size = V3.heap.size := setBlock_size
    have CG := Lib.hid (change_c (W := ChangeMaps.setBlock V3 x.mg o) ((setBlock_other h3.b_ne.2.2).trans h3.cell) (own_keep h3.brow fun k hk => setBlock_other (h3.bv_ne hk).2.2.2.1) (by have := h3.few; have := HC.out.1; omega) 57 #[] #[ptr W.heap.size, ptr (W.heap.size + 1)])
    unfold ptr at *
    clear M3 hmap h3 s4
    go_wp2_with fail
    refine CG.out.mono ?_
    rintro e V5 ⟨rfl, bv', q1, q2, q3, q4⟩
    have HQ := Lib.hid (And.intro q1 (And.intro q2 (And.intro q3 q4)))
    clear q1 q2 q3 q4
    go_wp2_with fail
    go_ret
    obtain ⟨q1, q2, q3, q4⟩ := HQ.out
    obtain ⟨M3, hmap⟩ := HH.out
    obtain ⟨a1, a2, a3, a4, a5⟩ := gnOf_only HC.out.2.2
    have hnone : hasBy gnOf L a = none := by cases h : hasBy gnOf L a with | none => rfl | some _ => rw [h] at hr; cases hr
    refine ⟨rfl, touched M3 (Or.inr (Or.inr rfl)) q1 q2 q3 q4 ?_ ?_ (by rw [hasBy_some HC.out.2.2]; exact hmap) (a3 L) (a4 L) ((a5 _ _ _ _).2 ⟨_, _, rfl, by simp, by simp, HC.out.2.1⟩) ?_⟩
    · rw [hasBy_none a1]; exact (M3.ob.it.mw.keep (setBlock_other M3.ob.it.wg)).mono (Nat.le_succ n)
    · rw [hasBy_none a2]; exact (M3.ob.it.mm.keep (setBlock_other M3.ob.it.mn)).mono (Nat.le_succ n)
    · exact ⟨fun k hk => by (rw [a1] at hk; cases hk), fun k hk => by (rw [a2] at hk; cases hk), fun k hk => by rw [HC.out.2.2] at hk; cases hk; exact hnone, M3.ob.it.once⟩
end Go.Proofs.Ytginibphicmmmaa
