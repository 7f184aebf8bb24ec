/- Log (written by genJt.py). -/
import Derived.Test.YtginibphicmmmaaJs
import Derived.Test.YtginibphicmmmaaAmong
namespace Go.Proofs.Ytginibphicmmmaa
open Go.RowKit Go.Maps Go.Shelf Mp

theorem chg_set3 (V : World) (q : Nat) (u0 u1 u2 : Value) : Chg (fun k => k = q) (fun k => k = q) V (((V.setCell ⟨q, 0, none⟩ u0).setCell ⟨q, 1, none⟩ u1).setCell ⟨q, 2, none⟩ u2) :=
  have s : ∀ {W1 : World}, Chg (fun k => k = q) (fun k => k = q) V W1 → ∀ j u, Chg (fun k => k = q) (fun k => k = q) V (W1.setCell ⟨q, j, none⟩ u) := fun h j u => chg_set (F := fun k => k = q) (F' := fun k => k = q) h (Or.inl rfl) j u
  s (s (s (Chg.refl _ V) 0 _) 1 _) 2 _
theorem set3 {V : World} {q : Nat} {v0 v1 v2 : Value} {t : TypeId} (h : V.heap[q]? = some (.cells #[v0, v1, v2] t (0, 0))) (u0 u1 u2 : Value) : (((V.setCell ⟨q, 0, none⟩ u0).setCell ⟨q, 1, none⟩ u1).setCell ⟨q, 2, none⟩ u2).heap[q]? = some (.cells #[u0, u1, u2] t (0, 0)) := by
  have e := heap_setCell_same _ _ 2 _ _ u2 (heap_setCell_same _ _ 1 _ _ u1 (heap_setCell_same _ _ 0 _ _ u0 h))
  simpa using e
theorem same3_0 {V : World} {q : Nat} {v0 v1 v2 : Value} {t : TypeId} (h : V.heap[q]? = some (.cells #[v0, v1, v2] t (0, 0))) : (V.setCell ⟨q, 0, none⟩ v0).heap[q]? = some (.cells #[v0, v1, v2] t (0, 0)) := by
  have e := heap_setCell_same _ _ 0 _ _ v0 h
  simpa using e
theorem same3_2 {V : World} {q : Nat} {v0 v1 v2 : Value} {t : TypeId} (h : V.heap[q]? = some (.cells #[v0, v1, v2] t (0, 0))) : (V.setCell ⟨q, 2, none⟩ v2).heap[q]? = some (.cells #[v0, v1, v2] t (0, 0)) := by
  have e := heap_setCell_same _ _ 2 _ _ v2 h
  simpa using e
theorem infoLog : (Try.prog.info? 33).map (fun i => (i.zero, i.size, i.bytes)) = some (some (.agg #[.string ⟨#[]⟩, .slice none 0 0, .string ⟨#[]⟩]), 3, 56) := by kernel_rfl
theorem few_max {l L n : Nat} (h : l ≤ L) (h2 : L ≤ n) (h3 : n < 1000000000) : l + 1 ≤ maxLen := by unfold maxLen; omega
theorem few_bytes {l L n : Nat} (h : l ≤ L) (h2 : L ≤ n) (h3 : n < 1000000000) : (l + 1) * 56 ≤ 140737488355328 := by omega
theorem cells3 {V : World} {q : Nat} {v0 v1 v2 : Value} {t : TypeId} (h : V.heap[q]? = some (.cells #[v0, v1, v2] t (0, 0))) : ∀ (j : Nat) (u : Value), [v0, v1, v2][j]? = some u → V.cell? ((⟨q, 0, none⟩ : Addr).add j) = some u := by
  intro j u hj
  match j, hj with
  | 0, hj => cases hj; exact cell_of h 0
  | 1, hj => cases hj; exact cell_of h 1
  | 2, hj => cases hj; exact cell_of h 2
  | j + 3, hj => simp at hj
/-- The log stands in its row. -/
theorem log_mid {x : Sx} {b n g cap z : Nat} {L : List Cg} {V8 V9 V10 : World} {l : LogP} {t9 : Value} (h : WAt x b L n V8) (r10 : V10.ownsRow 0 33 3 (.slice (some ⟨g, 0, none⟩) ((logsOf L).length + 1) cap) ((logsOf L).length + 1) (logCells (logsOf L) x.ts ++ [.string (str l.addr), t9, .string (str l.data)]))
    (g10 : V9.grownBy V10 x.lv.ownBlock) (l10 : x.lv.ownBlock = some g ∨ g = V9.heap.size) (hz : z < V9.heap.size) (b9 : Below z V8 V9) (hzz : z = V8.heap.size) (hb : V10.heap[b]? = some (setO x (tot L))) :
    (V10.setCell ⟨b, 4, none⟩ (.slice (some ⟨g, 0, none⟩) ((logsOf L).length + 1) cap)).heap[b]? = some (.cells #[.map (some x.mw), .map (some x.mm), .map (some x.mg), .int .i64 (tot L), .slice (some ⟨g, 0, none⟩) ((logsOf L).length + 1) cap, x.bv] 64 (0, 0)) ∧
    (V10.setCell ⟨b, 4, none⟩ (.slice (some ⟨g, 0, none⟩) ((logsOf L).length + 1) cap)).ownsRow 0 33 3 (.slice (some ⟨g, 0, none⟩) ((logsOf L).length + 1) cap) ((logsOf L).length + 1) (logCells (logsOf L) x.ts ++ logE l t9) ∧
    Chg (fun j => j = b ∨ x.lv.ownBlock = some j) (fun j => j = b ∨ x.lv.ownBlock = some j) V8 (V10.setCell ⟨b, 4, none⟩ (.slice (some ⟨g, 0, none⟩) ((logsOf L).length + 1) cap)) ∧
    (x.lv.ownBlock = some g ∨ V8.heap.size ≤ g) := by
  subst hzz
  have hl : x.lv.ownBlock = some g ∨ V8.heap.size ≤ g := l10.imp id fun e => by rw [e]; exact Nat.le_of_lt hz
  have hgb : g ≠ b := fun e => by
    rcases hl with h1 | h1
    · exact (h.lv_ne h1).1 e
    · have := lt_of h.cell; omega
  refine ⟨?_, own_keep r10 fun k hk => heap_setCell_other _ _ _ _ ?_, ?_, hl⟩
  · have h2 := heap_setCell_same _ _ 4 _ _ (.slice (some ⟨g, 0, none⟩) ((logsOf L).length + 1) cap) hb
    simpa [setC] using h2
  · cases hk; simpa using hgb
  · exact chg_set (F := fun j => j = b ∨ x.lv.ownBlock = some j) (F' := fun j => j = b ∨ x.lv.ownBlock = some j) (Chg.trans (Chg.of_below b9) (chg_grown g10 fun k hk => Or.inr hk)) (Or.inl (Or.inl rfl)) 4 _
/-- .. and its closure with the others. -/
theorem log_end {x : Sx} {b n g cap q : Nat} {L : List Cg} {W V8 V11 V12 : World} {l : LogP} {t9 bv' : Value} {o9 : Obj} (h0 : WAt x b L n W) (M : An (WAt x b L n) (x.ft b) W (x.ft b) [(q, o9)] V8) (ht : V8.ownsRow (W.heap.size + 1) 46 4 t9 l.tops.length (wordsC l.tops))
    (_ : V11.heap[b]? = some (.cells #[.map (some x.mw), .map (some x.mm), .map (some x.mg), .int .i64 (tot L), .slice (some ⟨g, 0, none⟩) ((logsOf L).length + 1) cap, x.bv] 64 (0, 0)))
    (F2 : V11.ownsRow 0 33 3 (.slice (some ⟨g, 0, none⟩) ((logsOf L).length + 1) cap) ((logsOf L).length + 1) (logCells (logsOf L) x.ts ++ logE l t9)) (F3 : Chg (fun j => j = b ∨ x.lv.ownBlock = some j) (fun j => j = b ∨ x.lv.ownBlock = some j) V8 V11) (F4 : x.lv.ownBlock = some g ∨ V8.heap.size ≤ g)
    (q1 : V12.heap[b]? = some (.cells #[.map (some x.mw), .map (some x.mm), .map (some x.mg), .int .i64 (tot L), .slice (some ⟨g, 0, none⟩) ((logsOf L).length + 1) cap, bv'] 64 (0, 0))) (q2 : V12.ownsRow 0 1 1 bv' (L.length + 1) (x.vs.reverse ++ [.func (.func 46) #[ptr b] #[]]))
    (q3 : ∀ j, bv'.ownBlock = some j → x.bv.ownBlock = some j ∨ V11.heap.size ≤ j) (q4 : Chg (fun j => j = b ∨ x.bv.ownBlock = some j) (fun j => j = b ∨ bv'.ownBlock = some j) V11 V12) : Step x b (.log l :: L) (n + 1) W V12 := by
  have h := M.ob.it
  have s8 := F3.size
  have keep : ∀ k, k < V8.heap.size → ¬ x.mv b k → V12.heap[k]? = V8.heap[k]? := fun k hk hn =>
    (q4.block k (Nat.lt_of_lt_of_le hk s8) fun e => hn (e.elim (fun e => Or.inl e) fun e => Or.inr (Or.inr (Or.inr (Or.inr (Or.inr e)))))).trans (F3.block k hk fun e => hn (e.elim (fun e => Or.inl e) fun e => Or.inr (Or.inr (Or.inr (Or.inr (Or.inl e))))))
  have mapk : ∀ k, k = x.mw ∨ k = x.mm ∨ k = x.mg → V12.heap[k]? = V8.heap[k]? := fun k hk => by
    have hne : k ≠ b ∧ x.lv.ownBlock ≠ some k ∧ x.bv.ownBlock ≠ some k ∧ k < V8.heap.size := by
      rcases hk with rfl | rfl | rfl
      · exact ⟨Ne.symm h.b_ne.1, fun e => (h.lv_ne e).2.1 rfl, fun e => (h.bv_ne e).2.1 rfl, h.mw.lt⟩
      · exact ⟨Ne.symm h.b_ne.2.1, fun e => (h.lv_ne e).2.2.1 rfl, fun e => (h.bv_ne e).2.2.1 rfl, h.mm.lt⟩
      · exact ⟨Ne.symm h.b_ne.2.2, fun e => (h.lv_ne e).2.2.2.1 rfl, fun e => (h.bv_ne e).2.2.2.1 rfl, h.mg.lt⟩
    exact (q4.block k (Nat.lt_of_lt_of_le hne.2.2.2 s8) fun e => e.elim hne.1 hne.2.2.1).trans (F3.block k hne.2.2.2 fun e => e.elim hne.1 hne.2.1)
  have hgn : g ≠ b ∧ x.bv.ownBlock ≠ some g := by
    rcases F4 with e | e
    · exact ⟨(h.lv_ne e).1, (h.lv_ne e).2.2.2.2⟩
    · exact ⟨fun e2 => by have := lt_of h.cell; omega, fun e2 => by have := h.brow_lt e2; omega⟩
  obtain ⟨new, hnew, htop⟩ : ∃ new : List (Nat × Obj), (∀ p ∈ new, V8.heap[p.1]? = some p.2 ∧ W.heap.size < p.1) ∧ TopAt new t9 l.tops := by
    rcases ht.2 with ⟨e1, e2⟩ | ⟨g2, cap2, cur, e1, hB, hg, h1, h2, h3, h4⟩
    · exact ⟨[], fun _ h => (by cases h), Or.inl ⟨List.length_eq_zero_iff.1 e2, e1⟩⟩
    · exact ⟨[(g2, .cells cur 46 (0, 0))], fun p hp => by rw [List.mem_singleton] at hp; subst hp; exact ⟨hg, hB⟩, Or.inr ⟨g2, cap2, cur, e1, List.mem_singleton.2 rfl, h1, h2, h3, h4⟩⟩
  have hts := h.tops.len
  have P := h.push (W0 := W) M.chg (c := .log l) (V := V12) (lv' := .slice (some ⟨g, 0, none⟩) ((logsOf L).length + 1) cap) (bv' := bv') (ts' := x.ts ++ [t9]) (v := .func (.func 46) #[ptr b] #[]) (new := new)
    (q4.os.trans F3.os) (q4.tape.trans F3.tape) (q4.output.trans F3.output) (Nat.le_trans s8 q4.size) keep
    q1 (by rw [hasBy_none rfl]; exact (h.mw.keep (mapk _ (Or.inl rfl))).mono (Nat.le_succ n)) (by rw [hasBy_none rfl]; exact (h.mm.keep (mapk _ (Or.inr (Or.inl rfl)))).mono (Nat.le_succ n)) (by rw [hasBy_none rfl]; exact (h.mg.keep (mapk _ (Or.inr (Or.inr rfl)))).mono (Nat.le_succ n))
    (by
      have e : logsOf (.log l :: L) = logsOf L ++ [l] := rfl
      rw [e, logCells_snoc hts, List.length_append]
      exact own_keep F2 fun k hk => q4.block k (by cases hk; exact (World.ownsRow.lt F2 g rfl).2) fun e => by cases hk; exact e.elim hgn.1 hgn.2)
    (Tops.snoc (htop.more fun z hz => List.mem_append_left _ hz) (h.tops.more fun z hz => List.mem_append_right _ hz)) q2 rfl
    (fun p hp => ?_) (fun k hk => by cases hk; exact F4) (fun k hk => (q3 k hk).imp id fun e => Nat.le_trans s8 e) ⟨fun _ h => (by cases h), fun _ h => (by cases h), fun _ h => (by cases h), h.once⟩
  · exact ⟨_, P.1, P.2, rfl⟩
  · obtain ⟨h1, h2⟩ := hnew p hp
    have h3 : ¬ x.mv b p.1 := fun e => by have := h0.mv_lt e; omega
    exact ⟨(keep p.1 (lt_of h1) h3).trans h1, Nat.le_of_lt h2, h3, lt_of h1⟩
set_option maxRecDepth 100000 in
set_option maxHeartbeats 8000000 in
theorem log_c {x : Sx} {b n : Nat} {L : List Cg} {W : World} (h : WAt x b L n W) (hn : n < 1000000000) {l : LogP} {tv : Value} (hw : WordsAt W tv l.tops) (ha : l.addr.length ≤ big) (hd : l.data.length ≤ big) (hn32 : l.tops.length * 32 ≤ 140737488355328) :
    Calls Try.prog 22 #[ptr b, logV l tv] W fun e W' => e = .returned (.tuple #[]) ∧ Step x b (.log l :: L) (n + 1) W W' := by
  have M := (An.start h.ob).alloc (.cells #[.string (str l.addr), tv, .string (str l.data)] 33 (0, 0))
  have HM := Lib.hid M
  have CP := Lib.hid (copied_c (l := l) (tv := tv) (W := W.alloc (.cells #[.string (str l.addr), tv, .string (str l.data)] 33 (0, 0))) (hw.below ((Below.refl _ W).alloc (Nat.le_refl _) _)) hn32)
  have CA := Lib.hid (fun V => sclone_c (str l.addr) V (by rw [str_size]; exact ha))
  have CD := Lib.hid (fun V => sclone_c (str l.data) V (by rw [str_size]; exact hd))
  have HH := Lib.hid (And.intro hn hn32)
  have HW0 := Lib.hid h
  clear M h hw hn hn32 ha hd
  unfold ptr logV at *
  go_enter Try.func22, Try.ntmps22
  go_wp2_with fail
  refine CP.out.mono ?_
  rintro e V1 ⟨t0, rfl, hb, hrow⟩
  obtain ⟨ta, tc, ht⟩ := own_any hrow
  subst ht
  obtain ⟨nt, hnt⟩ : ∃ nt, nt = l.tops.length := ⟨_, rfl⟩
  rw [← hnt] at hrow ⊢
  have HNT := Lib.hid hnt
  clear hnt
  have M1 := HM.out.call hb
  have HR := Lib.hid hrow
  have HB := Lib.hid hb
  clear HM CP hrow hb
  obtain ⟨q, hq⟩ : ∃ q, q = W.heap.size := ⟨_, rfl⟩
  have HQ := Lib.hid hq
  rw [← hq] at M1 ⊢
  clear hq
  have g1 := M1.at (q := q) (List.mem_cons_self ..)
  have k0 := cell_of g1 0
  have e0 := free_of g1 0
  have k1 := cell_of g1 1
  have e1 := free_of g1 1
  have k2 := cell_of g1 2
  have e2 := free_of g1 2
  simp only [List.getElem?_toArray, List.getElem?_cons_zero, List.getElem?_cons_succ] at k0 k1 k2
  have HM := Lib.hid M1
  clear g1 M1
  go_upto_region 2 with fail
  have M2 := HM.out.put (chg_set3 V1 q (.string (str l.addr)) (Value.slice ta nt tc) (.string (str l.data))) (set3 (HM.out.at (q := q) (List.mem_cons_self ..)) (.string (str l.addr)) (Value.slice ta nt tc) (.string (str l.data))) (by simp)
  have c2 := chg_set3 V1 q (.string (str l.addr)) (Value.slice ta nt tc) (.string (str l.data))
  clear HM e0 e1 e2 k0 k1 k2
  generalize World.setCell _ _ _ = V2 at M2 c2 ⊢
  have R2 := own_keep HR.out fun k hk => c2.block k (World.ownsRow.lt HR.out k hk).2 (by have h8 := (World.ownsRow.lt HR.out k hk).1; have h9 := HQ.out; rw [alloc_size] at h8; omega)
  have HM := Lib.hid (M2.call (Below.refl _ V2).drew)
  have HT := Lib.hid (show V2.drew.ownsRow (W.alloc (.cells #[.string (str l.addr), tv, .string (str l.data)] 33 (0, 0))).heap.size 46 4 (Value.slice ta nt tc) nt (wordsC l.tops) from R2)
  have S0 := HM.out.at (q := q) (List.mem_cons_self ..)
  clear M2 R2 c2 HR HB
  have HS := Lib.hid (fun (V : World) (hV : V.heap[q]? = some (.cells #[.string (str l.addr), (Value.slice ta nt tc), .string (str l.data)] 33 (0, 0))) => (show (V.cell? ⟨q, 0, none⟩ = some (.string (str l.addr)) ∧ V.cell? ⟨q, 1, none⟩ = some (Value.slice ta nt tc) ∧ V.cell? ⟨q, 2, none⟩ = some (.string (str l.data))) ∧ V.frozen? ⟨q, 0, none⟩ = false ∧ V.frozen? ⟨q, 2, none⟩ = false from ⟨⟨cell_of hV 0, cell_of hV 1, cell_of hV 2⟩, free_of hV 0, free_of hV 2⟩))
  refine Drawn.start (fun V => V.heap[q]? = some (.cells #[.string (str l.addr), (Value.slice ta nt tc), .string (str l.data)] 33 (0, 0))) (fun _ => false) (by kernel_rfl) ?_
  generalize World.drew _ = V3 at HM HT S0 ⊢
  refine Drawn.take 0 (some 6) (v := ?_) rfl rfl (by kernel_rfl) (by kernel_rfl) (by kernel_rfl) (by kernel_rfl) (by kernel_rfl) rfl (fun _ _ _ h => h) (Or.inl ⟨rfl, ?_⟩) S0 ?_
  rotate_left
  · intro W hW; have hW := HS.out W hW; go_simp; try with_reducible rfl
  simp only [put_list, List.set]
  refine Drawn.take 1 (some 7) (v := ?_) rfl rfl (by kernel_rfl) (by kernel_rfl) (by kernel_rfl) (by kernel_rfl) (by kernel_rfl) rfl (fun _ _ _ h => h) (Or.inl ⟨rfl, ?_⟩) S0 ?_
  rotate_left
  · intro W hW; have hW := HS.out W hW; go_simp; try with_reducible rfl
  simp only [put_list, List.set]
  refine Drawn.take 3 (some 9) (v := ?_) rfl rfl (by kernel_rfl) (by kernel_rfl) (by kernel_rfl) (by kernel_rfl) (by kernel_rfl) rfl (fun _ _ _ h => h) (Or.inl ⟨rfl, ?_⟩) S0 ?_
  rotate_left
  · intro W hW; have hW := HS.out W hW; go_simp; try with_reducible rfl
  simp only [put_list, List.set]
  refine Drawn.take 4 (some 10) (v := ?_) rfl rfl (by kernel_rfl) (by kernel_rfl) (by kernel_rfl) (by kernel_rfl) (by kernel_rfl) rfl (fun _ _ _ h => h) (Or.inl ⟨rfl, ?_⟩) S0 ?_
  rotate_left
  · intro W hW; have hW := HS.out W hW; go_simp; try with_reducible rfl
  simp only [put_list, List.set]
  refine Drawn.only 2 (by kernel_rfl) rfl rfl (fun K hK => ?_)
  go_simp
  refine (CA.out _).mono ?_
  rintro e V4 ⟨rfl, h9⟩
  have HM4 := Lib.hid (HM.out.call h9)
  have HT4 := Lib.hid (own_keep HT.out fun k hk => h9.block k (World.ownsRow.lt HT.out k hk).2)
  have S1 := (h9.block _ (lt_of S0)).trans S0
  refine hK _ _ (fun _ _ => S1) ?_
  clear hK K h9 S0 HM HT
  have S0 := S1
  clear S1
  try simp only [put_list, List.set]
  refine Drawn.take 6 (some 12) (v := ?_) rfl rfl (by kernel_rfl) (by kernel_rfl) (by kernel_rfl) (by kernel_rfl) (by kernel_rfl) rfl (fun _ _ _ h => h) (Or.inl ⟨rfl, ?_⟩) S0 ?_
  rotate_left
  · intro W hW; have hW := HS.out W hW; go_simp; try with_reducible rfl
  simp only [put_list, List.set]
  refine Drawn.only 5 (by kernel_rfl) rfl rfl (fun K hK => ?_)
  go_simp
  refine (CD.out _).mono ?_
  rintro e V5 ⟨rfl, h9⟩
  have HM5 := Lib.hid (HM4.out.call h9)
  have HT5 := Lib.hid (own_keep HT4.out fun k hk => h9.block k (World.ownsRow.lt HT4.out k hk).2)
  have S1 := (h9.block _ (lt_of S0)).trans S0
  refine hK _ _ (fun _ _ => S1) ?_
  clear hK K h9 S0 HM4 HT4
  have S0 := S1
  clear S1
  try simp only [put_list, List.set]
  obtain ⟨⟨y0, y1, y2⟩, z0, z2⟩ := HS.out _ S0
  refine Drawn.only 7 (by kernel_rfl) rfl rfl (fun K hK => ?_)
  go_simp
  have M9 := HM5.out.put (chg_set (F := fun j => j = q) (F' := fun j => j = q) (Chg.refl _ V5) (Or.inl rfl) 0 (.string (str l.addr))) (same3_0 S0) (by simp)
  have S1 := M9.at (q := q) (List.mem_cons_self ..)
  have T9 := own_keep HT5.out fun k hk => (chg_set (F := fun j => j = q) (F' := fun j => j = q) (Chg.refl _ V5) (Or.inl rfl) 0 (.string (str l.addr))).block k (World.ownsRow.lt HT5.out k hk).2 (by have h8 := (World.ownsRow.lt HT5.out k hk).1; have h9 := HQ.out; rw [alloc_size] at h8; omega)
  refine hK _ _ (fun _ _ => S1) ?_
  clear hK K y0 y1 y2 z0 z2 S0
  generalize World.setCell V5 _ _ = V6 at M9 S1 T9 ⊢
  have HM6 := Lib.hid M9
  have HT6 := Lib.hid T9
  have S0 := S1
  clear M9 T9 S1 HM5 HT5
  try simp only [put_list, List.set]
  refine Drawn.take 8 (some 13) (v := ?_) rfl rfl (by kernel_rfl) (by kernel_rfl) (by kernel_rfl) (by kernel_rfl) (by kernel_rfl) rfl (fun _ _ _ h => h) (Or.inl ⟨rfl, ?_⟩) S0 ?_
  rotate_left
  · intro W hW; have hW := HS.out W hW; go_simp; try with_reducible rfl
  simp only [put_list, List.set]
  obtain ⟨⟨y0, y1, y2⟩, z0, z2⟩ := HS.out _ S0
  refine Drawn.only 9 (by kernel_rfl) rfl rfl (fun K hK => ?_)
  go_simp
  have M9 := HM6.out.put (chg_set (F := fun j => j = q) (F' := fun j => j = q) (Chg.refl _ V6) (Or.inl rfl) 2 (.string (str l.data))) (same3_2 S0) (by simp)
  have S1 := M9.at (q := q) (List.mem_cons_self ..)
  have T9 := own_keep HT6.out fun k hk => (chg_set (F := fun j => j = q) (F' := fun j => j = q) (Chg.refl _ V6) (Or.inl rfl) 2 (.string (str l.data))).block k (World.ownsRow.lt HT6.out k hk).2 (by have h8 := (World.ownsRow.lt HT6.out k hk).1; have h9 := HQ.out; rw [alloc_size] at h8; omega)
  refine hK _ _ (fun _ _ => S1) ?_
  clear hK K y0 y1 y2 z0 z2 S0
  generalize World.setCell V6 _ _ = V7 at M9 S1 T9 ⊢
  have HM7 := Lib.hid M9
  have HT7 := Lib.hid T9
  have S0 := S1
  clear M9 T9 S1 HM6 HT6
  try simp only [put_list, List.set]
  refine Drawn.done (by kernel_rfl) ?_ _
  clear HS
  go_wp2_with fail
  have HM := Lib.hid (HM7.out.call (Below.refl _ V7).drew)
  have HT := Lib.hid (show V7.drew.ownsRow (W.alloc (.cells #[.string (str l.addr), tv, .string (str l.data)] 33 (0, 0))).heap.size 46 4 (Value.slice ta nt tc) nt (wordsC l.tops) from HT7.out)
  have S1 := S0
  have hcb := HM.out.ob.it.cell
  clear S0
  have S0 : V7.drew.heap[q]? = some (.cells #[.string (str l.addr), (Value.slice ta nt tc), .string (str l.data)] 33 (0, 0)) ∧ V7.drew.heap[b]? = some (setO x (tot L)) := ⟨S1, hcb⟩
  clear S1 hcb HM7 HT7
  have HS := Lib.hid (fun (V : World) (hV : V.heap[q]? = some (.cells #[.string (str l.addr), (Value.slice ta nt tc), .string (str l.data)] 33 (0, 0)) ∧ V.heap[b]? = some (setO x (tot L))) => (show (V.cell? ⟨q, 0, none⟩ = some (.string (str l.addr)) ∧ V.cell? ⟨q, 1, none⟩ = some (Value.slice ta nt tc) ∧ V.cell? ⟨q, 2, none⟩ = some (.string (str l.data))) ∧ V.cell? ⟨b, 4, none⟩ = some x.lv from ⟨⟨cell_of hV.1 0, cell_of hV.1 1, cell_of hV.1 2⟩, cell_of hV.2 4⟩))
  refine Drawn.start (fun V => V.heap[q]? = some (.cells #[.string (str l.addr), (Value.slice ta nt tc), .string (str l.data)] 33 (0, 0)) ∧ V.heap[b]? = some (setO x (tot L))) (fun j => j == 10) (by kernel_rfl) ?_
  generalize World.drew _ = V8 at HM HT S0 ⊢
  refine Drawn.take 0 (some 14) (v := ?_) rfl rfl (by kernel_rfl) (by kernel_rfl) (by kernel_rfl) (by kernel_rfl) (by kernel_rfl) rfl (fun _ _ _ h => h) (Or.inl ⟨rfl, ?_⟩) S0 ?_
  rotate_left
  · intro W hW; have hW := HS.out W hW; go_simp; try with_reducible rfl
  simp only [put_list, List.set]
  refine Drawn.take 1 (some 15) (v := ?_) rfl rfl (by kernel_rfl) (by kernel_rfl) (by kernel_rfl) (by kernel_rfl) (by kernel_rfl) rfl (fun _ _ _ h => h) (Or.inl ⟨rfl, ?_⟩) S0 ?_
  rotate_left
  · intro W hW; have hW := HS.out W hW; go_simp; try with_reducible rfl
  simp only [put_list, List.set]
  refine Drawn.take 2 (some 16) (v := ?_) rfl rfl (by kernel_rfl) (by kernel_rfl) (by kernel_rfl) (by kernel_rfl) (by kernel_rfl) rfl (fun _ _ _ h => h) (Or.inl ⟨rfl, ?_⟩) S0 ?_
  rotate_left
  · intro W hW; have hW := HS.out W hW; go_simp; try with_reducible rfl
  simp only [put_list, List.set]
  refine Drawn.take 3 (some 17) (v := ?_) rfl rfl (by kernel_rfl) (by kernel_rfl) (by kernel_rfl) (by kernel_rfl) (by kernel_rfl) rfl (fun _ _ _ h => h) (Or.inl ⟨rfl, ?_⟩) S0 ?_
  rotate_left
  · intro W hW; have hW := HS.out W hW; go_simp; try with_reducible rfl
  simp only [put_list, List.set]
  refine Drawn.take 4 (some 18) (v := ?_) rfl rfl (by kernel_rfl) (by kernel_rfl) (by kernel_rfl) (by kernel_rfl) (by kernel_rfl) rfl (fun _ _ _ h => h) (Or.inl ⟨rfl, ?_⟩) S0 ?_
  rotate_left
  · intro W hW; have hW := HS.out W hW; go_simp; try with_reducible rfl
  simp only [put_list, List.set]
  refine Drawn.take 5 (some 19) (v := ?_) rfl rfl (by kernel_rfl) (by kernel_rfl) (by kernel_rfl) (by kernel_rfl) (by kernel_rfl) rfl (fun _ _ _ h => h) (Or.inl ⟨rfl, ?_⟩) S0 ?_
  rotate_left
  · intro W hW; have hW := HS.out W hW; go_simp; try with_reducible rfl
  simp only [put_list, List.set]
  refine Drawn.only 6 (by kernel_rfl) rfl rfl (fun K hK => ?_)
  go_simp
  have M9 := HM.out.alloc (.cells #[.string (str l.addr), (Value.slice ta nt tc), .string (str l.data)] 33)
  have S1 : (V8.alloc (.cells #[.string (str l.addr), (Value.slice ta nt tc), .string (str l.data)] 33)).heap[q]? = some (.cells #[.string (str l.addr), (Value.slice ta nt tc), .string (str l.data)] 33 (0, 0)) ∧ (V8.alloc (.cells #[.string (str l.addr), (Value.slice ta nt tc), .string (str l.data)] 33)).heap[b]? = some (setO x (tot L)) := ⟨(Below.heap_alloc _ _ _ (lt_of S0.1)).trans S0.1, (Below.heap_alloc _ _ _ (lt_of S0.2)).trans S0.2⟩
  have n9 : (V8.alloc (.cells #[.string (str l.addr), (Value.slice ta nt tc), .string (str l.data)] 33)).heap[V8.heap.size]? = some (.cells #[.string (str l.addr), (Value.slice ta nt tc), .string (str l.data)] 33 (0, 0)) := heap_alloc_new _ _
  have s9 : (V8.alloc (.cells #[.string (str l.addr), (Value.slice ta nt tc), .string (str l.data)] 33)).heap.size = V8.heap.size + 1 := alloc_size _ _
  have b9 : Below V8.heap.size V8 (V8.alloc (.cells #[.string (str l.addr), (Value.slice ta nt tc), .string (str l.data)] 33)) := (Below.refl _ V8).alloc (Nat.le_refl _) _
  refine hK _ _ (fun _ _ => S1) ?_
  clear hK K S0
  have S0 := S1
  clear S1
  generalize World.alloc V8 _ = V9 at M9 S0 n9 s9 b9 ⊢
  have hr9 := M9.ob.it.lrow
  have hqf : ¬ x.ft b q := (M9.box (q, _) (List.mem_cons_of_mem _ (List.mem_cons_self ..))).2.2
  have hlb := fun k => M9.ob.it.lv_ne (k := k)
  have hfew := M9.ob.it.few
  have HM9 := Lib.hid M9
  clear M9
  obtain ⟨z8, hz8⟩ : ∃ z8, z8 = V8.heap.size := ⟨_, rfl⟩
  rw [← hz8] at n9 s9 b9 ⊢
  have HZ := Lib.hid hz8
  clear hz8
  obtain ⟨i0, hi, hz0, hz1, hz2⟩ := info_parts infoLog
  try simp only [put_list, List.set]
  refine Drawn.only 7 (by kernel_rfl) rfl rfl (fun K hK => ?_)
  refine wp_append_lies _ (.tmp 18) (.tmp 20) 39 rfl 0 33 i0 _ 3 56 Try.underlying39 hi hz0 hz1 hz2 rfl (by omega) x.lv (logsOf L).length _ rfl hr9 ⟨z8, 0, none⟩ 1 1 [.string (str l.addr), (Value.slice ta nt tc), .string (str l.data)] rfl rfl (cells3 n9) (fun u hu => ?_) (by omega) (few_max (logs_le L) hfew HH.out.1) (few_bytes (logs_le L) hfew HH.out.1) (Nat.zero_le _) _ rfl ?_
  · simp at hu; rcases hu with rfl | rfl | rfl <;> rfl
  intro g cap V10 r10 g10 l10 m10
  have S1 : V10.heap[q]? = some (.cells #[.string (str l.addr), (Value.slice ta nt tc), .string (str l.data)] 33 (0, 0)) ∧ V10.heap[b]? = some (setO x (tot L)) := ⟨(g10.block q (lt_of S0.1) (fun e => hqf (Or.inl (Or.inr (Or.inr (Or.inr (Or.inr (Or.inl e.symm)))))))).trans S0.1, (g10.block b (lt_of S0.2) (fun e => (hlb b e.symm).1 rfl)).trans S0.2⟩
  refine hK _ _ (fun _ _ => S1) ?_
  have HG := Lib.hid (And.intro r10 (And.intro g10 (And.intro l10 (And.intro m10 (And.intro s9 b9)))))
  have d1 := cell_of S1.2 4
  have d2 := free_of S1.2 4
  have S10 := Lib.hid S1
  clear hK K r10 g10 l10 m10 S0 S1 n9 s9 b9 hr9 hqf hlb hfew hi hz0 hz1 hz2 i0
  try simp only [put_list, List.set]
  refine Drawn.only 8 (by kernel_rfl) rfl rfl (fun K hK => ?_)
  go_simp
  refine hK _ _ (fun _ _ => S10.out) ?_
  clear hK K
  try simp only [put_list, List.set]
  refine Drawn.only 9 (by kernel_rfl) rfl rfl (fun K hK => ?_)
  go_simp
  refine hK _ _ (fun _ _ => S10.out) ?_
  clear hK K
  try simp only [put_list, List.set]
  refine Drawn.only 10 (by kernel_rfl) rfl rfl (fun K hK => ?_)
  go_simp
  refine hK _ _ (fun h _ => by cases h) ?_
  clear hK K HS d1 d2
  refine Drawn.done (by kernel_rfl) ?_ _
  have F := log_mid HM.out.ob.it HG.out.1 HG.out.2.1 HG.out.2.2.1 (by rw [HG.out.2.2.2.2.1]; exact Nat.lt_succ_self _) HG.out.2.2.2.2.2 HZ.out S10.out.2
  clear HG S10 HM9
  generalize World.setCell V10 _ _ = V11 at F ⊢
  obtain ⟨F1, F2, F3, F4⟩ := F
  have CG := Lib.hid (change_c (W := V11) F1 (own_keep HM.out.ob.it.brow fun k hk => F3.block k (HM.out.ob.it.brow_lt hk) (fun e => e.elim (fun e => (HM.out.ob.it.bv_ne hk).1 e) fun e => (HM.out.ob.it.bv_ne hk).2.2.2.2 e)) (Nat.lt_of_le_of_lt HM.out.ob.it.few (Nat.lt_trans HH.out.1 (by decide))) 46 #[ptr b] #[])
  have HV := Lib.hid (And.intro F1 (And.intro F2 (And.intro F3 F4)))
  unfold ptr at CG
  clear F1 F2 F3 F4
  go_wp2_with fail
  refine CG.out.mono ?_
  rintro e V12 ⟨rfl, bv', q1, q2, q3, q4⟩
  have HQ4 := Lib.hid (And.intro q1 (And.intro q2 (And.intro q3 q4)))
  clear q1 q2 q3 q4
  go_wp2_with fail
  go_end0
  exact ⟨rfl, log_end HW0.out HM.out (by rw [alloc_size] at HT; exact HNT.out ▸ HT.out) HV.out.1 (HNT.out ▸ HV.out.2.1) HV.out.2.2.1 HV.out.2.2.2 HQ4.out.1 HQ4.out.2.1 HQ4.out.2.2.1 HQ4.out.2.2.2⟩
end Go.Proofs.Ytginibphicmmmaa
