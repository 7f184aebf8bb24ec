/- The reference's Log. -/
import Derived.Test.YtginibphicmmmaaJzh
namespace Go.Proofs.Ytginibphicmmmaa
open Go.RowKit Go.Maps Go.Shelf Mp
section
variable {e : Nat} {rv : Value} {ts : List Value} {fx : List (Nat × Obj)} {M : List Cg} {W : World}
set_option maxRecDepth 100000 in
set_option maxHeartbeats 8000000 in
theorem rlog_c (h : RAt e rv ts fx M W) (hM : M.length < 1000000) {l : LogP} {tv : Value} (hw : WordsAt W tv l.tops) (h32 : l.tops.length * 32 ≤ 140737488355328) :
    Calls Try.prog 35 #[ptr e, logV l tv] W fun r W' => r = .returned (.tuple #[]) ∧ RStep e rv fx (M ++ [.log l]) W W' := by
  obtain ⟨ra, rc, hrv⟩ := own_any h.row
  obtain ⟨nM, hnM⟩ : ∃ nM, nM = M.length := ⟨_, rfl⟩
  rw [← hnM] at hrv
  subst hrv
  have hb0 := below_new W (.cells #[.string (str l.addr), tv, .string (str l.data)] 33 (0, 0))
  have hW0 := heap_alloc_new W (.cells #[.string (str l.addr), tv, .string (str l.data)] 33 (0, 0))
  have HWd := Lib.hid (hw.below hb0)
  have HH := Lib.hid (And.intro h (And.intro hM (And.intro hnM h32)))
  have hs0 : (W.alloc (.cells #[.string (str l.addr), tv, .string (str l.data)] 33 (0, 0))).heap.size = W.heap.size + 1 := alloc_size _ _
  clear h hM hnM hw h32
  obtain ⟨i0, hi, hz0, hz1, hz2⟩ := info_parts infoChange
  have HI := Lib.hid (And.intro hi (And.intro hz0 (And.intro hz1 hz2)))
  clear hi hz0 hz1 hz2
  unfold ptr logV at *
  go_enter Try.func35, Try.ntmps35
  go_upto_region 1 with fail
  obtain ⟨q, hq⟩ : ∃ q, q = W.heap.size := ⟨_, rfl⟩
  rw [← hq] at hW0 hs0 ⊢
  have HQ := Lib.hid hq
  clear hq
  generalize World.alloc W _ = V0 at hW0 hs0 HWd hb0 ⊢
  have y1 := cell_of hW0 1
  simp only [List.getElem?_toArray, List.getElem?_cons_zero, List.getElem?_cons_succ] at y1
  have HV := Lib.hid (And.intro hb0 (And.intro hW0 hs0))
  clear hb0 hW0 hs0
  go_upto_region 2 with (at_builtin; refine wpList_append_words (by rfl) _ (by rfl) (by rfl) HWd.out HH.out.2.2.2 (Nat.le_refl _) ?_; intro t1 V3 r1 g1; obtain ⟨a1, c1, e1⟩ := own_any r1; subst e1; have hq3 := (g1.block q (lt_of HV.out.2.1) (by simp)).trans HV.out.2.1; have f1 := free_of hq3 1; have z1 := cell_of hq3 1; have HR := Lib.hid (And.intro r1 (And.intro g1 hq3)); clear r1 g1 hq3 y1)
  obtain ⟨nt, hnt⟩ : ∃ nt, nt = l.tops.length := ⟨_, rfl⟩
  rw [← hnt]
  have HNT := Lib.hid hnt
  clear hnt
  have hb3 : Below W.heap.size W V3 := HV.out.1.trans (grown_below HR.out.2.1 HV.out.1.size)
  have hb4 : Below W.heap.size W (V3.setCell ⟨q, 1, none⟩ (.slice a1 nt c1)) := Chg.below (chg_set (F := fun _ => False) (F' := fun _ => False) (Chg.of_below hb3) (Or.inr (Nat.le_of_eq HQ.out.symm)) 1 _)
  have hq4 : (V3.setCell ⟨q, 1, none⟩ (.slice a1 nt c1)).heap[q]? = some (.cells #[.string (str l.addr), .slice a1 nt c1, .string (str l.data)] 33 (0, 0)) := box3_set HR.out.2.2 _
  obtain ⟨T, hT, htop⟩ := fresh_top HR.out.1
  have hT4 : ∀ p ∈ T, (V3.setCell ⟨q, 1, none⟩ (.slice a1 nt c1)).heap[p.1]? = some p.2 ∧ W.heap.size ≤ p.1 := fun p hp => ⟨(heap_setCell_other _ _ _ _ (by have := (hT p hp).2; have := lt_of HV.out.2.1; intro e1; simp at e1; omega)).trans (hT p hp).1, Nat.le_trans HV.out.1.size (hT p hp).2⟩
  clear z1 f1 hb3 hT HR HV HWd
  generalize World.setCell V3 _ _ = V4 at hb4 hq4 hT4 ⊢
  have HT := Lib.hid htop
  clear htop
  have hb8 : Below W.heap.size W V4.drew := hb4.drew
  have hT8 : ∀ p ∈ T, V4.drew.heap[p.1]? = some p.2 ∧ W.heap.size ≤ p.1 := hT4
  have S0 : V4.drew.heap[q]? = some (.cells #[.string (str l.addr), .slice a1 nt c1, .string (str l.data)] 33 (0, 0)) ∧ V4.drew.heap[e]? = some (.cells #[.slice ra nM rc] 29 (0, 0)) := ⟨hq4, (hb8.block e (lt_of HH.out.1.cell)).trans HH.out.1.cell⟩
  clear hb4 hq4 hT4
  have HS := Lib.hid (fun (V : World) (hV : V.heap[q]? = some (.cells #[.string (str l.addr), .slice a1 nt c1, .string (str l.data)] 33 (0, 0)) ∧ V.heap[e]? = some (.cells #[.slice ra nM rc] 29 (0, 0))) => (show (V.cell? ⟨q, 0, none⟩ = some (.string (str l.addr)) ∧ V.cell? ⟨q, 1, none⟩ = some (.slice a1 nt c1) ∧ V.cell? ⟨q, 2, none⟩ = some (.string (str l.data))) ∧ V.cell? ⟨e, 0, none⟩ = some (.slice ra nM rc) from ⟨⟨cell_of hV.1 0, cell_of hV.1 1, cell_of hV.1 2⟩, cell_of hV.2 0⟩))
  refine Drawn.start (fun V => V.heap[q]? = some (.cells #[.string (str l.addr), .slice a1 nt c1, .string (str l.data)] 33 (0, 0)) ∧ V.heap[e]? = some (.cells #[.slice ra nM rc] 29 (0, 0))) (fun j => j == 11) (by kernel_rfl) ?_
  generalize World.drew _ = V8 at hb8 hT8 S0 ⊢
  refine Drawn.take 0 (some 8) (v := ?_) rfl rfl (by kernel_rfl) (by kernel_rfl) (by kernel_rfl) (by kernel_rfl) (by kernel_rfl) rfl (fun _ _ _ h => h) (Or.inl ⟨rfl, ?_⟩) S0 ?_
  rotate_left
  · intro W hW; have hW := HS.out W hW; go_simp; try with_reducible rfl
  simp only [put_list, List.set]
  refine Drawn.take 1 (some 9) (v := ?_) rfl rfl (by kernel_rfl) (by kernel_rfl) (by kernel_rfl) (by kernel_rfl) (by kernel_rfl) rfl (fun _ _ _ h => h) (Or.inl ⟨rfl, ?_⟩) S0 ?_
  rotate_left
  · intro W hW; have hW := HS.out W hW; go_simp; try with_reducible rfl
  simp only [put_list, List.set]
  refine Drawn.take 2 (some 10) (v := ?_) rfl rfl (by kernel_rfl) (by kernel_rfl) (by kernel_rfl) (by kernel_rfl) (by kernel_rfl) rfl (fun _ _ _ h => h) (Or.inl ⟨rfl, ?_⟩) S0 ?_
  rotate_left
  · intro W hW; have hW := HS.out W hW; go_simp; try with_reducible rfl
  simp only [put_list, List.set]
  refine Drawn.take 3 (some 11) (v := ?_) rfl rfl (by kernel_rfl) (by kernel_rfl) (by kernel_rfl) (by kernel_rfl) (by kernel_rfl) rfl (fun _ _ _ h => h) (Or.inl ⟨rfl, ?_⟩) S0 ?_
  rotate_left
  · intro W hW; have hW := HS.out W hW; go_simp; try with_reducible rfl
  simp only [put_list, List.set]
  refine Drawn.take 4 (some 12) (v := ?_) rfl rfl (by kernel_rfl) (by kernel_rfl) (by kernel_rfl) (by kernel_rfl) (by kernel_rfl) rfl (fun _ _ _ h => h) (Or.inl ⟨rfl, ?_⟩) S0 ?_
  rotate_left
  · intro W hW; have hW := HS.out W hW; go_simp; try with_reducible rfl
  simp only [put_list, List.set]
  refine Drawn.take 5 (some 13) (v := ?_) rfl rfl (by kernel_rfl) (by kernel_rfl) (by kernel_rfl) (by kernel_rfl) (by kernel_rfl) rfl (fun _ _ _ h => h) (Or.inl ⟨rfl, ?_⟩) S0 ?_
  rotate_left
  · intro W hW; have hW := HS.out W hW; go_simp; try with_reducible rfl
  simp only [put_list, List.set]
  refine Drawn.take 6 (some 14) (v := ?_) rfl rfl (by kernel_rfl) (by kernel_rfl) (by kernel_rfl) (by kernel_rfl) (by kernel_rfl) rfl (fun _ _ _ h => h) (Or.inl ⟨rfl, ?_⟩) S0 ?_
  rotate_left
  · intro W hW; have hW := HS.out W hW; go_simp; try with_reducible rfl
  simp only [put_list, List.set]
  refine Drawn.only 7 (by kernel_rfl) rfl rfl (fun K hK => ?_)
  go_simp
  have n9 : (V8.alloc (.cells #[.int .i64 5, .string ⟨#[]⟩, .int .u64 0, .int .u64 0, .int .u64 0, .int .u64 0, .int .i64 0, .string (str l.addr), .slice a1 nt c1, .string (str l.data)] 71)).heap[V8.heap.size]? = some (.cells #[.int .i64 5, .string ⟨#[]⟩, .int .u64 0, .int .u64 0, .int .u64 0, .int .u64 0, .int .i64 0, .string (str l.addr), .slice a1 nt c1, .string (str l.data)] 71 (0, 0)) := heap_alloc_new _ _
  have b9 : Below W.heap.size W (V8.alloc (.cells #[.int .i64 5, .string ⟨#[]⟩, .int .u64 0, .int .u64 0, .int .u64 0, .int .u64 0, .int .i64 0, .string (str l.addr), .slice a1 nt c1, .string (str l.data)] 71)) := hb8.trans ((Below.refl _ V8).alloc hb8.size _)
  have hT9 : ∀ p ∈ T, (V8.alloc (.cells #[.int .i64 5, .string ⟨#[]⟩, .int .u64 0, .int .u64 0, .int .u64 0, .int .u64 0, .int .i64 0, .string (str l.addr), .slice a1 nt c1, .string (str l.data)] 71)).heap[p.1]? = some p.2 ∧ W.heap.size ≤ p.1 := fun p hp => ⟨(Below.heap_alloc _ _ _ (lt_of (hT8 p hp).1)).trans (hT8 p hp).1, (hT8 p hp).2⟩
  have S1 : (V8.alloc (.cells #[.int .i64 5, .string ⟨#[]⟩, .int .u64 0, .int .u64 0, .int .u64 0, .int .u64 0, .int .i64 0, .string (str l.addr), .slice a1 nt c1, .string (str l.data)] 71)).heap[q]? = some (.cells #[.string (str l.addr), .slice a1 nt c1, .string (str l.data)] 33 (0, 0)) ∧ (V8.alloc (.cells #[.int .i64 5, .string ⟨#[]⟩, .int .u64 0, .int .u64 0, .int .u64 0, .int .u64 0, .int .i64 0, .string (str l.addr), .slice a1 nt c1, .string (str l.data)] 71)).heap[e]? = some (.cells #[.slice ra nM rc] 29 (0, 0)) := ⟨(Below.heap_alloc _ _ _ (lt_of S0.1)).trans S0.1, (Below.heap_alloc _ _ _ (lt_of S0.2)).trans S0.2⟩
  refine hK _ _ (fun _ _ => S1) ?_
  clear hK K S0 hT8
  have S0 := S1
  clear S1
  generalize World.alloc V8 _ = V9 at S0 n9 b9 hT9 ⊢
  obtain ⟨z8, hz8⟩ : ∃ z8, z8 = V8.heap.size := ⟨_, rfl⟩
  rw [← hz8] at n9 ⊢
  clear hz8 hb8
  try simp only [put_list, List.set]
  refine Drawn.only 8 (by kernel_rfl) rfl rfl (fun K hK => ?_)
  refine wp_append_lies _ (.tmp 12) (.tmp 15) 27 rfl 0 71 i0 _ 10 120 Try.underlying27 HI.out.1 HI.out.2.1 HI.out.2.2.1 HI.out.2.2.2 rfl (by omega) (.slice ra nM rc) M.length (chCells M ts) rfl (HH.out.1.rowB b9) ⟨z8, 0, none⟩ 1 1 (chE (.log l) (.slice a1 nt c1)) rfl rfl (cells10 n9) (chE_one _ _ rfl) (by omega) (rmax HH.out.2.1) (rbytes HH.out.2.1) (Nat.zero_le _) _ rfl ?_
  intro g cap V10 r10 g10 l10 m10
  have S1 : V10.heap[e]? = some (.cells #[.slice ra nM rc] 29 (0, 0)) := HH.out.1.keptE b9 g10
  have hqW : W.heap.size ≤ q := Nat.le_of_eq HQ.out.symm
  have S2 : V10.heap[q]? = some (.cells #[.string (str l.addr), .slice a1 nt c1, .string (str l.data)] 33 (0, 0)) ∧ V10.heap[e]? = some (.cells #[.slice ra nM rc] 29 (0, 0)) := ⟨(g10.block q (lt_of S0.1) (fun e1 => by have := (World.ownsRow.lt HH.out.1.row q e1.symm).2; omega)).trans S0.1, S1⟩
  refine hK _ _ (fun _ _ => S2) ?_
  have HG := Lib.hid (And.intro r10 (And.intro g10 (And.intro l10 (And.intro b9 hT9))))
  have d1 := cell_of S1 0
  have d2 := free_of S1 0
  have S10 := Lib.hid S2
  clear hK K r10 g10 l10 m10 S0 S1 S2 n9 b9 hqW hT9
  try simp only [put_list, List.set]
  refine Drawn.only 9 (by kernel_rfl) rfl rfl (fun K hK => ?_)
  go_simp
  refine hK _ _ (fun _ _ => S10.out) ?_
  clear hK K
  try simp only [put_list, List.set]
  refine Drawn.only 10 (by kernel_rfl) rfl rfl (fun K hK => ?_)
  go_simp
  refine hK _ _ (fun _ _ => S10.out) ?_
  clear hK K
  try simp only [put_list, List.set]
  refine Drawn.only 11 (by kernel_rfl) rfl rfl (fun K hK => ?_)
  go_simp
  refine hK _ _ (fun h _ => by cases h) ?_
  clear hK K HS d1 d2
  refine Drawn.done (by kernel_rfl) ?_ _
  have F := HH.out.1.snoc (c := .log l) (t := .slice a1 nt c1) (T := T) HG.out.2.2.2.1 HG.out.2.2.2.2 (by have h := HT.out; rw [← HNT.out] at h; exact h) HG.out.1 HG.out.2.1 HG.out.2.2.1
  generalize World.setCell V10 _ _ = V11 at F ⊢
  have HF := Lib.hid F
  clear F HG S10
  go_wp2_with fail
  go_end0
  have HF2 := HF.out
  exact ⟨rfl, _, _, _, HF2.1, HF2.2⟩
end
end Go.Proofs.Ytginibphicmmmaa
