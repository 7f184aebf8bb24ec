/- The reference's once. -/
import Derived.Test.YtginibphicmmmaaJzd
namespace Go.Proofs.Ytginibphicmmmaa
open Go.RowKit Go.Maps Go.Shelf Mp
section
variable {e : Nat} {rv : Value} {ts : List Value} {fx : List (Nat × Obj)} {M : List Cg} {W : World}
theorem RStep.below {W' : World} (h : RAt e rv ts fx M W) (b : Below W.heap.size W W') : RStep e rv fx M W W' := ⟨rv, ts, fx, (h.ob.below b).it, Chg.of_below b⟩
set_option maxRecDepth 100000 in
set_option maxHeartbeats 8000000 in
theorem ronce_c (h : RAt e rv ts fx M W) (hM : M.length < 1000000) (kind : Nat) (hk : kind < 10) (a : Nm) (k : Wq) (c : Cg) (hc : chE c (.slice none 0 0) = [.int .i64 (kind : Nat), .string (str a), .int .u64 (k.a : Nat), .int .u64 (k.b : Nat), .int .u64 (k.c : Nat), .int .u64 (k.d : Nat), .int .i64 0, .string ⟨#[]⟩, .slice none 0 0, .string ⟨#[]⟩]) (hcl : c.lg.tops = []) :
    Calls Try.prog 50 #[ptr e, .int .i64 (kind : Nat), .string (str a), .agg (wqC k)] W fun r W' => r = .returned (.bool (M.any (Cg.is kind a k))) ∧ RStep e rv fx (if M.any (Cg.is kind a k) then M else M ++ [c]) W W' := by
  obtain ⟨ra, rc, hrv⟩ := own_any h.row
  obtain ⟨N, hN⟩ : ∃ N, N = if M.any (Cg.is kind a k) then M else M ++ [c] := ⟨_, rfl⟩
  rw [← hN]
  have HN := Lib.hid hN
  clear hN
  obtain ⟨nM, hnM⟩ : ∃ nM, nM = M.length := ⟨_, rfl⟩
  rw [← hnM] at hrv
  subst hrv
  have hb0 := below_new W (.cells (wqC k) 46 (0, 0))
  have CH := Lib.hid (rhas_c (h.ob.below hb0).it hM kind hk a k)
  have HB := Lib.hid (And.intro hb0 (heap_alloc_new W (.cells (wqC k) 46 (0, 0))))
  have HH := Lib.hid (And.intro h (And.intro hM (And.intro hnM (And.intro hc hcl))))
  clear h hM hnM hc hcl hb0 hk
  obtain ⟨i0, hi, hz0, hz1, hz2⟩ := info_parts infoChange
  have HI := Lib.hid (And.intro hi (And.intro hz0 (And.intro hz1 hz2)))
  clear hi hz0 hz1 hz2
  unfold ptr wqC at *
  go_enter Try.func50, Try.ntmps50
  obtain ⟨q, hq⟩ : ∃ q, q = W.heap.size := ⟨_, rfl⟩
  have HQ := Lib.hid hq
  have y0 := cell_of HB.out.2 0
  have y1 := cell_of HB.out.2 1
  have y2 := cell_of HB.out.2 2
  have y3 := cell_of HB.out.2 3
  simp only [List.getElem?_toArray, List.getElem?_cons_zero, List.getElem?_cons_succ] at y0 y1 y2 y3
  go_wp2_with fail
  refine CH.out.mono ?_
  rintro r V1 ⟨rfl, hb1⟩
  have hB1 := HB.out.1.trans (hb1.mono HB.out.1.size)
  have hQ1 : V1.heap[q]? = some (.cells #[.int .u64 (k.a : Nat), .int .u64 (k.b : Nat), .int .u64 (k.c : Nat), .int .u64 (k.d : Nat)] 46 (0, 0)) := by
    rw [hq]
    exact (hb1.block _ (lt_of HB.out.2)).trans HB.out.2
  have HV := Lib.hid (And.intro hB1 hQ1)
  rw [← hq]
  clear hB1 hQ1 hb1 y0 y1 y2 y3 CH HB hq
  cases hany : M.any (Cg.is kind a k) with
  | true =>
    go_wp2_with fail
    go_ret
    exact ⟨by rw [hany]; rfl, by rw [show N = M by rw [HN.out, hany]; rfl]; exact RStep.below HH.out.1 HV.out.1⟩
  | false =>
    go_wp2_with fail
    have hb8 : Below W.heap.size W V1.drew := HV.out.1.drew
    have S0 : V1.drew.heap[q]? = some (.cells #[.int .u64 (k.a : Nat), .int .u64 (k.b : Nat), .int .u64 (k.c : Nat), .int .u64 (k.d : Nat)] 46 (0, 0)) ∧ V1.drew.heap[e]? = some (.cells #[.slice ra nM rc] 29 (0, 0)) := ⟨HV.out.2, (hb8.block e (lt_of HH.out.1.cell)).trans HH.out.1.cell⟩
    have HS := Lib.hid (fun (V : World) (hV : V.heap[q]? = some (.cells #[.int .u64 (k.a : Nat), .int .u64 (k.b : Nat), .int .u64 (k.c : Nat), .int .u64 (k.d : Nat)] 46 (0, 0)) ∧ V.heap[e]? = some (.cells #[.slice ra nM rc] 29 (0, 0))) => (show (V.cell? ⟨q, 0, none⟩ = some (.int .u64 (k.a : Nat)) ∧ V.cell? ⟨q, 1, none⟩ = some (.int .u64 (k.b : Nat)) ∧ V.cell? ⟨q, 2, none⟩ = some (.int .u64 (k.c : Nat)) ∧ V.cell? ⟨q, 3, none⟩ = some (.int .u64 (k.d : Nat))) ∧ V.cell? ⟨e, 0, none⟩ = some (.slice ra nM rc) from ⟨⟨cell_of hV.1 0, cell_of hV.1 1, cell_of hV.1 2, cell_of hV.1 3⟩, cell_of hV.2 0⟩))
    refine Drawn.start (fun V => V.heap[q]? = some (.cells #[.int .u64 (k.a : Nat), .int .u64 (k.b : Nat), .int .u64 (k.c : Nat), .int .u64 (k.d : Nat)] 46 (0, 0)) ∧ V.heap[e]? = some (.cells #[.slice ra nM rc] 29 (0, 0))) (fun j => j == 13) (by kernel_rfl) ?_
    clear HV
    generalize World.drew _ = V8 at hb8 S0 ⊢
    refine Drawn.take 0 (some 17) (v := ?_) rfl rfl (by kernel_rfl) (by kernel_rfl) (by kernel_rfl) (by kernel_rfl) (by kernel_rfl) rfl (fun _ _ _ h => h) (Or.inl ⟨rfl, ?_⟩) S0 ?_
    rotate_left
    · intro W hW; have hW := HS.out W hW; go_simp; try with_reducible rfl
    simp only [put_list, List.set]
    refine Drawn.take 1 (some 18) (v := ?_) rfl rfl (by kernel_rfl) (by kernel_rfl) (by kernel_rfl) (by kernel_rfl) (by kernel_rfl) rfl (fun _ _ _ h => h) (Or.inl ⟨rfl, ?_⟩) S0 ?_
    rotate_left
    · intro W hW; have hW := HS.out W hW; go_simp; try with_reducible rfl
    simp only [put_list, List.set]
    refine Drawn.take 2 (some 19) (v := ?_) rfl rfl (by kernel_rfl) (by kernel_rfl) (by kernel_rfl) (by kernel_rfl) (by kernel_rfl) rfl (fun _ _ _ h => h) (Or.inl ⟨rfl, ?_⟩) S0 ?_
    rotate_left
    · intro W hW; have hW := HS.out W hW; go_simp; try with_reducible rfl
    simp only [put_list, List.set]
    refine Drawn.take 3 (some 20) (v := ?_) rfl rfl (by kernel_rfl) (by kernel_rfl) (by kernel_rfl) (by kernel_rfl) (by kernel_rfl) rfl (fun _ _ _ h => h) (Or.inl ⟨rfl, ?_⟩) S0 ?_
    rotate_left
    · intro W hW; have hW := HS.out W hW; go_simp; try with_reducible rfl
    simp only [put_list, List.set]
    refine Drawn.take 4 (some 21) (v := ?_) rfl rfl (by kernel_rfl) (by kernel_rfl) (by kernel_rfl) (by kernel_rfl) (by kernel_rfl) rfl (fun _ _ _ h => h) (Or.inl ⟨rfl, ?_⟩) S0 ?_
    rotate_left
    · intro W hW; have hW := HS.out W hW; go_simp; try with_reducible rfl
    simp only [put_list, List.set]
    refine Drawn.take 5 (some 22) (v := ?_) rfl rfl (by kernel_rfl) (by kernel_rfl) (by kernel_rfl) (by kernel_rfl) (by kernel_rfl) rfl (fun _ _ _ h => h) (Or.inl ⟨rfl, ?_⟩) S0 ?_
    rotate_left
    · intro W hW; have hW := HS.out W hW; go_simp; try with_reducible rfl
    simp only [put_list, List.set]
    refine Drawn.take 6 (some 23) (v := ?_) rfl rfl (by kernel_rfl) (by kernel_rfl) (by kernel_rfl) (by kernel_rfl) (by kernel_rfl) rfl (fun _ _ _ h => h) (Or.inl ⟨rfl, ?_⟩) S0 ?_
    rotate_left
    · intro W hW; have hW := HS.out W hW; go_simp; try with_reducible rfl
    simp only [put_list, List.set]
    refine Drawn.take 7 (some 24) (v := ?_) rfl rfl (by kernel_rfl) (by kernel_rfl) (by kernel_rfl) (by kernel_rfl) (by kernel_rfl) rfl (fun _ _ _ h => h) (Or.inl ⟨rfl, ?_⟩) S0 ?_
    rotate_left
    · intro W hW; have hW := HS.out W hW; go_simp; try with_reducible rfl
    simp only [put_list, List.set]
    refine Drawn.take 8 (some 25) (v := ?_) rfl rfl (by kernel_rfl) (by kernel_rfl) (by kernel_rfl) (by kernel_rfl) (by kernel_rfl) rfl (fun _ _ _ h => h) (Or.inl ⟨rfl, ?_⟩) S0 ?_
    rotate_left
    · intro W hW; have hW := HS.out W hW; go_simp; try with_reducible rfl
    simp only [put_list, List.set]
    refine Drawn.only 9 (by kernel_rfl) rfl rfl (fun K hK => ?_)
    go_simp
    have n9 : (V8.alloc (.cells #[.int .i64 (kind : Nat), .string (str a), .int .u64 (k.a : Nat), .int .u64 (k.b : Nat), .int .u64 (k.c : Nat), .int .u64 (k.d : Nat), .int .i64 0, .string ⟨#[]⟩, .slice none 0 0, .string ⟨#[]⟩] 71)).heap[V8.heap.size]? = some (.cells #[.int .i64 (kind : Nat), .string (str a), .int .u64 (k.a : Nat), .int .u64 (k.b : Nat), .int .u64 (k.c : Nat), .int .u64 (k.d : Nat), .int .i64 0, .string ⟨#[]⟩, .slice none 0 0, .string ⟨#[]⟩] 71 (0, 0)) := heap_alloc_new _ _
    have b9 : Below W.heap.size W (V8.alloc (.cells #[.int .i64 (kind : Nat), .string (str a), .int .u64 (k.a : Nat), .int .u64 (k.b : Nat), .int .u64 (k.c : Nat), .int .u64 (k.d : Nat), .int .i64 0, .string ⟨#[]⟩, .slice none 0 0, .string ⟨#[]⟩] 71)) := hb8.trans ((Below.refl _ V8).alloc hb8.size _)
    have S1 : (V8.alloc (.cells #[.int .i64 (kind : Nat), .string (str a), .int .u64 (k.a : Nat), .int .u64 (k.b : Nat), .int .u64 (k.c : Nat), .int .u64 (k.d : Nat), .int .i64 0, .string ⟨#[]⟩, .slice none 0 0, .string ⟨#[]⟩] 71)).heap[q]? = some (.cells #[.int .u64 (k.a : Nat), .int .u64 (k.b : Nat), .int .u64 (k.c : Nat), .int .u64 (k.d : Nat)] 46 (0, 0)) ∧ (V8.alloc (.cells #[.int .i64 (kind : Nat), .string (str a), .int .u64 (k.a : Nat), .int .u64 (k.b : Nat), .int .u64 (k.c : Nat), .int .u64 (k.d : Nat), .int .i64 0, .string ⟨#[]⟩, .slice none 0 0, .string ⟨#[]⟩] 71)).heap[e]? = some (.cells #[.slice ra nM rc] 29 (0, 0)) := ⟨(Below.heap_alloc _ _ _ (lt_of S0.1)).trans S0.1, (Below.heap_alloc _ _ _ (lt_of S0.2)).trans S0.2⟩
    refine hK _ _ (fun _ _ => S1) ?_
    clear hK K S0
    have S0 := S1
    clear S1
    generalize World.alloc V8 _ = V9 at S0 n9 b9 ⊢
    obtain ⟨z8, hz8⟩ : ∃ z8, z8 = V8.heap.size := ⟨_, rfl⟩
    rw [← hz8] at n9 ⊢
    clear hz8 hb8
    try simp only [put_list, List.set]
    refine Drawn.only 10 (by kernel_rfl) rfl rfl (fun K hK => ?_)
    refine wp_append_lies _ (.tmp 21) (.tmp 26) 27 rfl 0 71 i0 _ 10 120 Try.underlying27 HI.out.1 HI.out.2.1 HI.out.2.2.1 HI.out.2.2.2 rfl (by omega) (.slice ra nM rc) M.length (chCells M ts) rfl (HH.out.1.rowB b9) ⟨z8, 0, none⟩ 1 1 (chE c (.slice none 0 0)) rfl rfl (cells10 (HH.out.2.2.2.1 ▸ n9)) (chE_one _ _ rfl) (by omega) (rmax HH.out.2.1) (rbytes HH.out.2.1) (Nat.zero_le _) _ rfl ?_
    intro g cap V10 r10 g10 l10 m10
    have S1 : V10.heap[e]? = some (.cells #[.slice ra nM rc] 29 (0, 0)) := HH.out.1.keptE b9 g10
    have hqW : W.heap.size ≤ q := Nat.le_of_eq HQ.out.symm
    have S2 : V10.heap[q]? = some (.cells #[.int .u64 (k.a : Nat), .int .u64 (k.b : Nat), .int .u64 (k.c : Nat), .int .u64 (k.d : Nat)] 46 (0, 0)) ∧ V10.heap[e]? = some (.cells #[.slice ra nM rc] 29 (0, 0)) := ⟨(g10.block q (lt_of S0.1) (fun e1 => by have := (World.ownsRow.lt HH.out.1.row q e1.symm).2; omega)).trans S0.1, S1⟩
    refine hK _ _ (fun _ _ => S2) ?_
    have HG := Lib.hid (And.intro r10 (And.intro g10 (And.intro l10 b9)))
    have d1 := cell_of S1 0
    have d2 := free_of S1 0
    have S10 := Lib.hid S2
    clear hK K r10 g10 l10 m10 S0 S1 S2 n9 b9 hqW
    try simp only [put_list, List.set]
    refine Drawn.only 11 (by kernel_rfl) rfl rfl (fun K hK => ?_)
    go_simp
    refine hK _ _ (fun _ _ => S10.out) ?_
    clear hK K
    try simp only [put_list, List.set]
    refine Drawn.only 12 (by kernel_rfl) rfl rfl (fun K hK => ?_)
    go_simp
    refine hK _ _ (fun _ _ => S10.out) ?_
    clear hK K
    try simp only [put_list, List.set]
    refine Drawn.only 13 (by kernel_rfl) rfl rfl (fun K hK => ?_)
    go_simp
    refine hK _ _ (fun h _ => by cases h) ?_
    clear hK K HS d1 d2
    refine Drawn.done (by kernel_rfl) ?_ _
    have F := HH.out.1.snoc (c := c) (t := .slice none 0 0) (T := []) HG.out.2.2.2 (fun _ h => by cases h) (Or.inl ⟨HH.out.2.2.2.2, rfl⟩) HG.out.1 HG.out.2.1 HG.out.2.2.1
    generalize World.setCell V10 _ _ = V11 at F ⊢
    have HF := Lib.hid F
    clear F HG S10
    go_wp2_with fail
    go_ret
    have HF2 := HF.out
    exact ⟨by rw [hany]; rfl, by rw [show N = M ++ [c] by rw [HN.out, hany]; rfl]; exact ⟨_, _, _, HF2.1, HF2.2⟩⟩
end
end Go.Proofs.Ytginibphicmmmaa
