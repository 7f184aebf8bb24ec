/- Slot, HasSlot (written by genJg.py). -/
import Derived.Test.YtginibphicmmmaaJf
import Derived.Test.YtginibphicmmmaaAmong
namespace Go.Proofs.Ytginibphicmmmaa
open Go.RowKit Go.Maps Mp

section
variable {x : Sx} {b n : Nat} {L : List Cg} {W : World}
set_option maxRecDepth 100000 in
set_option maxHeartbeats 4000000 in
theorem hasSlot_c (h : WAt x b L n W) {a : Nm} (ha : a.length ≤ big) {k : Wq} (hk : k.Ok) :
    Calls Try.prog 25 #[ptr b, .string (str a), .agg (wqC k)] W fun e W' => e = .returned (.bool (hasBy plOf L ⟨a, false, k⟩).isSome) ∧ Below W.heap.size W W' := by
  have M := (An.start h.ob).alloc (.cells (wqC k) 46 (0, 0))
  have HM := Lib.hid M
  have HK := Lib.hid (And.intro ha (And.intro hk trivial))
  clear M h ha hk
  unfold ptr wqC at *
  go_enter Try.func25, Try.ntmps25
  go_wp2_with fail
  have M1 := HM.out.call (Below.refl _ (W.alloc (.cells #[.int .u64 (k.a : Nat), .int .u64 (k.b : Nat), .int .u64 (k.c : Nat), .int .u64 (k.d : Nat)] 46 (0, 0)))).drew
  have S0 := And.intro (cell_of M1.ob.it.cell 0) (M1.at (q := W.heap.size) (List.mem_cons_self ..))
  have HS := Lib.hid (fun (V : World) (hV : V.cell? ⟨b, 0, none⟩ = some (.map (some x.mw)) ∧ V.heap[W.heap.size]? = some (.cells #[.int .u64 (k.a : Nat), .int .u64 (k.b : Nat), .int .u64 (k.c : Nat), .int .u64 (k.d : Nat)] 46 (0, 0))) => (show V.cell? ⟨b, 0, none⟩ = some (.map (some x.mw)) ∧ V.cell? ⟨W.heap.size, 0, none⟩ = some (.int .u64 (k.a : Nat)) ∧ V.cell? ⟨W.heap.size, 1, none⟩ = some (.int .u64 (k.b : Nat)) ∧ V.cell? ⟨W.heap.size, 2, none⟩ = some (.int .u64 (k.c : Nat)) ∧ V.cell? ⟨W.heap.size, 3, none⟩ = some (.int .u64 (k.d : Nat)) from ⟨hV.1, cell_of hV.2 0, cell_of hV.2 1, cell_of hV.2 2, cell_of hV.2 3⟩))
  have HM1 := Lib.hid M1
  have HB : Below W.heap.size W (W.alloc (.cells #[.int .u64 (k.a : Nat), .int .u64 (k.b : Nat), .int .u64 (k.c : Nat), .int .u64 (k.d : Nat)] 46 (0, 0))).drew := ((Below.refl _ W).alloc (Nat.le_refl _) _).drew
  clear M1 HM
  refine Drawn.start (fun V => V.cell? ⟨b, 0, none⟩ = some (.map (some x.mw)) ∧ V.heap[W.heap.size]? = some (.cells #[.int .u64 (k.a : Nat), .int .u64 (k.b : Nat), .int .u64 (k.c : Nat), .int .u64 (k.d : Nat)] 46 (0, 0))) (fun _ => false) (by kernel_rfl) ?_
  have C := Lib.hid (hasP_c HM1.out.ob.it.mw (p := ⟨a, false, k⟩) ⟨HK.out.1, HK.out.2.1⟩)
  unfold plC at C
  simp only at C
  generalize World.drew _ = V1 at HM1 S0 C HB ⊢
  refine Drawn.take 0 (some 7) (v := ?_) rfl rfl (by kernel_rfl) (by kernel_rfl) (by kernel_rfl) (by kernel_rfl) (by kernel_rfl) rfl (fun _ _ _ h => h) (Or.inl ⟨rfl, ?_⟩) S0 ?_
  rotate_left
  · intro W hW; have hW := HS.out W hW; go_simp; try with_reducible rfl
  simp only [put_list, List.set]
  refine Drawn.take 1 (some 8) (v := ?_) rfl rfl (by kernel_rfl) (by kernel_rfl) (by kernel_rfl) (by kernel_rfl) (by kernel_rfl) rfl (fun _ _ _ h => h) (Or.inl ⟨rfl, ?_⟩) S0 ?_
  rotate_left
  · intro W hW; have hW := HS.out W hW; go_simp; try with_reducible rfl
  simp only [put_list, List.set]
  refine Drawn.take 2 (some 9) (v := ?_) rfl rfl (by kernel_rfl) (by kernel_rfl) (by kernel_rfl) (by kernel_rfl) (by kernel_rfl) rfl (fun _ _ _ h => h) (Or.inl ⟨rfl, ?_⟩) S0 ?_
  rotate_left
  · intro W hW; have hW := HS.out W hW; go_simp; try with_reducible rfl
  simp only [put_list, List.set]
  refine Drawn.take 3 (some 10) (v := ?_) rfl rfl (by kernel_rfl) (by kernel_rfl) (by kernel_rfl) (by kernel_rfl) (by kernel_rfl) rfl (fun _ _ _ h => h) (Or.inl ⟨rfl, ?_⟩) S0 ?_
  rotate_left
  · intro W hW; have hW := HS.out W hW; go_simp; try with_reducible rfl
  simp only [put_list, List.set]
  refine Drawn.take 4 (some 11) (v := ?_) rfl rfl (by kernel_rfl) (by kernel_rfl) (by kernel_rfl) (by kernel_rfl) (by kernel_rfl) rfl (fun _ _ _ h => h) (Or.inl ⟨rfl, ?_⟩) S0 ?_
  rotate_left
  · intro W hW; have hW := HS.out W hW; go_simp; try with_reducible rfl
  simp only [put_list, List.set]
  refine Drawn.take 5 (some 12) (v := ?_) rfl rfl (by kernel_rfl) (by kernel_rfl) (by kernel_rfl) (by kernel_rfl) (by kernel_rfl) rfl (fun _ _ _ h => h) (Or.inl ⟨rfl, ?_⟩) S0 ?_
  rotate_left
  · intro W hW; have hW := HS.out W hW; go_simp; try with_reducible rfl
  simp only [put_list, List.set]
  refine Drawn.take 6 (some 13) (v := ?_) rfl rfl (by kernel_rfl) (by kernel_rfl) (by kernel_rfl) (by kernel_rfl) (by kernel_rfl) rfl (fun _ _ _ h => h) (Or.inl ⟨rfl, ?_⟩) S0 ?_
  rotate_left
  · intro W hW; have hW := HS.out W hW; go_simp; try with_reducible rfl
  simp only [put_list, List.set]
  refine Drawn.only 7 (by kernel_rfl) rfl rfl (fun K hK => ?_)
  go_simp
  refine C.out.mono ?_
  rintro e V2 ⟨rfl, h9⟩
  have H9 := Lib.hid h9
  have S2 := And.intro (cell_of ((h9.block b (lt_of HM1.out.ob.it.cell)).trans HM1.out.ob.it.cell) 0) ((h9.block _ (lt_of S0.2)).trans S0.2)
  refine hK _ _ (fun _ _ => S2) ?_
  clear hK K h9 C S0
  try simp only [put_list, List.set]
  refine Drawn.only 8 (by kernel_rfl) rfl rfl (fun K hK => ?_)
  go_simp
  refine hK _ _ (fun _ _ => S2) ?_
  clear hK K HS S2
  try simp only [put_list, List.set]
  refine Drawn.done (by kernel_rfl) ?_ _
  go_wp2_with fail
  go_ret
  exact ⟨rfl, HB.trans (H9.out.mono HB.size)⟩
set_option maxRecDepth 100000 in
set_option maxHeartbeats 4000000 in
theorem slot_c (h : WAt x b L n W) (hn : n < 1000000000) {a : Nm} (ha : a.length ≤ big) {k : Wq} (hk : k.Ok) :
    Calls Try.prog 23 #[ptr b, .string (str a), .agg (wqC k)] W fun e W' => e = .returned (.bool (hasBy plOf L ⟨a, false, k⟩).isSome) ∧ Step x b (noteBy plOf (.slot a k) ⟨a, false, k⟩ L) (n + 1) W W' := by
  have M := (An.start h.ob).alloc (.cells (wqC k) 46 (0, 0))
  have HM := Lib.hid M
  have HK := Lib.hid (And.intro ha (And.intro hk hn))
  clear M h hn ha hk
  unfold ptr wqC at *
  go_enter Try.func23, Try.ntmps23
  go_wp2_with fail
  have M1 := HM.out.call (Below.refl _ (W.alloc (.cells #[.int .u64 (k.a : Nat), .int .u64 (k.b : Nat), .int .u64 (k.c : Nat), .int .u64 (k.d : Nat)] 46 (0, 0)))).drew
  have S0 := And.intro (cell_of M1.ob.it.cell 0) (M1.at (q := W.heap.size) (List.mem_cons_self ..))
  have HS := Lib.hid (fun (V : World) (hV : V.cell? ⟨b, 0, none⟩ = some (.map (some x.mw)) ∧ V.heap[W.heap.size]? = some (.cells #[.int .u64 (k.a : Nat), .int .u64 (k.b : Nat), .int .u64 (k.c : Nat), .int .u64 (k.d : Nat)] 46 (0, 0))) => (show V.cell? ⟨b, 0, none⟩ = some (.map (some x.mw)) ∧ V.cell? ⟨W.heap.size, 0, none⟩ = some (.int .u64 (k.a : Nat)) ∧ V.cell? ⟨W.heap.size, 1, none⟩ = some (.int .u64 (k.b : Nat)) ∧ V.cell? ⟨W.heap.size, 2, none⟩ = some (.int .u64 (k.c : Nat)) ∧ V.cell? ⟨W.heap.size, 3, none⟩ = some (.int .u64 (k.d : Nat)) from ⟨hV.1, cell_of hV.2 0, cell_of hV.2 1, cell_of hV.2 2, cell_of hV.2 3⟩))
  have HM1 := Lib.hid M1
  have HB : Below W.heap.size W (W.alloc (.cells #[.int .u64 (k.a : Nat), .int .u64 (k.b : Nat), .int .u64 (k.c : Nat), .int .u64 (k.d : Nat)] 46 (0, 0))).drew := ((Below.refl _ W).alloc (Nat.le_refl _) _).drew
  clear M1 HM
  refine Drawn.start (fun V => V.cell? ⟨b, 0, none⟩ = some (.map (some x.mw)) ∧ V.heap[W.heap.size]? = some (.cells #[.int .u64 (k.a : Nat), .int .u64 (k.b : Nat), .int .u64 (k.c : Nat), .int .u64 (k.d : Nat)] 46 (0, 0))) (fun _ => false) (by kernel_rfl) ?_
  have C := Lib.hid (touchP_c HM1.out.ob.it HK.out.2.2 (p := ⟨a, false, k⟩) ⟨HK.out.1, HK.out.2.1⟩ (c := .slot a k) rfl)
  unfold plC at C
  simp only at C
  generalize World.drew _ = V1 at HM1 S0 C HB ⊢
  refine Drawn.take 0 (some 7) (v := ?_) rfl rfl (by kernel_rfl) (by kernel_rfl) (by kernel_rfl) (by kernel_rfl) (by kernel_rfl) rfl (fun _ _ _ h => h) (Or.inl ⟨rfl, ?_⟩) S0 ?_
  rotate_left
  · intro W hW; have hW := HS.out W hW; go_simp; try with_reducible rfl
  simp only [put_list, List.set]
  refine Drawn.take 1 (some 8) (v := ?_) rfl rfl (by kernel_rfl) (by kernel_rfl) (by kernel_rfl) (by kernel_rfl) (by kernel_rfl) rfl (fun _ _ _ h => h) (Or.inl ⟨rfl, ?_⟩) S0 ?_
  rotate_left
  · intro W hW; have hW := HS.out W hW; go_simp; try with_reducible rfl
  simp only [put_list, List.set]
  refine Drawn.take 2 (some 9) (v := ?_) rfl rfl (by kernel_rfl) (by kernel_rfl) (by kernel_rfl) (by kernel_rfl) (by kernel_rfl) rfl (fun _ _ _ h => h) (Or.inl ⟨rfl, ?_⟩) S0 ?_
  rotate_left
  · intro W hW; have hW := HS.out W hW; go_simp; try with_reducible rfl
  simp only [put_list, List.set]
  refine Drawn.take 3 (some 10) (v := ?_) rfl rfl (by kernel_rfl) (by kernel_rfl) (by kernel_rfl) (by kernel_rfl) (by kernel_rfl) rfl (fun _ _ _ h => h) (Or.inl ⟨rfl, ?_⟩) S0 ?_
  rotate_left
  · intro W hW; have hW := HS.out W hW; go_simp; try with_reducible rfl
  simp only [put_list, List.set]
  refine Drawn.take 4 (some 11) (v := ?_) rfl rfl (by kernel_rfl) (by kernel_rfl) (by kernel_rfl) (by kernel_rfl) (by kernel_rfl) rfl (fun _ _ _ h => h) (Or.inl ⟨rfl, ?_⟩) S0 ?_
  rotate_left
  · intro W hW; have hW := HS.out W hW; go_simp; try with_reducible rfl
  simp only [put_list, List.set]
  refine Drawn.take 5 (some 12) (v := ?_) rfl rfl (by kernel_rfl) (by kernel_rfl) (by kernel_rfl) (by kernel_rfl) (by kernel_rfl) rfl (fun _ _ _ h => h) (Or.inl ⟨rfl, ?_⟩) S0 ?_
  rotate_left
  · intro W hW; have hW := HS.out W hW; go_simp; try with_reducible rfl
  simp only [put_list, List.set]
  refine Drawn.take 6 (some 13) (v := ?_) rfl rfl (by kernel_rfl) (by kernel_rfl) (by kernel_rfl) (by kernel_rfl) (by kernel_rfl) rfl (fun _ _ _ h => h) (Or.inl ⟨rfl, ?_⟩) S0 ?_
  rotate_left
  · intro W hW; have hW := HS.out W hW; go_simp; try with_reducible rfl
  simp only [put_list, List.set]
  refine Drawn.take 7 (some 14) (v := ?_) rfl rfl (by kernel_rfl) (by kernel_rfl) (by kernel_rfl) (by kernel_rfl) (by kernel_rfl) rfl (fun _ _ _ h => h) (Or.inl ⟨rfl, ?_⟩) S0 ?_
  rotate_left
  · intro W hW; have hW := HS.out W hW; go_simp; try with_reducible rfl
  simp only [put_list, List.set]
  refine Drawn.only 8 (by kernel_rfl) rfl rfl (fun K hK => ?_)
  go_simp
  refine C.out.mono ?_
  rintro e V2 ⟨rfl, h9⟩
  have H9 := Lib.hid h9
  obtain ⟨x', h1, h2, h3⟩ := H9.out
  have S2 := And.intro (show V2.cell? ⟨b, 0, none⟩ = some (.map (some x.mw)) from by rw [cell_of h1.cell 0]; simp [setC, h3]) ((h2.block _ (lt_of S0.2) (HM1.out.box (W.heap.size, _) (List.mem_cons_self ..)).2.2).trans S0.2)
  clear h1 h2 h3 x'
  refine hK _ _ (fun _ _ => S2) ?_
  clear hK K h9 C S0
  try simp only [put_list, List.set]
  refine Drawn.only 9 (by kernel_rfl) rfl rfl (fun K hK => ?_)
  go_simp
  refine hK _ _ (fun _ _ => S2) ?_
  clear hK K HS S2
  try simp only [put_list, List.set]
  refine Drawn.done (by kernel_rfl) ?_ _
  go_wp2_with fail
  go_ret
  obtain ⟨x', h1, h2, h3⟩ := H9.out
  exact ⟨rfl, x', h1, HM1.out.chg.trans h2, h3⟩
end
end Go.Proofs.Ytginibphicmmmaa
