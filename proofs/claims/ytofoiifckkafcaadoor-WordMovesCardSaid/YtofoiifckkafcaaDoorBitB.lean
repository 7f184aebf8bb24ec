/- The contracts of word.Or and Xor. -/
import Derived.Test.YtofoiifckkafcaaDoorBitA
namespace Go.Proofs.YtofoiifckkafcaaDoor
open Go.RowKit
attribute [local go_sem ↓] Go.wp_at_zero Go.wp_at_succ

set_option maxRecDepth 100000 in
set_option maxHeartbeats 400000 in
theorem Or1_any (k : Nat) (hk : k < 4) (bx by' x0 x1 x2 x3 y0 y1 y2 y3 : Nat) (w : World)
    (hx : w.heap[bx]? = some (.cells (four x0 x1 x2 x3) 41 (0, 0))) (hy : w.heap[by']? = some (.cells (four y0 y1 y2 y3) 41 (0, 0)))
    (hx1 : ∀ k, nth x0 x1 x2 x3 k < M64) (hy1 : ∀ k, nth y0 y1 y2 y3 k < M64) :
    Calls Tryd.prog 62 #[.int .i64 k, .pointer (some ⟨bx, 0, none⟩), .pointer (some ⟨by', 0, none⟩)] w fun e w' =>
      e = .returned (.int .u64 ((nth x0 x1 x2 x3 k ||| nth y0 y1 y2 y3 k : Nat) : Int)) ∧ Below w.heap.size w w' := by
  have cx := (cell_of hx k).trans (four_at _ _ _ _ k hk)
  have cy := (cell_of hy k).trans (four_at _ _ _ _ k hk)
  have hn := or64 _ _ (hx1 k) (hy1 k)
  clear hx hx1 hy hy1
  generalize nth x0 x1 x2 x3 k = x at *
  generalize nth y0 y1 y2 y3 k = y at *
  generalize x ||| y = z at *
  go_enter Tryd.func62, Tryd.ntmps62
  go_wp2_with fail
  go_region
  go_wp2
  go_ret
  exact ⟨rfl, (Below.refl _ _).drew⟩

set_option maxRecDepth 100000 in
set_option maxHeartbeats 4000000 in
theorem Or_any {x y b3 b2 b1 b0 a3 a2 a1 a0 : Nat} (hx : Dig x a0 a1 a2 a3) (hy : Dig y b0 b1 b2 b3) (w : World) :
    Calls Tryd.prog 28 #[.agg #[.int .u64 a3, .int .u64 a2, .int .u64 a1, .int .u64 a0], .agg #[.int .u64 b3, .int .u64 b2, .int .u64 b1, .int .u64 b0]] w
      fun e w' => e = .returned (.agg #[.int .u64 (a3 ||| b3 : Nat), .int .u64 (a2 ||| b2 : Nat), .int .u64 (a1 ||| b1 : Nat), .int .u64 (a0 ||| b0 : Nat)]) ∧ Below w.heap.size w w' := by
  have H := ((((Fx.start w).new #[.int .u64 a3, .int .u64 a2, .int .u64 a1, .int .u64 a0] 24).new #[.int .u64 b3, .int .u64 b2, .int .u64 b1, .int .u64 b0] 24).new #[.int .u64 0, .int .u64 0, .int .u64 0, .int .u64 0] 24).1
  have HX := Lib.hid hx.nth; have HY := Lib.hid hy.nth; clear hx hy
  go_enter Tryd.func28, Tryd.ntmps28
  go_wp2_with fail
  have HS := Lib.hid H.read3
  refine wp_cut (fun a' W => ∃ b5 b6 : Nat, a' = ⟨#[.agg #[.int .u64 a3, .int .u64 a2, .int .u64 a1, .int .u64 a0], .agg #[.int .u64 b3, .int .u64 b2, .int .u64 b1, .int .u64 b0],
      .pointer (some ⟨w.heap.size, 0, none⟩), .pointer (some ⟨w.heap.size + 1, 0, none⟩), .pointer (some ⟨w.heap.size + 1 + 1, 0, none⟩), .pointer (some ⟨b5, 0, none⟩), .pointer (some ⟨b6, 0, none⟩),
      .agg #[.int .u64 a3, .int .u64 a2, .int .u64 a1, .int .u64 a0], .agg #[.int .u64 a0, .int .u64 a1, .int .u64 a2, .int .u64 a3],
      .agg #[.int .u64 b3, .int .u64 b2, .int .u64 b1, .int .u64 b0], .agg #[.int .u64 b0, .int .u64 b1, .int .u64 b2, .int .u64 b3], undef, undef, undef], []⟩ ∧
      Fr w w.heap.size (w.heap.size + 1 + 1 + 1) [(w.heap.size + 1 + 1, #[.int .u64 0, .int .u64 0, .int .u64 0, .int .u64 0], 24), (w.heap.size + 1, #[.int .u64 b3, .int .u64 b2, .int .u64 b1, .int .u64 b0], 24), (w.heap.size, #[.int .u64 a3, .int .u64 a2, .int .u64 a1, .int .u64 a0], 24)] W ∧
      W.heap[b5]? = some (.cells #[.int .u64 a0, .int .u64 a1, .int .u64 a2, .int .u64 a3] 41 (0, 0)) ∧ W.heap[b6]? = some (.cells #[.int .u64 b0, .int .u64 b1, .int .u64 b2, .int .u64 b3] 41 (0, 0))) ?rest ?tree
  case rest =>
    rintro a' W ⟨b5, b6, rfl, F, e5, e6⟩
    clear H HS
    have E5 := Lib.hid e5; have E6 := Lib.hid e6; clear e5 e6
    go_wp2_with fail
    refine (up_pure 62 _ (fun k => nth a0 a1 a2 a3 k ||| nth b0 b1 b2 b3 k) [(b5, four a0 a1 a2 a3, 41), (b6, four b0 b1 b2 b3, 41)] _ ?_ (fun i w => by kernel_rfl) ?_).mono ?_
    · intro x hx
      simp only [List.mem_cons, List.not_mem_nil, or_false] at hx
      rcases hx with rfl | rfl
      · exact ⟨lt_of E5.out, E5.out⟩
      · exact ⟨lt_of E6.out, E6.out⟩
    · intro k wr hk hL
      exact Or1_any k hk _ _ _ _ _ _ _ _ _ _ wr (hL _ (.head _)) (hL _ (.tail _ (.head _))) HX.out HY.out
    rintro e w2 ⟨rfl, hb2⟩
    replace F := F.call hb2
    clear hb2
    go_wp2_with fail
    refine (join_any _ _ _ _ _).mono ?_
    rintro e w4 ⟨rfl, hb4⟩
    replace F := F.call hb4
    have k := F.know (_, _, _) List.mem_cons_self
    have hC := cells4 k.2
    obtain ⟨⟨r0, r1, r2, r3⟩, g0, g1, g2, g3⟩ := hC
    have K := Lib.hid k; clear k hb4
    go_wp2_with fail
    exact bodyPost_ret (results_cell_row Tryd.results28 _ _ _ _ _ _ _ rfl (heap_set4 K.out.2 _ _ _ _) Tryd.underlying24 rfl (by kernel_rfl)) rfl
      ⟨rfl, below_set4 F.below (by omega) _ _ _ _⟩
  intro J K' hJ hK'
  have H0 := H.drew
  refine Drawn.startEx (fun i => i == 7) H (by kernel_rfl) ?_
  clear H
  refine Drawn.take 0 (some 7) (v := ?_) rfl rfl (by kernel_rfl) (by kernel_rfl) (by kernel_rfl) (by kernel_rfl) (by kernel_rfl) rfl (fun _ _ _ h => h) (Or.inl ⟨rfl, ?_⟩) H0 ?_
  rotate_left
  · intro W hW; have hW := HS.out W hW; go_simp; try with_reducible rfl
  simp only [put_list, List.set]
  refine Drawn.take 2 (some 9) (v := ?_) rfl rfl (by kernel_rfl) (by kernel_rfl) (by kernel_rfl) (by kernel_rfl) (by kernel_rfl) rfl (fun _ _ _ h => h) (Or.inl ⟨rfl, ?_⟩) H0 ?_
  rotate_left
  · intro W hW; have hW := HS.out W hW; go_simp; try with_reducible rfl
  simp only [put_list, List.set]
  have H1 := H0
  clear H0
  generalize World.drew _ = W0 at H1 ⊢
  refine Drawn.among [1, 4, 5] (by kernel_rfl) (by decide) ?_
  intro i hi
  simp only [List.mem_cons, List.not_mem_nil, or_false] at hi
  rcases hi with rfl | rfl | rfl
  · refine ⟨_, rfl, rfl, fun K hK => ?_⟩
    go_simp
    refine (split_any _ _ _ _ _).mono ?_
    rintro e w1 ⟨rfl, hb⟩
    refine hK _ _ (fun _ _ => H1.call hb) ?_
    replace H1 := H1.call hb
    clear hK K hb
    refine Drawn.among [3, 4, 5] (by kernel_rfl) (by decide) ?_
    intro i hi
    simp only [List.mem_cons, List.not_mem_nil, or_false] at hi
    rcases hi with rfl | rfl | rfl
    · refine ⟨_, rfl, rfl, fun K hK => ?_⟩
      go_simp
      refine (split_any _ _ _ _ _).mono ?_
      rintro e w2 ⟨rfl, hb⟩
      refine hK _ _ (fun _ _ => H1.call hb) ?_
      replace H1 := H1.call hb
      clear hK K hb
      refine Drawn.among [4, 5] (by kernel_rfl) (by decide) ?_
      intro i hi
      simp only [List.mem_cons, List.not_mem_nil, or_false] at hi
      rcases hi with rfl | rfl
      · refine ⟨_, rfl, rfl, fun K hK => ?_⟩
        go_simp
        refine hK _ _ (fun _ _ => H1.alloc _) ?_
        clear hK K
        have h5 : New4 (w.heap.size + 1 + 1 + 1) (.int .u64 0) (.int .u64 0) (.int .u64 0) (.int .u64 0) 41 _ _ := New4.here _ H1.size
        replace H1 := H1.alloc (.cells #[.int .u64 0, .int .u64 0, .int .u64 0, .int .u64 0] 41)
        generalize World.alloc _ _ = W5 at H1 h5 ⊢
        refine Drawn.only 5 (by kernel_rfl) rfl rfl (fun K hK => ?_)
        go_simp
        refine hK _ _ (fun _ _ => H1.alloc _) ?_
        clear hK K
        have h6 : New4 (w.heap.size + 1 + 1 + 1) (.int .u64 0) (.int .u64 0) (.int .u64 0) (.int .u64 0) 41 _ _ := New4.here _ H1.size
        have hne := h5.2.1
        replace h5 := h5.past (.cells #[.int .u64 0, .int .u64 0, .int .u64 0, .int .u64 0] 41)
        replace H1 := H1.alloc (.cells #[.int .u64 0, .int .u64 0, .int .u64 0, .int .u64 0] 41)
        generalize World.alloc _ _ = W6 at H1 h5 h6 ⊢
        obtain ⟨⟨r0, r1, r2, r3⟩, g0, g1, g2, g3⟩ := h5.cells
        refine Drawn.only 6 (by kernel_rfl) rfl rfl (fun K hK => ?_)
        go_simp
        refine hK _ _ (fun _ _ => H1.set4 h5.ge _ _ _ _) ?_
        clear hK K r0 r1 r2 r3 g0 g1 g2 g3
        have k5 := heap_set4 h5.1 (.int .u64 a0) (.int .u64 a1) (.int .u64 a2) (.int .u64 a3)
        replace h6 := h6.other h5 (by omega) (.int .u64 a0) (.int .u64 a1) (.int .u64 a2) (.int .u64 a3)
        replace H1 := H1.set4 h5.ge (.int .u64 a0) (.int .u64 a1) (.int .u64 a2) (.int .u64 a3)
        obtain ⟨⟨r0, r1, r2, r3⟩, g0, g1, g2, g3⟩ := h6.cells
        refine Drawn.only 7 (by kernel_rfl) rfl rfl (fun K hK => ?_)
        go_simp
        refine hK _ _ (fun h => by simp at h) ?_
        exact Drawn.done (by kernel_rfl) (hK' _ _ (Met.intro (hJ _ _ ⟨_, _, rfl, H1.set4 h6.ge _ _ _ _, (heap_far (by omega) _ _ _ _).trans k5, heap_set4 h6.1 _ _ _ _⟩))) _
      · refine ⟨_, rfl, rfl, fun K hK => ?_⟩
        go_simp
        refine hK _ _ (fun _ _ => H1.alloc _) ?_
        clear hK K
        have h6 : New4 (w.heap.size + 1 + 1 + 1) (.int .u64 0) (.int .u64 0) (.int .u64 0) (.int .u64 0) 41 _ _ := New4.here _ H1.size
        replace H1 := H1.alloc (.cells #[.int .u64 0, .int .u64 0, .int .u64 0, .int .u64 0] 41)
        generalize World.alloc _ _ = W6 at H1 h6 ⊢
        refine Drawn.only 4 (by kernel_rfl) rfl rfl (fun K hK => ?_)
        go_simp
        refine hK _ _ (fun _ _ => H1.alloc _) ?_
        clear hK K
        have h5 : New4 (w.heap.size + 1 + 1 + 1) (.int .u64 0) (.int .u64 0) (.int .u64 0) (.int .u64 0) 41 _ _ := New4.here _ H1.size
        have hne := h6.2.1
        replace h6 := h6.past (.cells #[.int .u64 0, .int .u64 0, .int .u64 0, .int .u64 0] 41)
        replace H1 := H1.alloc (.cells #[.int .u64 0, .int .u64 0, .int .u64 0, .int .u64 0] 41)
        generalize World.alloc _ _ = W5 at H1 h5 h6 ⊢
        obtain ⟨⟨r0, r1, r2, r3⟩, g0, g1, g2, g3⟩ := h5.cells
        refine Drawn.only 6 (by kernel_rfl) rfl rfl (fun K hK => ?_)
        go_simp
        refine hK _ _ (fun _ _ => H1.set4 h5.ge _ _ _ _) ?_
        clear hK K r0 r1 r2 r3 g0 g1 g2 g3
        have k5 := heap_set4 h5.1 (.int .u64 a0) (.int .u64 a1) (.int .u64 a2) (.int .u64 a3)
        replace h6 := h6.other h5 (by omega) (.int .u64 a0) (.int .u64 a1) (.int .u64 a2) (.int .u64 a3)
        replace H1 := H1.set4 h5.ge (.int .u64 a0) (.int .u64 a1) (.int .u64 a2) (.int .u64 a3)
        obtain ⟨⟨r0, r1, r2, r3⟩, g0, g1, g2, g3⟩ := h6.cells
        refine Drawn.only 7 (by kernel_rfl) rfl rfl (fun K hK => ?_)
        go_simp
        refine hK _ _ (fun h => by simp at h) ?_
        exact Drawn.done (by kernel_rfl) (hK' _ _ (Met.intro (hJ _ _ ⟨_, _, rfl, H1.set4 h6.ge _ _ _ _, (heap_far (by omega) _ _ _ _).trans k5, heap_set4 h6.1 _ _ _ _⟩))) _
    · refine ⟨_, rfl, rfl, fun K hK => ?_⟩
      go_simp
      refine hK _ _ (fun _ _ => H1.alloc _) ?_
      clear hK K
      have h5 : New4 (w.heap.size + 1 + 1 + 1) (.int .u64 0) (.int .u64 0) (.int .u64 0) (.int .u64 0) 41 _ _ := New4.here _ H1.size
      replace H1 := H1.alloc (.cells #[.int .u64 0, .int .u64 0, .int .u64 0, .int .u64 0] 41)
      generalize World.alloc _ _ = W5 at H1 h5 ⊢
      refine Drawn.among [3, 5] (by kernel_rfl) (by decide) ?_
      intro i hi
      simp only [List.mem_cons, List.not_mem_nil, or_false] at hi
      rcases hi with rfl | rfl
      · refine ⟨_, rfl, rfl, fun K hK => ?_⟩
        go_simp
        refine (split_any _ _ _ _ _).mono ?_
        rintro e w2 ⟨rfl, hb⟩
        refine hK _ _ (fun _ _ => H1.call hb) ?_
        replace h5 := carry4 hb h5
        replace H1 := H1.call hb
        clear hK K hb
        refine Drawn.only 5 (by kernel_rfl) rfl rfl (fun K hK => ?_)
        go_simp
        refine hK _ _ (fun _ _ => H1.alloc _) ?_
        clear hK K
        have h6 : New4 (w.heap.size + 1 + 1 + 1) (.int .u64 0) (.int .u64 0) (.int .u64 0) (.int .u64 0) 41 _ _ := New4.here _ H1.size
        have hne := h5.2.1
        replace h5 := h5.past (.cells #[.int .u64 0, .int .u64 0, .int .u64 0, .int .u64 0] 41)
        replace H1 := H1.alloc (.cells #[.int .u64 0, .int .u64 0, .int .u64 0, .int .u64 0] 41)
        generalize World.alloc _ _ = W6 at H1 h5 h6 ⊢
        obtain ⟨⟨r0, r1, r2, r3⟩, g0, g1, g2, g3⟩ := h5.cells
        refine Drawn.only 6 (by kernel_rfl) rfl rfl (fun K hK => ?_)
        go_simp
        refine hK _ _ (fun _ _ => H1.set4 h5.ge _ _ _ _) ?_
        clear hK K r0 r1 r2 r3 g0 g1 g2 g3
        have k5 := heap_set4 h5.1 (.int .u64 a0) (.int .u64 a1) (.int .u64 a2) (.int .u64 a3)
        replace h6 := h6.other h5 (by omega) (.int .u64 a0) (.int .u64 a1) (.int .u64 a2) (.int .u64 a3)
        replace H1 := H1.set4 h5.ge (.int .u64 a0) (.int .u64 a1) (.int .u64 a2) (.int .u64 a3)
        obtain ⟨⟨r0, r1, r2, r3⟩, g0, g1, g2, g3⟩ := h6.cells
        refine Drawn.only 7 (by kernel_rfl) rfl rfl (fun K hK => ?_)
        go_simp
        refine hK _ _ (fun h => by simp at h) ?_
        exact Drawn.done (by kernel_rfl) (hK' _ _ (Met.intro (hJ _ _ ⟨_, _, rfl, H1.set4 h6.ge _ _ _ _, (heap_far (by omega) _ _ _ _).trans k5, heap_set4 h6.1 _ _ _ _⟩))) _
      · refine ⟨_, rfl, rfl, fun K hK => ?_⟩
        go_simp
        refine hK _ _ (fun _ _ => H1.alloc _) ?_
        clear hK K
        have h6 : New4 (w.heap.size + 1 + 1 + 1) (.int .u64 0) (.int .u64 0) (.int .u64 0) (.int .u64 0) 41 _ _ := New4.here _ H1.size
        have hne := h5.2.1
        replace h5 := h5.past (.cells #[.int .u64 0, .int .u64 0, .int .u64 0, .int .u64 0] 41)
        replace H1 := H1.alloc (.cells #[.int .u64 0, .int .u64 0, .int .u64 0, .int .u64 0] 41)
        generalize World.alloc _ _ = W6 at H1 h5 h6 ⊢
        refine Drawn.only 3 (by kernel_rfl) rfl rfl (fun K hK => ?_)
        go_simp
        refine (split_any _ _ _ _ _).mono ?_
        rintro e w2 ⟨rfl, hb⟩
        refine hK _ _ (fun _ _ => H1.call hb) ?_
        replace h5 := carry4 hb h5
        replace h6 := carry4 hb h6
        replace H1 := H1.call hb
        clear hK K hb
        obtain ⟨⟨r0, r1, r2, r3⟩, g0, g1, g2, g3⟩ := h5.cells
        refine Drawn.only 6 (by kernel_rfl) rfl rfl (fun K hK => ?_)
        go_simp
        refine hK _ _ (fun _ _ => H1.set4 h5.ge _ _ _ _) ?_
        clear hK K r0 r1 r2 r3 g0 g1 g2 g3
        have k5 := heap_set4 h5.1 (.int .u64 a0) (.int .u64 a1) (.int .u64 a2) (.int .u64 a3)
        replace h6 := h6.other h5 (by omega) (.int .u64 a0) (.int .u64 a1) (.int .u64 a2) (.int .u64 a3)
        replace H1 := H1.set4 h5.ge (.int .u64 a0) (.int .u64 a1) (.int .u64 a2) (.int .u64 a3)
        obtain ⟨⟨r0, r1, r2, r3⟩, g0, g1, g2, g3⟩ := h6.cells
        refine Drawn.only 7 (by kernel_rfl) rfl rfl (fun K hK => ?_)
        go_simp
        refine hK _ _ (fun h => by simp at h) ?_
        exact Drawn.done (by kernel_rfl) (hK' _ _ (Met.intro (hJ _ _ ⟨_, _, rfl, H1.set4 h6.ge _ _ _ _, (heap_far (by omega) _ _ _ _).trans k5, heap_set4 h6.1 _ _ _ _⟩))) _
    · refine ⟨_, rfl, rfl, fun K hK => ?_⟩
      go_simp
      refine hK _ _ (fun _ _ => H1.alloc _) ?_
      clear hK K
      have h6 : New4 (w.heap.size + 1 + 1 + 1) (.int .u64 0) (.int .u64 0) (.int .u64 0) (.int .u64 0) 41 _ _ := New4.here _ H1.size
      replace H1 := H1.alloc (.cells #[.int .u64 0, .int .u64 0, .int .u64 0, .int .u64 0] 41)
      generalize World.alloc _ _ = W6 at H1 h6 ⊢
      refine Drawn.among [3, 4] (by kernel_rfl) (by decide) ?_
      intro i hi
      simp only [List.mem_cons, List.not_mem_nil, or_false] at hi
      rcases hi with rfl | rfl
      · refine ⟨_, rfl, rfl, fun K hK => ?_⟩
        go_simp
        refine (split_any _ _ _ _ _).mono ?_
        rintro e w2 ⟨rfl, hb⟩
        refine hK _ _ (fun _ _ => H1.call hb) ?_
        replace h6 := carry4 hb h6
        replace H1 := H1.call hb
        clear hK K hb
        refine Drawn.only 4 (by kernel_rfl) rfl rfl (fun K hK => ?_)
        go_simp
        refine hK _ _ (fun _ _ => H1.alloc _) ?_
        clear hK K
        have h5 : New4 (w.heap.size + 1 + 1 + 1) (.int .u64 0) (.int .u64 0) (.int .u64 0) (.int .u64 0) 41 _ _ := New4.here _ H1.size
        have hne := h6.2.1
        replace h6 := h6.past (.cells #[.int .u64 0, .int .u64 0, .int .u64 0, .int .u64 0] 41)
        replace H1 := H1.alloc (.cells #[.int .u64 0, .int .u64 0, .int .u64 0, .int .u64 0] 41)
        generalize World.alloc _ _ = W5 at H1 h5 h6 ⊢
        obtain ⟨⟨r0, r1, r2, r3⟩, g0, g1, g2, g3⟩ := h5.cells
        refine Drawn.only 6 (by kernel_rfl) rfl rfl (fun K hK => ?_)
        go_simp
        refine hK _ _ (fun _ _ => H1.set4 h5.ge _ _ _ _) ?_
        clear hK K r0 r1 r2 r3 g0 g1 g2 g3
        have k5 := heap_set4 h5.1 (.int .u64 a0) (.int .u64 a1) (.int .u64 a2) (.int .u64 a3)
        replace h6 := h6.other h5 (by omega) (.int .u64 a0) (.int .u64 a1) (.int .u64 a2) (.int .u64 a3)
        replace H1 := H1.set4 h5.ge (.int .u64 a0) (.int .u64 a1) (.int .u64 a2) (.int .u64 a3)
        obtain ⟨⟨r0, r1, r2, r3⟩, g0, g1, g2, g3⟩ := h6.cells
        refine Drawn.only 7 (by kernel_rfl) rfl rfl (fun K hK => ?_)
        go_simp
        refine hK _ _ (fun h => by simp at h) ?_
        exact Drawn.done (by kernel_rfl) (hK' _ _ (Met.intro (hJ _ _ ⟨_, _, rfl, H1.set4 h6.ge _ _ _ _, (heap_far (by omega) _ _ _ _).trans k5, heap_set4 h6.1 _ _ _ _⟩))) _
      · refine ⟨_, rfl, rfl, fun K hK => ?_⟩
        go_simp
        refine hK _ _ (fun _ _ => H1.alloc _) ?_
        clear hK K
        have h5 : New4 (w.heap.size + 1 + 1 + 1) (.int .u64 0) (.int .u64 0) (.int .u64 0) (.int .u64 0) 41 _ _ := New4.here _ H1.size
        have hne := h6.2.1
        replace h6 := h6.past (.cells #[.int .u64 0, .int .u64 0, .int .u64 0, .int .u64 0] 41)
        replace H1 := H1.alloc (.cells #[.int .u64 0, .int .u64 0, .int .u64 0, .int .u64 0] 41)
        generalize World.alloc _ _ = W5 at H1 h5 h6 ⊢
        refine Drawn.only 3 (by kernel_rfl) rfl rfl (fun K hK => ?_)
        go_simp
        refine (split_any _ _ _ _ _).mono ?_
        rintro e w2 ⟨rfl, hb⟩
        refine hK _ _ (fun _ _ => H1.call hb) ?_
        replace h5 := carry4 hb h5
        replace h6 := carry4 hb h6
        replace H1 := H1.call hb
        clear hK K hb
        obtain ⟨⟨r0, r1, r2, r3⟩, g0, g1, g2, g3⟩ := h5.cells
        refine Drawn.only 6 (by kernel_rfl) rfl rfl (fun K hK => ?_)
        go_simp
        refine hK _ _ (fun _ _ => H1.set4 h5.ge _ _ _ _) ?_
        clear hK K r0 r1 r2 r3 g0 g1 g2 g3
        have k5 := heap_set4 h5.1 (.int .u64 a0) (.int .u64 a1) (.int .u64 a2) (.int .u64 a3)
        replace h6 := h6.other h5 (by omega) (.int .u64 a0) (.int .u64 a1) (.int .u64 a2) (.int .u64 a3)
        replace H1 := H1.set4 h5.ge (.int .u64 a0) (.int .u64 a1) (.int .u64 a2) (.int .u64 a3)
        obtain ⟨⟨r0, r1, r2, r3⟩, g0, g1, g2, g3⟩ := h6.cells
        refine Drawn.only 7 (by kernel_rfl) rfl rfl (fun K hK => ?_)
        go_simp
        refine hK _ _ (fun h => by simp at h) ?_
        exact Drawn.done (by kernel_rfl) (hK' _ _ (Met.intro (hJ _ _ ⟨_, _, rfl, H1.set4 h6.ge _ _ _ _, (heap_far (by omega) _ _ _ _).trans k5, heap_set4 h6.1 _ _ _ _⟩))) _
  · refine ⟨_, rfl, rfl, fun K hK => ?_⟩
    go_simp
    refine hK _ _ (fun _ _ => H1.alloc _) ?_
    clear hK K
    have h5 : New4 (w.heap.size + 1 + 1 + 1) (.int .u64 0) (.int .u64 0) (.int .u64 0) (.int .u64 0) 41 _ _ := New4.here _ H1.size
    replace H1 := H1.alloc (.cells #[.int .u64 0, .int .u64 0, .int .u64 0, .int .u64 0] 41)
    generalize World.alloc _ _ = W5 at H1 h5 ⊢
    refine Drawn.among [1, 5] (by kernel_rfl) (by decide) ?_
    intro i hi
    simp only [List.mem_cons, List.not_mem_nil, or_false] at hi
    rcases hi with rfl | rfl
    · refine ⟨_, rfl, rfl, fun K hK => ?_⟩
      go_simp
      refine (split_any _ _ _ _ _).mono ?_
      rintro e w1 ⟨rfl, hb⟩
      refine hK _ _ (fun _ _ => H1.call hb) ?_
      replace h5 := carry4 hb h5
      replace H1 := H1.call hb
      clear hK K hb
      refine Drawn.among [3, 5] (by kernel_rfl) (by decide) ?_
      intro i hi
      simp only [List.mem_cons, List.not_mem_nil, or_false] at hi
      rcases hi with rfl | rfl
      · refine ⟨_, rfl, rfl, fun K hK => ?_⟩
        go_simp
        refine (split_any _ _ _ _ _).mono ?_
        rintro e w2 ⟨rfl, hb⟩
        refine hK _ _ (fun _ _ => H1.call hb) ?_
        replace h5 := carry4 hb h5
        replace H1 := H1.call hb
        clear hK K hb
        refine Drawn.only 5 (by kernel_rfl) rfl rfl (fun K hK => ?_)
        go_simp
        refine hK _ _ (fun _ _ => H1.alloc _) ?_
        clear hK K
        have h6 : New4 (w.heap.size + 1 + 1 + 1) (.int .u64 0) (.int .u64 0) (.int .u64 0) (.int .u64 0) 41 _ _ := New4.here _ H1.size
        have hne := h5.2.1
        replace h5 := h5.past (.cells #[.int .u64 0, .int .u64 0, .int .u64 0, .int .u64 0] 41)
        replace H1 := H1.alloc (.cells #[.int .u64 0, .int .u64 0, .int .u64 0, .int .u64 0] 41)
        generalize World.alloc _ _ = W6 at H1 h5 h6 ⊢
        obtain ⟨⟨r0, r1, r2, r3⟩, g0, g1, g2, g3⟩ := h5.cells
        refine Drawn.only 6 (by kernel_rfl) rfl rfl (fun K hK => ?_)
        go_simp
        refine hK _ _ (fun _ _ => H1.set4 h5.ge _ _ _ _) ?_
        clear hK K r0 r1 r2 r3 g0 g1 g2 g3
        have k5 := heap_set4 h5.1 (.int .u64 a0) (.int .u64 a1) (.int .u64 a2) (.int .u64 a3)
        replace h6 := h6.other h5 (by omega) (.int .u64 a0) (.int .u64 a1) (.int .u64 a2) (.int .u64 a3)
        replace H1 := H1.set4 h5.ge (.int .u64 a0) (.int .u64 a1) (.int .u64 a2) (.int .u64 a3)
        obtain ⟨⟨r0, r1, r2, r3⟩, g0, g1, g2, g3⟩ := h6.cells
        refine Drawn.only 7 (by kernel_rfl) rfl rfl (fun K hK => ?_)
        go_simp
        refine hK _ _ (fun h => by simp at h) ?_
        exact Drawn.done (by kernel_rfl) (hK' _ _ (Met.intro (hJ _ _ ⟨_, _, rfl, H1.set4 h6.ge _ _ _ _, (heap_far (by omega) _ _ _ _).trans k5, heap_set4 h6.1 _ _ _ _⟩))) _
      · refine ⟨_, rfl, rfl, fun K hK => ?_⟩
        go_simp
        refine hK _ _ (fun _ _ => H1.alloc _) ?_
        clear hK K
        have h6 : New4 (w.heap.size + 1 + 1 + 1) (.int .u64 0) (.int .u64 0) (.int .u64 0) (.int .u64 0) 41 _ _ := New4.here _ H1.size
        have hne := h5.2.1
        replace h5 := h5.past (.cells #[.int .u64 0, .int .u64 0, .int .u64 0, .int .u64 0] 41)
        replace H1 := H1.alloc (.cells #[.int .u64 0, .int .u64 0, .int .u64 0, .int .u64 0] 41)
        generalize World.alloc _ _ = W6 at H1 h5 h6 ⊢
        refine Drawn.only 3 (by kernel_rfl) rfl rfl (fun K hK => ?_)
        go_simp
        refine (split_any _ _ _ _ _).mono ?_
        rintro e w2 ⟨rfl, hb⟩
        refine hK _ _ (fun _ _ => H1.call hb) ?_
        replace h5 := carry4 hb h5
        replace h6 := carry4 hb h6
        replace H1 := H1.call hb
        clear hK K hb
        obtain ⟨⟨r0, r1, r2, r3⟩, g0, g1, g2, g3⟩ := h5.cells
        refine Drawn.only 6 (by kernel_rfl) rfl rfl (fun K hK => ?_)
        go_simp
        refine hK _ _ (fun _ _ => H1.set4 h5.ge _ _ _ _) ?_
        clear hK K r0 r1 r2 r3 g0 g1 g2 g3
        have k5 := heap_set4 h5.1 (.int .u64 a0) (.int .u64 a1) (.int .u64 a2) (.int .u64 a3)
        replace h6 := h6.other h5 (by omega) (.int .u64 a0) (.int .u64 a1) (.int .u64 a2) (.int .u64 a3)
        replace H1 := H1.set4 h5.ge (.int .u64 a0) (.int .u64 a1) (.int .u64 a2) (.int .u64 a3)
        obtain ⟨⟨r0, r1, r2, r3⟩, g0, g1, g2, g3⟩ := h6.cells
        refine Drawn.only 7 (by kernel_rfl) rfl rfl (fun K hK => ?_)
        go_simp
        refine hK _ _ (fun h => by simp at h) ?_
        exact Drawn.done (by kernel_rfl) (hK' _ _ (Met.intro (hJ _ _ ⟨_, _, rfl, H1.set4 h6.ge _ _ _ _, (heap_far (by omega) _ _ _ _).trans k5, heap_set4 h6.1 _ _ _ _⟩))) _
    · refine ⟨_, rfl, rfl, fun K hK => ?_⟩
      go_simp
      refine hK _ _ (fun _ _ => H1.alloc _) ?_
      clear hK K
      have h6 : New4 (w.heap.size + 1 + 1 + 1) (.int .u64 0) (.int .u64 0) (.int .u64 0) (.int .u64 0) 41 _ _ := New4.here _ H1.size
      have hne := h5.2.1
      replace h5 := h5.past (.cells #[.int .u64 0, .int .u64 0, .int .u64 0, .int .u64 0] 41)
      replace H1 := H1.alloc (.cells #[.int .u64 0, .int .u64 0, .int .u64 0, .int .u64 0] 41)
      generalize World.alloc _ _ = W6 at H1 h5 h6 ⊢
      refine Drawn.only 1 (by kernel_rfl) rfl rfl (fun K hK => ?_)
      go_simp
      refine (split_any _ _ _ _ _).mono ?_
      rintro e w1 ⟨rfl, hb⟩
      refine hK _ _ (fun _ _ => H1.call hb) ?_
      replace h5 := carry4 hb h5
      replace h6 := carry4 hb h6
      replace H1 := H1.call hb
      clear hK K hb
      refine Drawn.only 3 (by kernel_rfl) rfl rfl (fun K hK => ?_)
      go_simp
      refine (split_any _ _ _ _ _).mono ?_
      rintro e w2 ⟨rfl, hb⟩
      refine hK _ _ (fun _ _ => H1.call hb) ?_
      replace h5 := carry4 hb h5
      replace h6 := carry4 hb h6
      replace H1 := H1.call hb
      clear hK K hb
      obtain ⟨⟨r0, r1, r2, r3⟩, g0, g1, g2, g3⟩ := h5.cells
      refine Drawn.only 6 (by kernel_rfl) rfl rfl (fun K hK => ?_)
      go_simp
      refine hK _ _ (fun _ _ => H1.set4 h5.ge _ _ _ _) ?_
      clear hK K r0 r1 r2 r3 g0 g1 g2 g3
      have k5 := heap_set4 h5.1 (.int .u64 a0) (.int .u64 a1) (.int .u64 a2) (.int .u64 a3)
      replace h6 := h6.other h5 (by omega) (.int .u64 a0) (.int .u64 a1) (.int .u64 a2) (.int .u64 a3)
      replace H1 := H1.set4 h5.ge (.int .u64 a0) (.int .u64 a1) (.int .u64 a2) (.int .u64 a3)
      obtain ⟨⟨r0, r1, r2, r3⟩, g0, g1, g2, g3⟩ := h6.cells
      refine Drawn.only 7 (by kernel_rfl) rfl rfl (fun K hK => ?_)
      go_simp
      refine hK _ _ (fun h => by simp at h) ?_
      exact Drawn.done (by kernel_rfl) (hK' _ _ (Met.intro (hJ _ _ ⟨_, _, rfl, H1.set4 h6.ge _ _ _ _, (heap_far (by omega) _ _ _ _).trans k5, heap_set4 h6.1 _ _ _ _⟩))) _
  · refine ⟨_, rfl, rfl, fun K hK => ?_⟩
    go_simp
    refine hK _ _ (fun _ _ => H1.alloc _) ?_
    clear hK K
    have h6 : New4 (w.heap.size + 1 + 1 + 1) (.int .u64 0) (.int .u64 0) (.int .u64 0) (.int .u64 0) 41 _ _ := New4.here _ H1.size
    replace H1 := H1.alloc (.cells #[.int .u64 0, .int .u64 0, .int .u64 0, .int .u64 0] 41)
    generalize World.alloc _ _ = W6 at H1 h6 ⊢
    refine Drawn.among [1, 4] (by kernel_rfl) (by decide) ?_
    intro i hi
    simp only [List.mem_cons, List.not_mem_nil, or_false] at hi
    rcases hi with rfl | rfl
    · refine ⟨_, rfl, rfl, fun K hK => ?_⟩
      go_simp
      refine (split_any _ _ _ _ _).mono ?_
      rintro e w1 ⟨rfl, hb⟩
      refine hK _ _ (fun _ _ => H1.call hb) ?_
      replace h6 := carry4 hb h6
      replace H1 := H1.call hb
      clear hK K hb
      refine Drawn.among [3, 4] (by kernel_rfl) (by decide) ?_
      intro i hi
      simp only [List.mem_cons, List.not_mem_nil, or_false] at hi
      rcases hi with rfl | rfl
      · refine ⟨_, rfl, rfl, fun K hK => ?_⟩
        go_simp
        refine (split_any _ _ _ _ _).mono ?_
        rintro e w2 ⟨rfl, hb⟩
        refine hK _ _ (fun _ _ => H1.call hb) ?_
        replace h6 := carry4 hb h6
        replace H1 := H1.call hb
        clear hK K hb
        refine Drawn.only 4 (by kernel_rfl) rfl rfl (fun K hK => ?_)
        go_simp
        refine hK _ _ (fun _ _ => H1.alloc _) ?_
        clear hK K
        have h5 : New4 (w.heap.size + 1 + 1 + 1) (.int .u64 0) (.int .u64 0) (.int .u64 0) (.int .u64 0) 41 _ _ := New4.here _ H1.size
        have hne := h6.2.1
        replace h6 := h6.past (.cells #[.int .u64 0, .int .u64 0, .int .u64 0, .int .u64 0] 41)
        replace H1 := H1.alloc (.cells #[.int .u64 0, .int .u64 0, .int .u64 0, .int .u64 0] 41)
        generalize World.alloc _ _ = W5 at H1 h5 h6 ⊢
        obtain ⟨⟨r0, r1, r2, r3⟩, g0, g1, g2, g3⟩ := h5.cells
        refine Drawn.only 6 (by kernel_rfl) rfl rfl (fun K hK => ?_)
        go_simp
        refine hK _ _ (fun _ _ => H1.set4 h5.ge _ _ _ _) ?_
        clear hK K r0 r1 r2 r3 g0 g1 g2 g3
        have k5 := heap_set4 h5.1 (.int .u64 a0) (.int .u64 a1) (.int .u64 a2) (.int .u64 a3)
        replace h6 := h6.other h5 (by omega) (.int .u64 a0) (.int .u64 a1) (.int .u64 a2) (.int .u64 a3)
        replace H1 := H1.set4 h5.ge (.int .u64 a0) (.int .u64 a1) (.int .u64 a2) (.int .u64 a3)
        obtain ⟨⟨r0, r1, r2, r3⟩, g0, g1, g2, g3⟩ := h6.cells
        refine Drawn.only 7 (by kernel_rfl) rfl rfl (fun K hK => ?_)
        go_simp
        refine hK _ _ (fun h => by simp at h) ?_
        exact Drawn.done (by kernel_rfl) (hK' _ _ (Met.intro (hJ _ _ ⟨_, _, rfl, H1.set4 h6.ge _ _ _ _, (heap_far (by omega) _ _ _ _).trans k5, heap_set4 h6.1 _ _ _ _⟩))) _
      · refine ⟨_, rfl, rfl, fun K hK => ?_⟩
        go_simp
        refine hK _ _ (fun _ _ => H1.alloc _) ?_
        clear hK K
        have h5 : New4 (w.heap.size + 1 + 1 + 1) (.int .u64 0) (.int .u64 0) (.int .u64 0) (.int .u64 0) 41 _ _ := New4.here _ H1.size
        have hne := h6.2.1
        replace h6 := h6.past (.cells #[.int .u64 0, .int .u64 0, .int .u64 0, .int .u64 0] 41)
        replace H1 := H1.alloc (.cells #[.int .u64 0, .int .u64 0, .int .u64 0, .int .u64 0] 41)
        generalize World.alloc _ _ = W5 at H1 h5 h6 ⊢
        refine Drawn.only 3 (by kernel_rfl) rfl rfl (fun K hK => ?_)
        go_simp
        refine (split_any _ _ _ _ _).mono ?_
        rintro e w2 ⟨rfl, hb⟩
        refine hK _ _ (fun _ _ => H1.call hb) ?_
        replace h5 := carry4 hb h5
        replace h6 := carry4 hb h6
        replace H1 := H1.call hb
        clear hK K hb
        obtain ⟨⟨r0, r1, r2, r3⟩, g0, g1, g2, g3⟩ := h5.cells
        refine Drawn.only 6 (by kernel_rfl) rfl rfl (fun K hK => ?_)
        go_simp
        refine hK _ _ (fun _ _ => H1.set4 h5.ge _ _ _ _) ?_
        clear hK K r0 r1 r2 r3 g0 g1 g2 g3
        have k5 := heap_set4 h5.1 (.int .u64 a0) (.int .u64 a1) (.int .u64 a2) (.int .u64 a3)
        replace h6 := h6.other h5 (by omega) (.int .u64 a0) (.int .u64 a1) (.int .u64 a2) (.int .u64 a3)
        replace H1 := H1.set4 h5.ge (.int .u64 a0) (.int .u64 a1) (.int .u64 a2) (.int .u64 a3)
        obtain ⟨⟨r0, r1, r2, r3⟩, g0, g1, g2, g3⟩ := h6.cells
        refine Drawn.only 7 (by kernel_rfl) rfl rfl (fun K hK => ?_)
        go_simp
        refine hK _ _ (fun h => by simp at h) ?_
        exact Drawn.done (by kernel_rfl) (hK' _ _ (Met.intro (hJ _ _ ⟨_, _, rfl, H1.set4 h6.ge _ _ _ _, (heap_far (by omega) _ _ _ _).trans k5, heap_set4 h6.1 _ _ _ _⟩))) _
    · refine ⟨_, rfl, rfl, fun K hK => ?_⟩
      go_simp
      refine hK _ _ (fun _ _ => H1.alloc _) ?_
      clear hK K
      have h5 : New4 (w.heap.size + 1 + 1 + 1) (.int .u64 0) (.int .u64 0) (.int .u64 0) (.int .u64 0) 41 _ _ := New4.here _ H1.size
      have hne := h6.2.1
      replace h6 := h6.past (.cells #[.int .u64 0, .int .u64 0, .int .u64 0, .int .u64 0] 41)
      replace H1 := H1.alloc (.cells #[.int .u64 0, .int .u64 0, .int .u64 0, .int .u64 0] 41)
      generalize World.alloc _ _ = W5 at H1 h5 h6 ⊢
      refine Drawn.only 1 (by kernel_rfl) rfl rfl (fun K hK => ?_)
      go_simp
      refine (split_any _ _ _ _ _).mono ?_
      rintro e w1 ⟨rfl, hb⟩
      refine hK _ _ (fun _ _ => H1.call hb) ?_
      replace h5 := carry4 hb h5
      replace h6 := carry4 hb h6
      replace H1 := H1.call hb
      clear hK K hb
      refine Drawn.only 3 (by kernel_rfl) rfl rfl (fun K hK => ?_)
      go_simp
      refine (split_any _ _ _ _ _).mono ?_
      rintro e w2 ⟨rfl, hb⟩
      refine hK _ _ (fun _ _ => H1.call hb) ?_
      replace h5 := carry4 hb h5
      replace h6 := carry4 hb h6
      replace H1 := H1.call hb
      clear hK K hb
      obtain ⟨⟨r0, r1, r2, r3⟩, g0, g1, g2, g3⟩ := h5.cells
      refine Drawn.only 6 (by kernel_rfl) rfl rfl (fun K hK => ?_)
      go_simp
      refine hK _ _ (fun _ _ => H1.set4 h5.ge _ _ _ _) ?_
      clear hK K r0 r1 r2 r3 g0 g1 g2 g3
      have k5 := heap_set4 h5.1 (.int .u64 a0) (.int .u64 a1) (.int .u64 a2) (.int .u64 a3)
      replace h6 := h6.other h5 (by omega) (.int .u64 a0) (.int .u64 a1) (.int .u64 a2) (.int .u64 a3)
      replace H1 := H1.set4 h5.ge (.int .u64 a0) (.int .u64 a1) (.int .u64 a2) (.int .u64 a3)
      obtain ⟨⟨r0, r1, r2, r3⟩, g0, g1, g2, g3⟩ := h6.cells
      refine Drawn.only 7 (by kernel_rfl) rfl rfl (fun K hK => ?_)
      go_simp
      refine hK _ _ (fun h => by simp at h) ?_
      exact Drawn.done (by kernel_rfl) (hK' _ _ (Met.intro (hJ _ _ ⟨_, _, rfl, H1.set4 h6.ge _ _ _ _, (heap_far (by omega) _ _ _ _).trans k5, heap_set4 h6.1 _ _ _ _⟩))) _

set_option maxRecDepth 100000 in
set_option maxHeartbeats 400000 in
theorem Xor1_any (k : Nat) (hk : k < 4) (bx by' x0 x1 x2 x3 y0 y1 y2 y3 : Nat) (w : World)
    (hx : w.heap[bx]? = some (.cells (four x0 x1 x2 x3) 41 (0, 0))) (hy : w.heap[by']? = some (.cells (four y0 y1 y2 y3) 41 (0, 0)))
    (hx1 : ∀ k, nth x0 x1 x2 x3 k < M64) (hy1 : ∀ k, nth y0 y1 y2 y3 k < M64) :
    Calls Tryd.prog 63 #[.int .i64 k, .pointer (some ⟨bx, 0, none⟩), .pointer (some ⟨by', 0, none⟩)] w fun e w' =>
      e = .returned (.int .u64 ((nth x0 x1 x2 x3 k ^^^ nth y0 y1 y2 y3 k : Nat) : Int)) ∧ Below w.heap.size w w' := by
  have cx := (cell_of hx k).trans (four_at _ _ _ _ k hk)
  have cy := (cell_of hy k).trans (four_at _ _ _ _ k hk)
  have hn := xor64 _ _ (hx1 k) (hy1 k)
  clear hx hx1 hy hy1
  generalize nth x0 x1 x2 x3 k = x at *
  generalize nth y0 y1 y2 y3 k = y at *
  generalize x ^^^ y = z at *
  go_enter Tryd.func63, Tryd.ntmps63
  go_wp2_with fail
  go_region
  go_wp2
  go_ret
  exact ⟨rfl, (Below.refl _ _).drew⟩

set_option maxRecDepth 100000 in
set_option maxHeartbeats 4000000 in
theorem Xor_any {x y b3 b2 b1 b0 a3 a2 a1 a0 : Nat} (hx : Dig x a0 a1 a2 a3) (hy : Dig y b0 b1 b2 b3) (w : World) :
    Calls Tryd.prog 30 #[.agg #[.int .u64 a3, .int .u64 a2, .int .u64 a1, .int .u64 a0], .agg #[.int .u64 b3, .int .u64 b2, .int .u64 b1, .int .u64 b0]] w
      fun e w' => e = .returned (.agg #[.int .u64 (a3 ^^^ b3 : Nat), .int .u64 (a2 ^^^ b2 : Nat), .int .u64 (a1 ^^^ b1 : Nat), .int .u64 (a0 ^^^ b0 : Nat)]) ∧ Below w.heap.size w w' := by
  have H := ((((Fx.start w).new #[.int .u64 a3, .int .u64 a2, .int .u64 a1, .int .u64 a0] 24).new #[.int .u64 b3, .int .u64 b2, .int .u64 b1, .int .u64 b0] 24).new #[.int .u64 0, .int .u64 0, .int .u64 0, .int .u64 0] 24).1
  have HX := Lib.hid hx.nth; have HY := Lib.hid hy.nth; clear hx hy
  go_enter Tryd.func30, Tryd.ntmps30
  go_wp2_with fail
  have HS := Lib.hid H.read3
  refine wp_cut (fun a' W => ∃ b5 b6 : Nat, a' = ⟨#[.agg #[.int .u64 a3, .int .u64 a2, .int .u64 a1, .int .u64 a0], .agg #[.int .u64 b3, .int .u64 b2, .int .u64 b1, .int .u64 b0],
      .pointer (some ⟨w.heap.size, 0, none⟩), .pointer (some ⟨w.heap.size + 1, 0, none⟩), .pointer (some ⟨w.heap.size + 1 + 1, 0, none⟩), .pointer (some ⟨b5, 0, none⟩), .pointer (some ⟨b6, 0, none⟩),
      .agg #[.int .u64 a3, .int .u64 a2, .int .u64 a1, .int .u64 a0], .agg #[.int .u64 a0, .int .u64 a1, .int .u64 a2, .int .u64 a3],
      .agg #[.int .u64 b3, .int .u64 b2, .int .u64 b1, .int .u64 b0], .agg #[.int .u64 b0, .int .u64 b1, .int .u64 b2, .int .u64 b3], undef, undef, undef], []⟩ ∧
      Fr w w.heap.size (w.heap.size + 1 + 1 + 1) [(w.heap.size + 1 + 1, #[.int .u64 0, .int .u64 0, .int .u64 0, .int .u64 0], 24), (w.heap.size + 1, #[.int .u64 b3, .int .u64 b2, .int .u64 b1, .int .u64 b0], 24), (w.heap.size, #[.int .u64 a3, .int .u64 a2, .int .u64 a1, .int .u64 a0], 24)] W ∧
      W.heap[b5]? = some (.cells #[.int .u64 a0, .int .u64 a1, .int .u64 a2, .int .u64 a3] 41 (0, 0)) ∧ W.heap[b6]? = some (.cells #[.int .u64 b0, .int .u64 b1, .int .u64 b2, .int .u64 b3] 41 (0, 0))) ?rest ?tree
  case rest =>
    rintro a' W ⟨b5, b6, rfl, F, e5, e6⟩
    clear H HS
    have E5 := Lib.hid e5; have E6 := Lib.hid e6; clear e5 e6
    go_wp2_with fail
    refine (up_pure 63 _ (fun k => nth a0 a1 a2 a3 k ^^^ nth b0 b1 b2 b3 k) [(b5, four a0 a1 a2 a3, 41), (b6, four b0 b1 b2 b3, 41)] _ ?_ (fun i w => by kernel_rfl) ?_).mono ?_
    · intro x hx
      simp only [List.mem_cons, List.not_mem_nil, or_false] at hx
      rcases hx with rfl | rfl
      · exact ⟨lt_of E5.out, E5.out⟩
      · exact ⟨lt_of E6.out, E6.out⟩
    · intro k wr hk hL
      exact Xor1_any k hk _ _ _ _ _ _ _ _ _ _ wr (hL _ (.head _)) (hL _ (.tail _ (.head _))) HX.out HY.out
    rintro e w2 ⟨rfl, hb2⟩
    replace F := F.call hb2
    clear hb2
    go_wp2_with fail
    refine (join_any _ _ _ _ _).mono ?_
    rintro e w4 ⟨rfl, hb4⟩
    replace F := F.call hb4
    have k := F.know (_, _, _) List.mem_cons_self
    have hC := cells4 k.2
    obtain ⟨⟨r0, r1, r2, r3⟩, g0, g1, g2, g3⟩ := hC
    have K := Lib.hid k; clear k hb4
    go_wp2_with fail
    exact bodyPost_ret (results_cell_row Tryd.results30 _ _ _ _ _ _ _ rfl (heap_set4 K.out.2 _ _ _ _) Tryd.underlying24 rfl (by kernel_rfl)) rfl
      ⟨rfl, below_set4 F.below (by omega) _ _ _ _⟩
  intro J K' hJ hK'
  have H0 := H.drew
  refine Drawn.startEx (fun i => i == 7) H (by kernel_rfl) ?_
  clear H
  refine Drawn.take 0 (some 7) (v := ?_) rfl rfl (by kernel_rfl) (by kernel_rfl) (by kernel_rfl) (by kernel_rfl) (by kernel_rfl) rfl (fun _ _ _ h => h) (Or.inl ⟨rfl, ?_⟩) H0 ?_
  rotate_left
  · intro W hW; have hW := HS.out W hW; go_simp; try with_reducible rfl
  simp only [put_list, List.set]
  refine Drawn.take 2 (some 9) (v := ?_) rfl rfl (by kernel_rfl) (by kernel_rfl) (by kernel_rfl) (by kernel_rfl) (by kernel_rfl) rfl (fun _ _ _ h => h) (Or.inl ⟨rfl, ?_⟩) H0 ?_
  rotate_left
  · intro W hW; have hW := HS.out W hW; go_simp; try with_reducible rfl
  simp only [put_list, List.set]
  have H1 := H0
  clear H0
  generalize World.drew _ = W0 at H1 ⊢
  refine Drawn.among [1, 4, 5] (by kernel_rfl) (by decide) ?_
  intro i hi
  simp only [List.mem_cons, List.not_mem_nil, or_false] at hi
  rcases hi with rfl | rfl | rfl
  · refine ⟨_, rfl, rfl, fun K hK => ?_⟩
    go_simp
    refine (split_any _ _ _ _ _).mono ?_
    rintro e w1 ⟨rfl, hb⟩
    refine hK _ _ (fun _ _ => H1.call hb) ?_
    replace H1 := H1.call hb
    clear hK K hb
    refine Drawn.among [3, 4, 5] (by kernel_rfl) (by decide) ?_
    intro i hi
    simp only [List.mem_cons, List.not_mem_nil, or_false] at hi
    rcases hi with rfl | rfl | rfl
    · refine ⟨_, rfl, rfl, fun K hK => ?_⟩
      go_simp
      refine (split_any _ _ _ _ _).mono ?_
      rintro e w2 ⟨rfl, hb⟩
      refine hK _ _ (fun _ _ => H1.call hb) ?_
      replace H1 := H1.call hb
      clear hK K hb
      refine Drawn.among [4, 5] (by kernel_rfl) (by decide) ?_
      intro i hi
      simp only [List.mem_cons, List.not_mem_nil, or_false] at hi
      rcases hi with rfl | rfl
      · refine ⟨_, rfl, rfl, fun K hK => ?_⟩
        go_simp
        refine hK _ _ (fun _ _ => H1.alloc _) ?_
        clear hK K
        have h5 : New4 (w.heap.size + 1 + 1 + 1) (.int .u64 0) (.int .u64 0) (.int .u64 0) (.int .u64 0) 41 _ _ := New4.here _ H1.size
        replace H1 := H1.alloc (.cells #[.int .u64 0, .int .u64 0, .int .u64 0, .int .u64 0] 41)
        generalize World.alloc _ _ = W5 at H1 h5 ⊢
        refine Drawn.only 5 (by kernel_rfl) rfl rfl (fun K hK => ?_)
        go_simp
        refine hK _ _ (fun _ _ => H1.alloc _) ?_
        clear hK K
        have h6 : New4 (w.heap.size + 1 + 1 + 1) (.int .u64 0) (.int .u64 0) (.int .u64 0) (.int .u64 0) 41 _ _ := New4.here _ H1.size
        have hne := h5.2.1
        replace h5 := h5.past (.cells #[.int .u64 0, .int .u64 0, .int .u64 0, .int .u64 0] 41)
        replace H1 := H1.alloc (.cells #[.int .u64 0, .int .u64 0, .int .u64 0, .int .u64 0] 41)
        generalize World.alloc _ _ = W6 at H1 h5 h6 ⊢
        obtain ⟨⟨r0, r1, r2, r3⟩, g0, g1, g2, g3⟩ := h5.cells
        refine Drawn.only 6 (by kernel_rfl) rfl rfl (fun K hK => ?_)
        go_simp
        refine hK _ _ (fun _ _ => H1.set4 h5.ge _ _ _ _) ?_
        clear hK K r0 r1 r2 r3 g0 g1 g2 g3
        have k5 := heap_set4 h5.1 (.int .u64 a0) (.int .u64 a1) (.int .u64 a2) (.int .u64 a3)
        replace h6 := h6.other h5 (by omega) (.int .u64 a0) (.int .u64 a1) (.int .u64 a2) (.int .u64 a3)
        replace H1 := H1.set4 h5.ge (.int .u64 a0) (.int .u64 a1) (.int .u64 a2) (.int .u64 a3)
        obtain ⟨⟨r0, r1, r2, r3⟩, g0, g1, g2, g3⟩ := h6.cells
        refine Drawn.only 7 (by kernel_rfl) rfl rfl (fun K hK => ?_)
        go_simp
        refine hK _ _ (fun h => by simp at h) ?_
        exact Drawn.done (by kernel_rfl) (hK' _ _ (Met.intro (hJ _ _ ⟨_, _, rfl, H1.set4 h6.ge _ _ _ _, (heap_far (by omega) _ _ _ _).trans k5, heap_set4 h6.1 _ _ _ _⟩))) _
      · refine ⟨_, rfl, rfl, fun K hK => ?_⟩
        go_simp
        refine hK _ _ (fun _ _ => H1.alloc _) ?_
        clear hK K
        have h6 : New4 (w.heap.size + 1 + 1 + 1) (.int .u64 0) (.int .u64 0) (.int .u64 0) (.int .u64 0) 41 _ _ := New4.here _ H1.size
        replace H1 := H1.alloc (.cells #[.int .u64 0, .int .u64 0, .int .u64 0, .int .u64 0] 41)
        generalize World.alloc _ _ = W6 at H1 h6 ⊢
        refine Drawn.only 4 (by kernel_rfl) rfl rfl (fun K hK => ?_)
        go_simp
        refine hK _ _ (fun _ _ => H1.alloc _) ?_
        clear hK K
        have h5 : New4 (w.heap.size + 1 + 1 + 1) (.int .u64 0) (.int .u64 0) (.int .u64 0) (.int .u64 0) 41 _ _ := New4.here _ H1.size
        have hne := h6.2.1
        replace h6 := h6.past (.cells #[.int .u64 0, .int .u64 0, .int .u64 0, .int .u64 0] 41)
        replace H1 := H1.alloc (.cells #[.int .u64 0, .int .u64 0, .int .u64 0, .int .u64 0] 41)
        generalize World.alloc _ _ = W5 at H1 h5 h6 ⊢
        obtain ⟨⟨r0, r1, r2, r3⟩, g0, g1, g2, g3⟩ := h5.cells
        refine Drawn.only 6 (by kernel_rfl) rfl rfl (fun K hK => ?_)
        go_simp
        refine hK _ _ (fun _ _ => H1.set4 h5.ge _ _ _ _) ?_
        clear hK K r0 r1 r2 r3 g0 g1 g2 g3
        have k5 := heap_set4 h5.1 (.int .u64 a0) (.int .u64 a1) (.int .u64 a2) (.int .u64 a3)
        replace h6 := h6.other h5 (by omega) (.int .u64 a0) (.int .u64 a1) (.int .u64 a2) (.int .u64 a3)
        replace H1 := H1.set4 h5.ge (.int .u64 a0) (.int .u64 a1) (.int .u64 a2) (.int .u64 a3)
        obtain ⟨⟨r0, r1, r2, r3⟩, g0, g1, g2, g3⟩ := h6.cells
        refine Drawn.only 7 (by kernel_rfl) rfl rfl (fun K hK => ?_)
        go_simp
        refine hK _ _ (fun h => by simp at h) ?_
        exact Drawn.done (by kernel_rfl) (hK' _ _ (Met.intro (hJ _ _ ⟨_, _, rfl, H1.set4 h6.ge _ _ _ _, (heap_far (by omega) _ _ _ _).trans k5, heap_set4 h6.1 _ _ _ _⟩))) _
    · refine ⟨_, rfl, rfl, fun K hK => ?_⟩
      go_simp
      refine hK _ _ (fun _ _ => H1.alloc _) ?_
      clear hK K
      have h5 : New4 (w.heap.size + 1 + 1 + 1) (.int .u64 0) (.int .u64 0) (.int .u64 0) (.int .u64 0) 41 _ _ := New4.here _ H1.size
      replace H1 := H1.alloc (.cells #[.int .u64 0, .int .u64 0, .int .u64 0, .int .u64 0] 41)
      generalize World.alloc _ _ = W5 at H1 h5 ⊢
      refine Drawn.among [3, 5] (by kernel_rfl) (by decide) ?_
      intro i hi
      simp only [List.mem_cons, List.not_mem_nil, or_false] at hi
      rcases hi with rfl | rfl
      · refine ⟨_, rfl, rfl, fun K hK => ?_⟩
        go_simp
        refine (split_any _ _ _ _ _).mono ?_
        rintro e w2 ⟨rfl, hb⟩
        refine hK _ _ (fun _ _ => H1.call hb) ?_
        replace h5 := carry4 hb h5
        replace H1 := H1.call hb
        clear hK K hb
        refine Drawn.only 5 (by kernel_rfl) rfl rfl (fun K hK => ?_)
        go_simp
        refine hK _ _ (fun _ _ => H1.alloc _) ?_
        clear hK K
        have h6 : New4 (w.heap.size + 1 + 1 + 1) (.int .u64 0) (.int .u64 0) (.int .u64 0) (.int .u64 0) 41 _ _ := New4.here _ H1.size
        have hne := h5.2.1
        replace h5 := h5.past (.cells #[.int .u64 0, .int .u64 0, .int .u64 0, .int .u64 0] 41)
        replace H1 := H1.alloc (.cells #[.int .u64 0, .int .u64 0, .int .u64 0, .int .u64 0] 41)
        generalize World.alloc _ _ = W6 at H1 h5 h6 ⊢
        obtain ⟨⟨r0, r1, r2, r3⟩, g0, g1, g2, g3⟩ := h5.cells
        refine Drawn.only 6 (by kernel_rfl) rfl rfl (fun K hK => ?_)
        go_simp
        refine hK _ _ (fun _ _ => H1.set4 h5.ge _ _ _ _) ?_
        clear hK K r0 r1 r2 r3 g0 g1 g2 g3
        have k5 := heap_set4 h5.1 (.int .u64 a0) (.int .u64 a1) (.int .u64 a2) (.int .u64 a3)
        replace h6 := h6.other h5 (by omega) (.int .u64 a0) (.int .u64 a1) (.int .u64 a2) (.int .u64 a3)
        replace H1 := H1.set4 h5.ge (.int .u64 a0) (.int .u64 a1) (.int .u64 a2) (.int .u64 a3)
        obtain ⟨⟨r0, r1, r2, r3⟩, g0, g1, g2, g3⟩ := h6.cells
        refine Drawn.only 7 (by kernel_rfl) rfl rfl (fun K hK => ?_)
        go_simp
        refine hK _ _ (fun h => by simp at h) ?_
        exact Drawn.done (by kernel_rfl) (hK' _ _ (Met.intro (hJ _ _ ⟨_, _, rfl, H1.set4 h6.ge _ _ _ _, (heap_far (by omega) _ _ _ _).trans k5, heap_set4 h6.1 _ _ _ _⟩))) _
      · refine ⟨_, rfl, rfl, fun K hK => ?_⟩
        go_simp
        refine hK _ _ (fun _ _ => H1.alloc _) ?_
        clear hK K
        have h6 : New4 (w.heap.size + 1 + 1 + 1) (.int .u64 0) (.int .u64 0) (.int .u64 0) (.int .u64 0) 41 _ _ := New4.here _ H1.size
        have hne := h5.2.1
        replace h5 := h5.past (.cells #[.int .u64 0, .int .u64 0, .int .u64 0, .int .u64 0] 41)
        replace H1 := H1.alloc (.cells #[.int .u64 0, .int .u64 0, .int .u64 0, .int .u64 0] 41)
        generalize World.alloc _ _ = W6 at H1 h5 h6 ⊢
        refine Drawn.only 3 (by kernel_rfl) rfl rfl (fun K hK => ?_)
        go_simp
        refine (split_any _ _ _ _ _).mono ?_
        rintro e w2 ⟨rfl, hb⟩
        refine hK _ _ (fun _ _ => H1.call hb) ?_
        replace h5 := carry4 hb h5
        replace h6 := carry4 hb h6
        replace H1 := H1.call hb
        clear hK K hb
        obtain ⟨⟨r0, r1, r2, r3⟩, g0, g1, g2, g3⟩ := h5.cells
        refine Drawn.only 6 (by kernel_rfl) rfl rfl (fun K hK => ?_)
        go_simp
        refine hK _ _ (fun _ _ => H1.set4 h5.ge _ _ _ _) ?_
        clear hK K r0 r1 r2 r3 g0 g1 g2 g3
        have k5 := heap_set4 h5.1 (.int .u64 a0) (.int .u64 a1) (.int .u64 a2) (.int .u64 a3)
        replace h6 := h6.other h5 (by omega) (.int .u64 a0) (.int .u64 a1) (.int .u64 a2) (.int .u64 a3)
        replace H1 := H1.set4 h5.ge (.int .u64 a0) (.int .u64 a1) (.int .u64 a2) (.int .u64 a3)
        obtain ⟨⟨r0, r1, r2, r3⟩, g0, g1, g2, g3⟩ := h6.cells
        refine Drawn.only 7 (by kernel_rfl) rfl rfl (fun K hK => ?_)
        go_simp
        refine hK _ _ (fun h => by simp at h) ?_
        exact Drawn.done (by kernel_rfl) (hK' _ _ (Met.intro (hJ _ _ ⟨_, _, rfl, H1.set4 h6.ge _ _ _ _, (heap_far (by omega) _ _ _ _).trans k5, heap_set4 h6.1 _ _ _ _⟩))) _
    · refine ⟨_, rfl, rfl, fun K hK => ?_⟩
      go_simp
      refine hK _ _ (fun _ _ => H1.alloc _) ?_
      clear hK K
      have h6 : New4 (w.heap.size + 1 + 1 + 1) (.int .u64 0) (.int .u64 0) (.int .u64 0) (.int .u64 0) 41 _ _ := New4.here _ H1.size
      replace H1 := H1.alloc (.cells #[.int .u64 0, .int .u64 0, .int .u64 0, .int .u64 0] 41)
      generalize World.alloc _ _ = W6 at H1 h6 ⊢
      refine Drawn.among [3, 4] (by kernel_rfl) (by decide) ?_
      intro i hi
      simp only [List.mem_cons, List.not_mem_nil, or_false] at hi
      rcases hi with rfl | rfl
      · refine ⟨_, rfl, rfl, fun K hK => ?_⟩
        go_simp
        refine (split_any _ _ _ _ _).mono ?_
        rintro e w2 ⟨rfl, hb⟩
        refine hK _ _ (fun _ _ => H1.call hb) ?_
        replace h6 := carry4 hb h6
        replace H1 := H1.call hb
        clear hK K hb
        refine Drawn.only 4 (by kernel_rfl) rfl rfl (fun K hK => ?_)
        go_simp
        refine hK _ _ (fun _ _ => H1.alloc _) ?_
        clear hK K
        have h5 : New4 (w.heap.size + 1 + 1 + 1) (.int .u64 0) (.int .u64 0) (.int .u64 0) (.int .u64 0) 41 _ _ := New4.here _ H1.size
        have hne := h6.2.1
        replace h6 := h6.past (.cells #[.int .u64 0, .int .u64 0, .int .u64 0, .int .u64 0] 41)
        replace H1 := H1.alloc (.cells #[.int .u64 0, .int .u64 0, .int .u64 0, .int .u64 0] 41)
        generalize World.alloc _ _ = W5 at H1 h5 h6 ⊢
        obtain ⟨⟨r0, r1, r2, r3⟩, g0, g1, g2, g3⟩ := h5.cells
        refine Drawn.only 6 (by kernel_rfl) rfl rfl (fun K hK => ?_)
        go_simp
        refine hK _ _ (fun _ _ => H1.set4 h5.ge _ _ _ _) ?_
        clear hK K r0 r1 r2 r3 g0 g1 g2 g3
        have k5 := heap_set4 h5.1 (.int .u64 a0) (.int .u64 a1) (.int .u64 a2) (.int .u64 a3)
        replace h6 := h6.other h5 (by omega) (.int .u64 a0) (.int .u64 a1) (.int .u64 a2) (.int .u64 a3)
        replace H1 := H1.set4 h5.ge (.int .u64 a0) (.int .u64 a1) (.int .u64 a2) (.int .u64 a3)
        obtain ⟨⟨r0, r1, r2, r3⟩, g0, g1, g2, g3⟩ := h6.cells
        refine Drawn.only 7 (by kernel_rfl) rfl rfl (fun K hK => ?_)
        go_simp
        refine hK _ _ (fun h => by simp at h) ?_
        exact Drawn.done (by kernel_rfl) (hK' _ _ (Met.intro (hJ _ _ ⟨_, _, rfl, H1.set4 h6.ge _ _ _ _, (heap_far (by omega) _ _ _ _).trans k5, heap_set4 h6.1 _ _ _ _⟩))) _
      · refine ⟨_, rfl, rfl, fun K hK => ?_⟩
        go_simp
        refine hK _ _ (fun _ _ => H1.alloc _) ?_
        clear hK K
        have h5 : New4 (w.heap.size + 1 + 1 + 1) (.int .u64 0) (.int .u64 0) (.int .u64 0) (.int .u64 0) 41 _ _ := New4.here _ H1.size
        have hne := h6.2.1
        replace h6 := h6.past (.cells #[.int .u64 0, .int .u64 0, .int .u64 0, .int .u64 0] 41)
        replace H1 := H1.alloc (.cells #[.int .u64 0, .int .u64 0, .int .u64 0, .int .u64 0] 41)
        generalize World.alloc _ _ = W5 at H1 h5 h6 ⊢
        refine Drawn.only 3 (by kernel_rfl) rfl rfl (fun K hK => ?_)
        go_simp
        refine (split_any _ _ _ _ _).mono ?_
        rintro e w2 ⟨rfl, hb⟩
        refine hK _ _ (fun _ _ => H1.call hb) ?_
        replace h5 := carry4 hb h5
        replace h6 := carry4 hb h6
        replace H1 := H1.call hb
        clear hK K hb
        obtain ⟨⟨r0, r1, r2, r3⟩, g0, g1, g2, g3⟩ := h5.cells
        refine Drawn.only 6 (by kernel_rfl) rfl rfl (fun K hK => ?_)
        go_simp
        refine hK _ _ (fun _ _ => H1.set4 h5.ge _ _ _ _) ?_
        clear hK K r0 r1 r2 r3 g0 g1 g2 g3
        have k5 := heap_set4 h5.1 (.int .u64 a0) (.int .u64 a1) (.int .u64 a2) (.int .u64 a3)
        replace h6 := h6.other h5 (by omega) (.int .u64 a0) (.int .u64 a1) (.int .u64 a2) (.int .u64 a3)
        replace H1 := H1.set4 h5.ge (.int .u64 a0) (.int .u64 a1) (.int .u64 a2) (.int .u64 a3)
        obtain ⟨⟨r0, r1, r2, r3⟩, g0, g1, g2, g3⟩ := h6.cells
        refine Drawn.only 7 (by kernel_rfl) rfl rfl (fun K hK => ?_)
        go_simp
        refine hK _ _ (fun h => by simp at h) ?_
        exact Drawn.done (by kernel_rfl) (hK' _ _ (Met.intro (hJ _ _ ⟨_, _, rfl, H1.set4 h6.ge _ _ _ _, (heap_far (by omega) _ _ _ _).trans k5, heap_set4 h6.1 _ _ _ _⟩))) _
  · refine ⟨_, rfl, rfl, fun K hK => ?_⟩
    go_simp
    refine hK _ _ (fun _ _ => H1.alloc _) ?_
    clear hK K
    have h5 : New4 (w.heap.size + 1 + 1 + 1) (.int .u64 0) (.int .u64 0) (.int .u64 0) (.int .u64 0) 41 _ _ := New4.here _ H1.size
    replace H1 := H1.alloc (.cells #[.int .u64 0, .int .u64 0, .int .u64 0, .int .u64 0] 41)
    generalize World.alloc _ _ = W5 at H1 h5 ⊢
    refine Drawn.among [1, 5] (by kernel_rfl) (by decide) ?_
    intro i hi
    simp only [List.mem_cons, List.not_mem_nil, or_false] at hi
    rcases hi with rfl | rfl
    · refine ⟨_, rfl, rfl, fun K hK => ?_⟩
      go_simp
      refine (split_any _ _ _ _ _).mono ?_
      rintro e w1 ⟨rfl, hb⟩
      refine hK _ _ (fun _ _ => H1.call hb) ?_
      replace h5 := carry4 hb h5
      replace H1 := H1.call hb
      clear hK K hb
      refine Drawn.among [3, 5] (by kernel_rfl) (by decide) ?_
      intro i hi
      simp only [List.mem_cons, List.not_mem_nil, or_false] at hi
      rcases hi with rfl | rfl
      · refine ⟨_, rfl, rfl, fun K hK => ?_⟩
        go_simp
        refine (split_any _ _ _ _ _).mono ?_
        rintro e w2 ⟨rfl, hb⟩
        refine hK _ _ (fun _ _ => H1.call hb) ?_
        replace h5 := carry4 hb h5
        replace H1 := H1.call hb
        clear hK K hb
        refine Drawn.only 5 (by kernel_rfl) rfl rfl (fun K hK => ?_)
        go_simp
        refine hK _ _ (fun _ _ => H1.alloc _) ?_
        clear hK K
        have h6 : New4 (w.heap.size + 1 + 1 + 1) (.int .u64 0) (.int .u64 0) (.int .u64 0) (.int .u64 0) 41 _ _ := New4.here _ H1.size
        have hne := h5.2.1
        replace h5 := h5.past (.cells #[.int .u64 0, .int .u64 0, .int .u64 0, .int .u64 0] 41)
        replace H1 := H1.alloc (.cells #[.int .u64 0, .int .u64 0, .int .u64 0, .int .u64 0] 41)
        generalize World.alloc _ _ = W6 at H1 h5 h6 ⊢
        obtain ⟨⟨r0, r1, r2, r3⟩, g0, g1, g2, g3⟩ := h5.cells
        refine Drawn.only 6 (by kernel_rfl) rfl rfl (fun K hK => ?_)
        go_simp
        refine hK _ _ (fun _ _ => H1.set4 h5.ge _ _ _ _) ?_
        clear hK K r0 r1 r2 r3 g0 g1 g2 g3
        have k5 := heap_set4 h5.1 (.int .u64 a0) (.int .u64 a1) (.int .u64 a2) (.int .u64 a3)
        replace h6 := h6.other h5 (by omega) (.int .u64 a0) (.int .u64 a1) (.int .u64 a2) (.int .u64 a3)
        replace H1 := H1.set4 h5.ge (.int .u64 a0) (.int .u64 a1) (.int .u64 a2) (.int .u64 a3)
        obtain ⟨⟨r0, r1, r2, r3⟩, g0, g1, g2, g3⟩ := h6.cells
        refine Drawn.only 7 (by kernel_rfl) rfl rfl (fun K hK => ?_)
        go_simp
        refine hK _ _ (fun h => by simp at h) ?_
        exact Drawn.done (by kernel_rfl) (hK' _ _ (Met.intro (hJ _ _ ⟨_, _, rfl, H1.set4 h6.ge _ _ _ _, (heap_far (by omega) _ _ _ _).trans k5, heap_set4 h6.1 _ _ _ _⟩))) _
      · refine ⟨_, rfl, rfl, fun K hK => ?_⟩
        go_simp
        refine hK _ _ (fun _ _ => H1.alloc _) ?_
        clear hK K
        have h6 : New4 (w.heap.size + 1 + 1 + 1) (.int .u64 0) (.int .u64 0) (.int .u64 0) (.int .u64 0) 41 _ _ := New4.here _ H1.size
        have hne := h5.2.1
        replace h5 := h5.past (.cells #[.int .u64 0, .int .u64 0, .int .u64 0, .int .u64 0] 41)
        replace H1 := H1.alloc (.cells #[.int .u64 0, .int .u64 0, .int .u64 0, .int .u64 0] 41)
        generalize World.alloc _ _ = W6 at H1 h5 h6 ⊢
        refine Drawn.only 3 (by kernel_rfl) rfl rfl (fun K hK => ?_)
        go_simp
        refine (split_any _ _ _ _ _).mono ?_
        rintro e w2 ⟨rfl, hb⟩
        refine hK _ _ (fun _ _ => H1.call hb) ?_
        replace h5 := carry4 hb h5
        replace h6 := carry4 hb h6
        replace H1 := H1.call hb
        clear hK K hb
        obtain ⟨⟨r0, r1, r2, r3⟩, g0, g1, g2, g3⟩ := h5.cells
        refine Drawn.only 6 (by kernel_rfl) rfl rfl (fun K hK => ?_)
        go_simp
        refine hK _ _ (fun _ _ => H1.set4 h5.ge _ _ _ _) ?_
        clear hK K r0 r1 r2 r3 g0 g1 g2 g3
        have k5 := heap_set4 h5.1 (.int .u64 a0) (.int .u64 a1) (.int .u64 a2) (.int .u64 a3)
        replace h6 := h6.other h5 (by omega) (.int .u64 a0) (.int .u64 a1) (.int .u64 a2) (.int .u64 a3)
        replace H1 := H1.set4 h5.ge (.int .u64 a0) (.int .u64 a1) (.int .u64 a2) (.int .u64 a3)
        obtain ⟨⟨r0, r1, r2, r3⟩, g0, g1, g2, g3⟩ := h6.cells
        refine Drawn.only 7 (by kernel_rfl) rfl rfl (fun K hK => ?_)
        go_simp
        refine hK _ _ (fun h => by simp at h) ?_
        exact Drawn.done (by kernel_rfl) (hK' _ _ (Met.intro (hJ _ _ ⟨_, _, rfl, H1.set4 h6.ge _ _ _ _, (heap_far (by omega) _ _ _ _).trans k5, heap_set4 h6.1 _ _ _ _⟩))) _
    · refine ⟨_, rfl, rfl, fun K hK => ?_⟩
      go_simp
      refine hK _ _ (fun _ _ => H1.alloc _) ?_
      clear hK K
      have h6 : New4 (w.heap.size + 1 + 1 + 1) (.int .u64 0) (.int .u64 0) (.int .u64 0) (.int .u64 0) 41 _ _ := New4.here _ H1.size
      have hne := h5.2.1
      replace h5 := h5.past (.cells #[.int .u64 0, .int .u64 0, .int .u64 0, .int .u64 0] 41)
      replace H1 := H1.alloc (.cells #[.int .u64 0, .int .u64 0, .int .u64 0, .int .u64 0] 41)
      generalize World.alloc _ _ = W6 at H1 h5 h6 ⊢
      refine Drawn.only 1 (by kernel_rfl) rfl rfl (fun K hK => ?_)
      go_simp
      refine (split_any _ _ _ _ _).mono ?_
      rintro e w1 ⟨rfl, hb⟩
      refine hK _ _ (fun _ _ => H1.call hb) ?_
      replace h5 := carry4 hb h5
      replace h6 := carry4 hb h6
      replace H1 := H1.call hb
      clear hK K hb
      refine Drawn.only 3 (by kernel_rfl) rfl rfl (fun K hK => ?_)
      go_simp
      refine (split_any _ _ _ _ _).mono ?_
      rintro e w2 ⟨rfl, hb⟩
      refine hK _ _ (fun _ _ => H1.call hb) ?_
      replace h5 := carry4 hb h5
      replace h6 := carry4 hb h6
      replace H1 := H1.call hb
      clear hK K hb
      obtain ⟨⟨r0, r1, r2, r3⟩, g0, g1, g2, g3⟩ := h5.cells
      refine Drawn.only 6 (by kernel_rfl) rfl rfl (fun K hK => ?_)
      go_simp
      refine hK _ _ (fun _ _ => H1.set4 h5.ge _ _ _ _) ?_
      clear hK K r0 r1 r2 r3 g0 g1 g2 g3
      have k5 := heap_set4 h5.1 (.int .u64 a0) (.int .u64 a1) (.int .u64 a2) (.int .u64 a3)
      replace h6 := h6.other h5 (by omega) (.int .u64 a0) (.int .u64 a1) (.int .u64 a2) (.int .u64 a3)
      replace H1 := H1.set4 h5.ge (.int .u64 a0) (.int .u64 a1) (.int .u64 a2) (.int .u64 a3)
      obtain ⟨⟨r0, r1, r2, r3⟩, g0, g1, g2, g3⟩ := h6.cells
      refine Drawn.only 7 (by kernel_rfl) rfl rfl (fun K hK => ?_)
      go_simp
      refine hK _ _ (fun h => by simp at h) ?_
      exact Drawn.done (by kernel_rfl) (hK' _ _ (Met.intro (hJ _ _ ⟨_, _, rfl, H1.set4 h6.ge _ _ _ _, (heap_far (by omega) _ _ _ _).trans k5, heap_set4 h6.1 _ _ _ _⟩))) _
  · refine ⟨_, rfl, rfl, fun K hK => ?_⟩
    go_simp
    refine hK _ _ (fun _ _ => H1.alloc _) ?_
    clear hK K
    have h6 : New4 (w.heap.size + 1 + 1 + 1) (.int .u64 0) (.int .u64 0) (.int .u64 0) (.int .u64 0) 41 _ _ := New4.here _ H1.size
    replace H1 := H1.alloc (.cells #[.int .u64 0, .int .u64 0, .int .u64 0, .int .u64 0] 41)
    generalize World.alloc _ _ = W6 at H1 h6 ⊢
    refine Drawn.among [1, 4] (by kernel_rfl) (by decide) ?_
    intro i hi
    simp only [List.mem_cons, List.not_mem_nil, or_false] at hi
    rcases hi with rfl | rfl
    · refine ⟨_, rfl, rfl, fun K hK => ?_⟩
      go_simp
      refine (split_any _ _ _ _ _).mono ?_
      rintro e w1 ⟨rfl, hb⟩
      refine hK _ _ (fun _ _ => H1.call hb) ?_
      replace h6 := carry4 hb h6
      replace H1 := H1.call hb
      clear hK K hb
      refine Drawn.among [3, 4] (by kernel_rfl) (by decide) ?_
      intro i hi
      simp only [List.mem_cons, List.not_mem_nil, or_false] at hi
      rcases hi with rfl | rfl
      · refine ⟨_, rfl, rfl, fun K hK => ?_⟩
        go_simp
        refine (split_any _ _ _ _ _).mono ?_
        rintro e w2 ⟨rfl, hb⟩
        refine hK _ _ (fun _ _ => H1.call hb) ?_
        replace h6 := carry4 hb h6
        replace H1 := H1.call hb
        clear hK K hb
        refine Drawn.only 4 (by kernel_rfl) rfl rfl (fun K hK => ?_)
        go_simp
        refine hK _ _ (fun _ _ => H1.alloc _) ?_
        clear hK K
        have h5 : New4 (w.heap.size + 1 + 1 + 1) (.int .u64 0) (.int .u64 0) (.int .u64 0) (.int .u64 0) 41 _ _ := New4.here _ H1.size
        have hne := h6.2.1
        replace h6 := h6.past (.cells #[.int .u64 0, .int .u64 0, .int .u64 0, .int .u64 0] 41)
        replace H1 := H1.alloc (.cells #[.int .u64 0, .int .u64 0, .int .u64 0, .int .u64 0] 41)
        generalize World.alloc _ _ = W5 at H1 h5 h6 ⊢
        obtain ⟨⟨r0, r1, r2, r3⟩, g0, g1, g2, g3⟩ := h5.cells
        refine Drawn.only 6 (by kernel_rfl) rfl rfl (fun K hK => ?_)
        go_simp
        refine hK _ _ (fun _ _ => H1.set4 h5.ge _ _ _ _) ?_
        clear hK K r0 r1 r2 r3 g0 g1 g2 g3
        have k5 := heap_set4 h5.1 (.int .u64 a0) (.int .u64 a1) (.int .u64 a2) (.int .u64 a3)
        replace h6 := h6.other h5 (by omega) (.int .u64 a0) (.int .u64 a1) (.int .u64 a2) (.int .u64 a3)
        replace H1 := H1.set4 h5.ge (.int .u64 a0) (.int .u64 a1) (.int .u64 a2) (.int .u64 a3)
        obtain ⟨⟨r0, r1, r2, r3⟩, g0, g1, g2, g3⟩ := h6.cells
        refine Drawn.only 7 (by kernel_rfl) rfl rfl (fun K hK => ?_)
        go_simp
        refine hK _ _ (fun h => by simp at h) ?_
        exact Drawn.done (by kernel_rfl) (hK' _ _ (Met.intro (hJ _ _ ⟨_, _, rfl, H1.set4 h6.ge _ _ _ _, (heap_far (by omega) _ _ _ _).trans k5, heap_set4 h6.1 _ _ _ _⟩))) _
      · refine ⟨_, rfl, rfl, fun K hK => ?_⟩
        go_simp
        refine hK _ _ (fun _ _ => H1.alloc _) ?_
        clear hK K
        have h5 : New4 (w.heap.size + 1 + 1 + 1) (.int .u64 0) (.int .u64 0) (.int .u64 0) (.int .u64 0) 41 _ _ := New4.here _ H1.size
        have hne := h6.2.1
        replace h6 := h6.past (.cells #[.int .u64 0, .int .u64 0, .int .u64 0, .int .u64 0] 41)
        replace H1 := H1.alloc (.cells #[.int .u64 0, .int .u64 0, .int .u64 0, .int .u64 0] 41)
        generalize World.alloc _ _ = W5 at H1 h5 h6 ⊢
        refine Drawn.only 3 (by kernel_rfl) rfl rfl (fun K hK => ?_)
        go_simp
        refine (split_any _ _ _ _ _).mono ?_
        rintro e w2 ⟨rfl, hb⟩
        refine hK _ _ (fun _ _ => H1.call hb) ?_
        replace h5 := carry4 hb h5
        replace h6 := carry4 hb h6
        replace H1 := H1.call hb
        clear hK K hb
        obtain ⟨⟨r0, r1, r2, r3⟩, g0, g1, g2, g3⟩ := h5.cells
        refine Drawn.only 6 (by kernel_rfl) rfl rfl (fun K hK => ?_)
        go_simp
        refine hK _ _ (fun _ _ => H1.set4 h5.ge _ _ _ _) ?_
        clear hK K r0 r1 r2 r3 g0 g1 g2 g3
        have k5 := heap_set4 h5.1 (.int .u64 a0) (.int .u64 a1) (.int .u64 a2) (.int .u64 a3)
        replace h6 := h6.other h5 (by omega) (.int .u64 a0) (.int .u64 a1) (.int .u64 a2) (.int .u64 a3)
        replace H1 := H1.set4 h5.ge (.int .u64 a0) (.int .u64 a1) (.int .u64 a2) (.int .u64 a3)
        obtain ⟨⟨r0, r1, r2, r3⟩, g0, g1, g2, g3⟩ := h6.cells
        refine Drawn.only 7 (by kernel_rfl) rfl rfl (fun K hK => ?_)
        go_simp
        refine hK _ _ (fun h => by simp at h) ?_
        exact Drawn.done (by kernel_rfl) (hK' _ _ (Met.intro (hJ _ _ ⟨_, _, rfl, H1.set4 h6.ge _ _ _ _, (heap_far (by omega) _ _ _ _).trans k5, heap_set4 h6.1 _ _ _ _⟩))) _
    · refine ⟨_, rfl, rfl, fun K hK => ?_⟩
      go_simp
      refine hK _ _ (fun _ _ => H1.alloc _) ?_
      clear hK K
      have h5 : New4 (w.heap.size + 1 + 1 + 1) (.int .u64 0) (.int .u64 0) (.int .u64 0) (.int .u64 0) 41 _ _ := New4.here _ H1.size
      have hne := h6.2.1
      replace h6 := h6.past (.cells #[.int .u64 0, .int .u64 0, .int .u64 0, .int .u64 0] 41)
      replace H1 := H1.alloc (.cells #[.int .u64 0, .int .u64 0, .int .u64 0, .int .u64 0] 41)
      generalize World.alloc _ _ = W5 at H1 h5 h6 ⊢
      refine Drawn.only 1 (by kernel_rfl) rfl rfl (fun K hK => ?_)
      go_simp
      refine (split_any _ _ _ _ _).mono ?_
      rintro e w1 ⟨rfl, hb⟩
      refine hK _ _ (fun _ _ => H1.call hb) ?_
      replace h5 := carry4 hb h5
      replace h6 := carry4 hb h6
      replace H1 := H1.call hb
      clear hK K hb
      refine Drawn.only 3 (by kernel_rfl) rfl rfl (fun K hK => ?_)
      go_simp
      refine (split_any _ _ _ _ _).mono ?_
      rintro e w2 ⟨rfl, hb⟩
      refine hK _ _ (fun _ _ => H1.call hb) ?_
      replace h5 := carry4 hb h5
      replace h6 := carry4 hb h6
      replace H1 := H1.call hb
      clear hK K hb
      obtain ⟨⟨r0, r1, r2, r3⟩, g0, g1, g2, g3⟩ := h5.cells
      refine Drawn.only 6 (by kernel_rfl) rfl rfl (fun K hK => ?_)
      go_simp
      refine hK _ _ (fun _ _ => H1.set4 h5.ge _ _ _ _) ?_
      clear hK K r0 r1 r2 r3 g0 g1 g2 g3
      have k5 := heap_set4 h5.1 (.int .u64 a0) (.int .u64 a1) (.int .u64 a2) (.int .u64 a3)
      replace h6 := h6.other h5 (by omega) (.int .u64 a0) (.int .u64 a1) (.int .u64 a2) (.int .u64 a3)
      replace H1 := H1.set4 h5.ge (.int .u64 a0) (.int .u64 a1) (.int .u64 a2) (.int .u64 a3)
      obtain ⟨⟨r0, r1, r2, r3⟩, g0, g1, g2, g3⟩ := h6.cells
      refine Drawn.only 7 (by kernel_rfl) rfl rfl (fun K hK => ?_)
      go_simp
      refine hK _ _ (fun h => by simp at h) ?_
      exact Drawn.done (by kernel_rfl) (hK' _ _ (Met.intro (hJ _ _ ⟨_, _, rfl, H1.set4 h6.ge _ _ _ _, (heap_far (by omega) _ _ _ _).trans k5, heap_set4 h6.1 _ _ _ _⟩))) _

end Go.Proofs.YtofoiifckkafcaaDoor
