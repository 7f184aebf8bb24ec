/- The contracts of word.Div and Mod. -/
import Derived.Test.YthbfhfgmanafpaaDivD
import Derived.Test.YthbfhfgmanafpaaMoveC
import Derived.Test.YthbfhfgmanafpaaWordE
import Derived.Test.YthbfhfgmanafpaaAmong
import Derived.Deep.Cut
namespace Go.Proofs.Ythbfhfgmanafpaa
open Go.RowKit
attribute [local go_sem ↓] Go.wp_at_zero Go.wp_at_succ

theorem divide_c {a b a0 a1 a2 a3 b0 b1 b2 b3 : Nat} (ha : Dig a a0 a1 a2 a3) (hb : Dig b b0 b1 b2 b3) (w : World) :
    Calls Try.prog 63 #[.agg #[.int .u64 a0, .int .u64 a1, .int .u64 a2, .int .u64 a3], .agg #[.int .u64 b0, .int .u64 b1, .int .u64 b2, .int .u64 b3]] w (RetLL (a / b) (if b = 0 then 0 else a % b) w) := by
  by_cases h0 : b = 0
  · subst h0
    obtain ⟨rfl, rfl, rfl, rfl⟩ := hb.inj dig_nil
    rw [if_pos rfl, Nat.div_zero]
    exact divide_zero w
  · rw [if_neg h0]
    exact divide_some ha hb h0 w

set_option maxRecDepth 100000 in
set_option maxHeartbeats 4000000 in
theorem Div_d {x y b3 b2 b1 b0 a3 a2 a1 a0 : Nat} (hx : Dig x a0 a1 a2 a3) (hy : Dig y b0 b1 b2 b3) (w : World) :
    Calls Try.prog 32 #[.agg #[.int .u64 a3, .int .u64 a2, .int .u64 a1, .int .u64 a0], .agg #[.int .u64 b3, .int .u64 b2, .int .u64 b1, .int .u64 b0]] w (RetD (x / y) w) := by
  have H := ((((Fx.start w).new #[.int .u64 a3, .int .u64 a2, .int .u64 a1, .int .u64 a0] 24).new #[.int .u64 b3, .int .u64 b2, .int .u64 b1, .int .u64 b0] 24).new #[.int .u64 0, .int .u64 0, .int .u64 0, .int .u64 0] 24).1
  have D := Lib.hid (fun W => divide_c hx hy W)
  clear hx hy
  generalize x / y = q at *
  generalize (if y = 0 then 0 else x % y) = r at *
  go_enter Try.func32, Try.ntmps32
  go_wp2_with fail
  have HS := Lib.hid H.read3
  refine wp_cut (fun a' W => ∃ b5 b6 q0 q1 q2 q3 r0 r1 r2 r3 : Nat, a' = ⟨#[.agg #[.int .u64 a3, .int .u64 a2, .int .u64 a1, .int .u64 a0], .agg #[.int .u64 b3, .int .u64 b2, .int .u64 b1, .int .u64 b0],
      .pointer (some ⟨w.heap.size, 0, none⟩), .pointer (some ⟨w.heap.size + 1, 0, none⟩), .pointer (some ⟨w.heap.size + 1 + 1, 0, none⟩), .pointer (some ⟨b5, 0, none⟩), .pointer (some ⟨b6, 0, none⟩),
      .tuple #[.agg #[.int .u64 q0, .int .u64 q1, .int .u64 q2, .int .u64 q3], .agg #[.int .u64 r0, .int .u64 r1, .int .u64 r2, .int .u64 r3]], .agg #[.int .u64 a3, .int .u64 a2, .int .u64 a1, .int .u64 a0], .agg #[.int .u64 a0, .int .u64 a1, .int .u64 a2, .int .u64 a3], .agg #[.int .u64 b3, .int .u64 b2, .int .u64 b1, .int .u64 b0], .agg #[.int .u64 b0, .int .u64 b1, .int .u64 b2, .int .u64 b3], .tuple #[.agg #[.int .u64 q0, .int .u64 q1, .int .u64 q2, .int .u64 q3], .agg #[.int .u64 r0, .int .u64 r1, .int .u64 r2, .int .u64 r3]], .agg #[.int .u64 q0, .int .u64 q1, .int .u64 q2, .int .u64 q3], .agg #[.int .u64 r0, .int .u64 r1, .int .u64 r2, .int .u64 r3], undef, undef], []⟩ ∧ Dig q q0 q1 q2 q3 ∧ Dig r r0 r1 r2 r3 ∧
      Fr w w.heap.size (w.heap.size + 1 + 1 + 1) [(w.heap.size + 1 + 1, #[.int .u64 0, .int .u64 0, .int .u64 0, .int .u64 0], 24), (w.heap.size + 1, #[.int .u64 b3, .int .u64 b2, .int .u64 b1, .int .u64 b0], 24), (w.heap.size, #[.int .u64 a3, .int .u64 a2, .int .u64 a1, .int .u64 a0], 24)] W ∧
      W.heap[b5]? = some (.cells #[.int .u64 q0, .int .u64 q1, .int .u64 q2, .int .u64 q3] 45 (0, 0)) ∧ W.heap[b6]? = some (.cells #[.int .u64 r0, .int .u64 r1, .int .u64 r2, .int .u64 r3] 45 (0, 0))) ?rest ?tree
  case rest =>
    rintro a' W ⟨b5, b6, q0, q1, q2, q3, r0, r1, r2, r3, rfl, hq, hr, F, e5, e6⟩
    clear H HS D
    have HQ := Lib.hid hq; clear hq hr
    have c5 := (cells4 e5).1
    clear e5 e6
    go_wp2_with fail
    refine (join_any _ _ _ _ _).mono ?_
    rintro e w4 ⟨rfl, hb4⟩
    replace F := F.call hb4
    have k := F.know (_, _, _) List.mem_cons_self
    have hC := cells4 k.2
    obtain ⟨⟨k0, k1, k2, k3⟩, g0, g1, g2, g3⟩ := hC
    have K := Lib.hid k; clear k hb4 c5
    go_wp2_with fail
    exact bodyPost_ret (results_cell_row Try.results32 _ _ _ _ _ _ _ rfl (heap_set4 K.out.2 _ _ _ _) Try.underlying24 rfl (by kernel_rfl)) rfl
      ⟨_, _, _, _, rfl, HQ.out, below_set4 F.below (by omega) _ _ _ _⟩
  intro J K' hJ hK'
  have H0 := H.drew
  refine Drawn.startEx (fun i => i == 11) H (by kernel_rfl) ?_
  clear H
  refine Drawn.take 0 (some 8) (v := ?_) rfl rfl (by kernel_rfl) (by kernel_rfl) (by kernel_rfl) (by kernel_rfl) (by kernel_rfl) rfl (fun _ _ _ h => h) (Or.inl ⟨rfl, ?_⟩) H0 ?_
  rotate_left
  · intro W hW; have hW := HS.out W hW; go_simp; try with_reducible rfl
  simp only [put_list, List.set]
  refine Drawn.take 2 (some 10) (v := ?_) rfl rfl (by kernel_rfl) (by kernel_rfl) (by kernel_rfl) (by kernel_rfl) (by kernel_rfl) rfl (fun _ _ _ h => h) (Or.inl ⟨rfl, ?_⟩) H0 ?_
  rotate_left
  · intro W hW; have hW := HS.out W hW; go_simp; try with_reducible rfl
  simp only [put_list, List.set]
  have H1 := H0
  clear H0
  generalize World.drew _ = W0 at H1 ⊢
  refine Drawn.among [1, 8, 9] (by kernel_rfl) (by decide) ?_
  intro i hi
  simp only [List.mem_cons, List.not_mem_nil, or_false] at hi
  rcases hi with rfl | rfl | rfl
  · refine ⟨_, rfl, rfl, fun K hK => ?_⟩
    go_simp
    refine (split_any _ _ _ _ _).mono ?_
    rintro e w1 ⟨rfl, hb⟩
    refine hK _ _ (fun _ _ => H1.call hb) ?_
    replace H1 := H1.call hb
    clear hK K hb
    refine Drawn.among [3, 8, 9] (by kernel_rfl) (by decide) ?_
    intro i hi
    simp only [List.mem_cons, List.not_mem_nil, or_false] at hi
    rcases hi with rfl | rfl | rfl
    · refine ⟨_, rfl, rfl, fun K hK => ?_⟩
      go_simp
      refine (split_any _ _ _ _ _).mono ?_
      rintro e w2 ⟨rfl, hb⟩
      refine hK _ _ (fun _ _ => H1.call hb) ?_
      replace H1 := H1.call hb
      clear hK K hb
      refine Drawn.among [4, 8, 9] (by kernel_rfl) (by decide) ?_
      intro i hi
      simp only [List.mem_cons, List.not_mem_nil, or_false] at hi
      rcases hi with rfl | rfl | rfl
      · refine ⟨_, rfl, rfl, fun K hK => ?_⟩
        go_simp
        refine (D.out _).mono ?_
        rintro e w3 ⟨q0, q1, q2, q3, r0, r1, r2, r3, rfl, hq, hr, hb⟩
        have HQ := Lib.hid hq; have HR := Lib.hid hr; clear hq hr
        refine hK _ _ (fun _ _ => H1.call hb) ?_
        replace H1 := H1.call hb
        clear hK K hb
        refine Drawn.take 5 (some 7) (v := ?_) rfl rfl (by kernel_rfl) (by kernel_rfl) (by kernel_rfl) (by kernel_rfl) (by kernel_rfl) rfl (fun _ _ _ h => h) (Or.inl ⟨rfl, ?_⟩) H1 ?_
        rotate_left
        · intro W hW; have hW := HS.out W hW; go_simp; try with_reducible rfl
        simp only [put_list, List.set]
        refine Drawn.take 6 (some 13) (v := ?_) rfl rfl (by kernel_rfl) (by kernel_rfl) (by kernel_rfl) (by kernel_rfl) (by kernel_rfl) rfl (fun _ _ _ h => h) (Or.inl ⟨rfl, ?_⟩) H1 ?_
        rotate_left
        · intro W hW; have hW := HS.out W hW; go_simp; try with_reducible rfl
        simp only [put_list, List.set]
        refine Drawn.take 7 (some 14) (v := ?_) rfl rfl (by kernel_rfl) (by kernel_rfl) (by kernel_rfl) (by kernel_rfl) (by kernel_rfl) rfl (fun _ _ _ h => h) (Or.inl ⟨rfl, ?_⟩) H1 ?_
        rotate_left
        · intro W hW; have hW := HS.out W hW; go_simp; try with_reducible rfl
        simp only [put_list, List.set]
        refine Drawn.among [8, 9] (by kernel_rfl) (by decide) ?_
        intro i hi
        simp only [List.mem_cons, List.not_mem_nil, or_false] at hi
        rcases hi with rfl | rfl
        · refine ⟨_, rfl, rfl, fun K hK => ?_⟩
          go_simp
          refine hK _ _ (fun _ _ => H1.alloc _) ?_
          clear hK K
          have h5 : New4 (w.heap.size + 1 + 1 + 1) (.int .u64 0) (.int .u64 0) (.int .u64 0) (.int .u64 0) 45 _ _ := New4.here _ H1.size
          replace H1 := H1.alloc (.cells #[.int .u64 0, .int .u64 0, .int .u64 0, .int .u64 0] 45)
          generalize World.alloc _ _ = V1 at H1 h5 ⊢
          refine Drawn.only 9 (by kernel_rfl) rfl rfl (fun K hK => ?_)
          go_simp
          refine hK _ _ (fun _ _ => H1.alloc _) ?_
          clear hK K
          have h6 : New4 (w.heap.size + 1 + 1 + 1) (.int .u64 0) (.int .u64 0) (.int .u64 0) (.int .u64 0) 45 _ _ := New4.here _ H1.size
          have nh6h5 := h5.2.1
          replace h5 := h5.past (.cells #[.int .u64 0, .int .u64 0, .int .u64 0, .int .u64 0] 45)
          replace H1 := H1.alloc (.cells #[.int .u64 0, .int .u64 0, .int .u64 0, .int .u64 0] 45)
          generalize World.alloc _ _ = V2 at H1 h6 h5 ⊢
          obtain ⟨⟨c0, c1, c2, c3⟩, g0, g1, g2, g3⟩ := h5.cells
          refine Drawn.only 10 (by kernel_rfl) rfl rfl (fun K hK => ?_)
          go_simp
          refine hK _ _ (fun _ _ => H1.set4 h5.ge _ _ _ _) ?_
          clear hK K c0 c1 c2 c3 g0 g1 g2 g3
          have k5 := heap_set4 h5.1 (.int .u64 q0) (.int .u64 q1) (.int .u64 q2) (.int .u64 q3)
          replace h6 := h6.other h5 (by omega) (.int .u64 q0) (.int .u64 q1) (.int .u64 q2) (.int .u64 q3)
          replace H1 := H1.set4 h5.ge (.int .u64 q0) (.int .u64 q1) (.int .u64 q2) (.int .u64 q3)
          obtain ⟨⟨c0, c1, c2, c3⟩, g0, g1, g2, g3⟩ := h6.cells
          refine Drawn.only 11 (by kernel_rfl) rfl rfl (fun K hK => ?_)
          go_simp
          refine hK _ _ (fun h => by simp at h) ?_
          exact Drawn.done (by kernel_rfl) (hK' _ _ (Met.intro (hJ _ _ ⟨_, _, q0, q1, q2, q3, r0, r1, r2, r3, rfl, HQ.out, HR.out, H1.set4 h6.ge _ _ _ _, (heap_far (by omega) _ _ _ _).trans k5, heap_set4 h6.1 _ _ _ _⟩))) _
        · refine ⟨_, rfl, rfl, fun K hK => ?_⟩
          go_simp
          refine hK _ _ (fun _ _ => H1.alloc _) ?_
          clear hK K
          have h6 : New4 (w.heap.size + 1 + 1 + 1) (.int .u64 0) (.int .u64 0) (.int .u64 0) (.int .u64 0) 45 _ _ := New4.here _ H1.size
          replace H1 := H1.alloc (.cells #[.int .u64 0, .int .u64 0, .int .u64 0, .int .u64 0] 45)
          generalize World.alloc _ _ = V3 at H1 h6 ⊢
          refine Drawn.only 8 (by kernel_rfl) rfl rfl (fun K hK => ?_)
          go_simp
          refine hK _ _ (fun _ _ => H1.alloc _) ?_
          clear hK K
          have h5 : New4 (w.heap.size + 1 + 1 + 1) (.int .u64 0) (.int .u64 0) (.int .u64 0) (.int .u64 0) 45 _ _ := New4.here _ H1.size
          have nh5h6 := h6.2.1
          replace h6 := h6.past (.cells #[.int .u64 0, .int .u64 0, .int .u64 0, .int .u64 0] 45)
          replace H1 := H1.alloc (.cells #[.int .u64 0, .int .u64 0, .int .u64 0, .int .u64 0] 45)
          generalize World.alloc _ _ = V4 at H1 h5 h6 ⊢
          obtain ⟨⟨c0, c1, c2, c3⟩, g0, g1, g2, g3⟩ := h5.cells
          refine Drawn.only 10 (by kernel_rfl) rfl rfl (fun K hK => ?_)
          go_simp
          refine hK _ _ (fun _ _ => H1.set4 h5.ge _ _ _ _) ?_
          clear hK K c0 c1 c2 c3 g0 g1 g2 g3
          have k5 := heap_set4 h5.1 (.int .u64 q0) (.int .u64 q1) (.int .u64 q2) (.int .u64 q3)
          replace h6 := h6.other h5 (by omega) (.int .u64 q0) (.int .u64 q1) (.int .u64 q2) (.int .u64 q3)
          replace H1 := H1.set4 h5.ge (.int .u64 q0) (.int .u64 q1) (.int .u64 q2) (.int .u64 q3)
          obtain ⟨⟨c0, c1, c2, c3⟩, g0, g1, g2, g3⟩ := h6.cells
          refine Drawn.only 11 (by kernel_rfl) rfl rfl (fun K hK => ?_)
          go_simp
          refine hK _ _ (fun h => by simp at h) ?_
          exact Drawn.done (by kernel_rfl) (hK' _ _ (Met.intro (hJ _ _ ⟨_, _, q0, q1, q2, q3, r0, r1, r2, r3, rfl, HQ.out, HR.out, H1.set4 h6.ge _ _ _ _, (heap_far (by omega) _ _ _ _).trans k5, heap_set4 h6.1 _ _ _ _⟩))) _
      · refine ⟨_, rfl, rfl, fun K hK => ?_⟩
        go_simp
        refine hK _ _ (fun _ _ => H1.alloc _) ?_
        clear hK K
        have h5 : New4 (w.heap.size + 1 + 1 + 1) (.int .u64 0) (.int .u64 0) (.int .u64 0) (.int .u64 0) 45 _ _ := New4.here _ H1.size
        replace H1 := H1.alloc (.cells #[.int .u64 0, .int .u64 0, .int .u64 0, .int .u64 0] 45)
        generalize World.alloc _ _ = V5 at H1 h5 ⊢
        refine Drawn.among [4, 9] (by kernel_rfl) (by decide) ?_
        intro i hi
        simp only [List.mem_cons, List.not_mem_nil, or_false] at hi
        rcases hi with rfl | rfl
        · refine ⟨_, rfl, rfl, fun K hK => ?_⟩
          go_simp
          refine (D.out _).mono ?_
          rintro e w3 ⟨q0, q1, q2, q3, r0, r1, r2, r3, rfl, hq, hr, hb⟩
          have HQ := Lib.hid hq; have HR := Lib.hid hr; clear hq hr
          refine hK _ _ (fun _ _ => H1.call hb) ?_
          replace h5 := carry4 hb h5
          replace H1 := H1.call hb
          clear hK K hb
          refine Drawn.take 5 (some 7) (v := ?_) rfl rfl (by kernel_rfl) (by kernel_rfl) (by kernel_rfl) (by kernel_rfl) (by kernel_rfl) rfl (fun _ _ _ h => h) (Or.inl ⟨rfl, ?_⟩) H1 ?_
          rotate_left
          · intro W hW; have hW := HS.out W hW; go_simp; try with_reducible rfl
          simp only [put_list, List.set]
          refine Drawn.take 6 (some 13) (v := ?_) rfl rfl (by kernel_rfl) (by kernel_rfl) (by kernel_rfl) (by kernel_rfl) (by kernel_rfl) rfl (fun _ _ _ h => h) (Or.inl ⟨rfl, ?_⟩) H1 ?_
          rotate_left
          · intro W hW; have hW := HS.out W hW; go_simp; try with_reducible rfl
          simp only [put_list, List.set]
          refine Drawn.take 7 (some 14) (v := ?_) rfl rfl (by kernel_rfl) (by kernel_rfl) (by kernel_rfl) (by kernel_rfl) (by kernel_rfl) rfl (fun _ _ _ h => h) (Or.inl ⟨rfl, ?_⟩) H1 ?_
          rotate_left
          · intro W hW; have hW := HS.out W hW; go_simp; try with_reducible rfl
          simp only [put_list, List.set]
          refine Drawn.only 9 (by kernel_rfl) rfl rfl (fun K hK => ?_)
          go_simp
          refine hK _ _ (fun _ _ => H1.alloc _) ?_
          clear hK K
          have h6 : New4 (w.heap.size + 1 + 1 + 1) (.int .u64 0) (.int .u64 0) (.int .u64 0) (.int .u64 0) 45 _ _ := New4.here _ H1.size
          have nh6h5 := h5.2.1
          replace h5 := h5.past (.cells #[.int .u64 0, .int .u64 0, .int .u64 0, .int .u64 0] 45)
          replace H1 := H1.alloc (.cells #[.int .u64 0, .int .u64 0, .int .u64 0, .int .u64 0] 45)
          generalize World.alloc _ _ = V6 at H1 h6 h5 ⊢
          obtain ⟨⟨c0, c1, c2, c3⟩, g0, g1, g2, g3⟩ := h5.cells
          refine Drawn.only 10 (by kernel_rfl) rfl rfl (fun K hK => ?_)
          go_simp
          refine hK _ _ (fun _ _ => H1.set4 h5.ge _ _ _ _) ?_
          clear hK K c0 c1 c2 c3 g0 g1 g2 g3
          have k5 := heap_set4 h5.1 (.int .u64 q0) (.int .u64 q1) (.int .u64 q2) (.int .u64 q3)
          replace h6 := h6.other h5 (by omega) (.int .u64 q0) (.int .u64 q1) (.int .u64 q2) (.int .u64 q3)
          replace H1 := H1.set4 h5.ge (.int .u64 q0) (.int .u64 q1) (.int .u64 q2) (.int .u64 q3)
          obtain ⟨⟨c0, c1, c2, c3⟩, g0, g1, g2, g3⟩ := h6.cells
          refine Drawn.only 11 (by kernel_rfl) rfl rfl (fun K hK => ?_)
          go_simp
          refine hK _ _ (fun h => by simp at h) ?_
          exact Drawn.done (by kernel_rfl) (hK' _ _ (Met.intro (hJ _ _ ⟨_, _, q0, q1, q2, q3, r0, r1, r2, r3, rfl, HQ.out, HR.out, H1.set4 h6.ge _ _ _ _, (heap_far (by omega) _ _ _ _).trans k5, heap_set4 h6.1 _ _ _ _⟩))) _
        · refine ⟨_, rfl, rfl, fun K hK => ?_⟩
          go_simp
          refine hK _ _ (fun _ _ => H1.alloc _) ?_
          clear hK K
          have h6 : New4 (w.heap.size + 1 + 1 + 1) (.int .u64 0) (.int .u64 0) (.int .u64 0) (.int .u64 0) 45 _ _ := New4.here _ H1.size
          have nh6h5 := h5.2.1
          replace h5 := h5.past (.cells #[.int .u64 0, .int .u64 0, .int .u64 0, .int .u64 0] 45)
          replace H1 := H1.alloc (.cells #[.int .u64 0, .int .u64 0, .int .u64 0, .int .u64 0] 45)
          generalize World.alloc _ _ = V7 at H1 h6 h5 ⊢
          refine Drawn.only 4 (by kernel_rfl) rfl rfl (fun K hK => ?_)
          go_simp
          refine (D.out _).mono ?_
          rintro e w3 ⟨q0, q1, q2, q3, r0, r1, r2, r3, rfl, hq, hr, hb⟩
          have HQ := Lib.hid hq; have HR := Lib.hid hr; clear hq hr
          refine hK _ _ (fun _ _ => H1.call hb) ?_
          replace h5 := carry4 hb h5
          replace h6 := carry4 hb h6
          replace H1 := H1.call hb
          clear hK K hb
          refine Drawn.take 5 (some 7) (v := ?_) rfl rfl (by kernel_rfl) (by kernel_rfl) (by kernel_rfl) (by kernel_rfl) (by kernel_rfl) rfl (fun _ _ _ h => h) (Or.inl ⟨rfl, ?_⟩) H1 ?_
          rotate_left
          · intro W hW; have hW := HS.out W hW; go_simp; try with_reducible rfl
          simp only [put_list, List.set]
          refine Drawn.take 6 (some 13) (v := ?_) rfl rfl (by kernel_rfl) (by kernel_rfl) (by kernel_rfl) (by kernel_rfl) (by kernel_rfl) rfl (fun _ _ _ h => h) (Or.inl ⟨rfl, ?_⟩) H1 ?_
          rotate_left
          · intro W hW; have hW := HS.out W hW; go_simp; try with_reducible rfl
          simp only [put_list, List.set]
          refine Drawn.take 7 (some 14) (v := ?_) rfl rfl (by kernel_rfl) (by kernel_rfl) (by kernel_rfl) (by kernel_rfl) (by kernel_rfl) rfl (fun _ _ _ h => h) (Or.inl ⟨rfl, ?_⟩) H1 ?_
          rotate_left
          · intro W hW; have hW := HS.out W hW; go_simp; try with_reducible rfl
          simp only [put_list, List.set]
          obtain ⟨⟨c0, c1, c2, c3⟩, g0, g1, g2, g3⟩ := h5.cells
          refine Drawn.only 10 (by kernel_rfl) rfl rfl (fun K hK => ?_)
          go_simp
          refine hK _ _ (fun _ _ => H1.set4 h5.ge _ _ _ _) ?_
          clear hK K c0 c1 c2 c3 g0 g1 g2 g3
          have k5 := heap_set4 h5.1 (.int .u64 q0) (.int .u64 q1) (.int .u64 q2) (.int .u64 q3)
          replace h6 := h6.other h5 (by omega) (.int .u64 q0) (.int .u64 q1) (.int .u64 q2) (.int .u64 q3)
          replace H1 := H1.set4 h5.ge (.int .u64 q0) (.int .u64 q1) (.int .u64 q2) (.int .u64 q3)
          obtain ⟨⟨c0, c1, c2, c3⟩, g0, g1, g2, g3⟩ := h6.cells
          refine Drawn.only 11 (by kernel_rfl) rfl rfl (fun K hK => ?_)
          go_simp
          refine hK _ _ (fun h => by simp at h) ?_
          exact Drawn.done (by kernel_rfl) (hK' _ _ (Met.intro (hJ _ _ ⟨_, _, q0, q1, q2, q3, r0, r1, r2, r3, rfl, HQ.out, HR.out, H1.set4 h6.ge _ _ _ _, (heap_far (by omega) _ _ _ _).trans k5, heap_set4 h6.1 _ _ _ _⟩))) _
      · refine ⟨_, rfl, rfl, fun K hK => ?_⟩
        go_simp
        refine hK _ _ (fun _ _ => H1.alloc _) ?_
        clear hK K
        have h6 : New4 (w.heap.size + 1 + 1 + 1) (.int .u64 0) (.int .u64 0) (.int .u64 0) (.int .u64 0) 45 _ _ := New4.here _ H1.size
        replace H1 := H1.alloc (.cells #[.int .u64 0, .int .u64 0, .int .u64 0, .int .u64 0] 45)
        generalize World.alloc _ _ = V8 at H1 h6 ⊢
        refine Drawn.among [4, 8] (by kernel_rfl) (by decide) ?_
        intro i hi
        simp only [List.mem_cons, List.not_mem_nil, or_false] at hi
        rcases hi with rfl | rfl
        · refine ⟨_, rfl, rfl, fun K hK => ?_⟩
          go_simp
          refine (D.out _).mono ?_
          rintro e w3 ⟨q0, q1, q2, q3, r0, r1, r2, r3, rfl, hq, hr, hb⟩
          have HQ := Lib.hid hq; have HR := Lib.hid hr; clear hq hr
          refine hK _ _ (fun _ _ => H1.call hb) ?_
          replace h6 := carry4 hb h6
          replace H1 := H1.call hb
          clear hK K hb
          refine Drawn.take 5 (some 7) (v := ?_) rfl rfl (by kernel_rfl) (by kernel_rfl) (by kernel_rfl) (by kernel_rfl) (by kernel_rfl) rfl (fun _ _ _ h => h) (Or.inl ⟨rfl, ?_⟩) H1 ?_
          rotate_left
          · intro W hW; have hW := HS.out W hW; go_simp; try with_reducible rfl
          simp only [put_list, List.set]
          refine Drawn.take 6 (some 13) (v := ?_) rfl rfl (by kernel_rfl) (by kernel_rfl) (by kernel_rfl) (by kernel_rfl) (by kernel_rfl) rfl (fun _ _ _ h => h) (Or.inl ⟨rfl, ?_⟩) H1 ?_
          rotate_left
          · intro W hW; have hW := HS.out W hW; go_simp; try with_reducible rfl
          simp only [put_list, List.set]
          refine Drawn.take 7 (some 14) (v := ?_) rfl rfl (by kernel_rfl) (by kernel_rfl) (by kernel_rfl) (by kernel_rfl) (by kernel_rfl) rfl (fun _ _ _ h => h) (Or.inl ⟨rfl, ?_⟩) H1 ?_
          rotate_left
          · intro W hW; have hW := HS.out W hW; go_simp; try with_reducible rfl
          simp only [put_list, List.set]
          refine Drawn.only 8 (by kernel_rfl) rfl rfl (fun K hK => ?_)
          go_simp
          refine hK _ _ (fun _ _ => H1.alloc _) ?_
          clear hK K
          have h5 : New4 (w.heap.size + 1 + 1 + 1) (.int .u64 0) (.int .u64 0) (.int .u64 0) (.int .u64 0) 45 _ _ := New4.here _ H1.size
          have nh5h6 := h6.2.1
          replace h6 := h6.past (.cells #[.int .u64 0, .int .u64 0, .int .u64 0, .int .u64 0] 45)
          replace H1 := H1.alloc (.cells #[.int .u64 0, .int .u64 0, .int .u64 0, .int .u64 0] 45)
          generalize World.alloc _ _ = V9 at H1 h5 h6 ⊢
          obtain ⟨⟨c0, c1, c2, c3⟩, g0, g1, g2, g3⟩ := h5.cells
          refine Drawn.only 10 (by kernel_rfl) rfl rfl (fun K hK => ?_)
          go_simp
          refine hK _ _ (fun _ _ => H1.set4 h5.ge _ _ _ _) ?_
          clear hK K c0 c1 c2 c3 g0 g1 g2 g3
          have k5 := heap_set4 h5.1 (.int .u64 q0) (.int .u64 q1) (.int .u64 q2) (.int .u64 q3)
          replace h6 := h6.other h5 (by omega) (.int .u64 q0) (.int .u64 q1) (.int .u64 q2) (.int .u64 q3)
          replace H1 := H1.set4 h5.ge (.int .u64 q0) (.int .u64 q1) (.int .u64 q2) (.int .u64 q3)
          obtain ⟨⟨c0, c1, c2, c3⟩, g0, g1, g2, g3⟩ := h6.cells
          refine Drawn.only 11 (by kernel_rfl) rfl rfl (fun K hK => ?_)
          go_simp
          refine hK _ _ (fun h => by simp at h) ?_
          exact Drawn.done (by kernel_rfl) (hK' _ _ (Met.intro (hJ _ _ ⟨_, _, q0, q1, q2, q3, r0, r1, r2, r3, rfl, HQ.out, HR.out, H1.set4 h6.ge _ _ _ _, (heap_far (by omega) _ _ _ _).trans k5, heap_set4 h6.1 _ _ _ _⟩))) _
        · refine ⟨_, rfl, rfl, fun K hK => ?_⟩
          go_simp
          refine hK _ _ (fun _ _ => H1.alloc _) ?_
          clear hK K
          have h5 : New4 (w.heap.size + 1 + 1 + 1) (.int .u64 0) (.int .u64 0) (.int .u64 0) (.int .u64 0) 45 _ _ := New4.here _ H1.size
          have nh5h6 := h6.2.1
          replace h6 := h6.past (.cells #[.int .u64 0, .int .u64 0, .int .u64 0, .int .u64 0] 45)
          replace H1 := H1.alloc (.cells #[.int .u64 0, .int .u64 0, .int .u64 0, .int .u64 0] 45)
          generalize World.alloc _ _ = V10 at H1 h5 h6 ⊢
          refine Drawn.only 4 (by kernel_rfl) rfl rfl (fun K hK => ?_)
          go_simp
          refine (D.out _).mono ?_
          rintro e w3 ⟨q0, q1, q2, q3, r0, r1, r2, r3, rfl, hq, hr, hb⟩
          have HQ := Lib.hid hq; have HR := Lib.hid hr; clear hq hr
          refine hK _ _ (fun _ _ => H1.call hb) ?_
          replace h5 := carry4 hb h5
          replace h6 := carry4 hb h6
          replace H1 := H1.call hb
          clear hK K hb
          refine Drawn.take 5 (some 7) (v := ?_) rfl rfl (by kernel_rfl) (by kernel_rfl) (by kernel_rfl) (by kernel_rfl) (by kernel_rfl) rfl (fun _ _ _ h => h) (Or.inl ⟨rfl, ?_⟩) H1 ?_
          rotate_left
          · intro W hW; have hW := HS.out W hW; go_simp; try with_reducible rfl
          simp only [put_list, List.set]
          refine Drawn.take 6 (some 13) (v := ?_) rfl rfl (by kernel_rfl) (by kernel_rfl) (by kernel_rfl) (by kernel_rfl) (by kernel_rfl) rfl (fun _ _ _ h => h) (Or.inl ⟨rfl, ?_⟩) H1 ?_
          rotate_left
          · intro W hW; have hW := HS.out W hW; go_simp; try with_reducible rfl
          simp only [put_list, List.set]
          refine Drawn.take 7 (some 14) (v := ?_) rfl rfl (by kernel_rfl) (by kernel_rfl) (by kernel_rfl) (by kernel_rfl) (by kernel_rfl) rfl (fun _ _ _ h => h) (Or.inl ⟨rfl, ?_⟩) H1 ?_
          rotate_left
          · intro W hW; have hW := HS.out W hW; go_simp; try with_reducible rfl
          simp only [put_list, List.set]
          obtain ⟨⟨c0, c1, c2, c3⟩, g0, g1, g2, g3⟩ := h5.cells
          refine Drawn.only 10 (by kernel_rfl) rfl rfl (fun K hK => ?_)
          go_simp
          refine hK _ _ (fun _ _ => H1.set4 h5.ge _ _ _ _) ?_
          clear hK K c0 c1 c2 c3 g0 g1 g2 g3
          have k5 := heap_set4 h5.1 (.int .u64 q0) (.int .u64 q1) (.int .u64 q2) (.int .u64 q3)
          replace h6 := h6.other h5 (by omega) (.int .u64 q0) (.int .u64 q1) (.int .u64 q2) (.int .u64 q3)
          replace H1 := H1.set4 h5.ge (.int .u64 q0) (.int .u64 q1) (.int .u64 q2) (.int .u64 q3)
          obtain ⟨⟨c0, c1, c2, c3⟩, g0, g1, g2, g3⟩ := h6.cells
          refine Drawn.only 11 (by kernel_rfl) rfl rfl (fun K hK => ?_)
          go_simp
          refine hK _ _ (fun h => by simp at h) ?_
          exact Drawn.done (by kernel_rfl) (hK' _ _ (Met.intro (hJ _ _ ⟨_, _, q0, q1, q2, q3, r0, r1, r2, r3, rfl, HQ.out, HR.out, H1.set4 h6.ge _ _ _ _, (heap_far (by omega) _ _ _ _).trans k5, heap_set4 h6.1 _ _ _ _⟩))) _
    · refine ⟨_, rfl, rfl, fun K hK => ?_⟩
      go_simp
      refine hK _ _ (fun _ _ => H1.alloc _) ?_
      clear hK K
      have h5 : New4 (w.heap.size + 1 + 1 + 1) (.int .u64 0) (.int .u64 0) (.int .u64 0) (.int .u64 0) 45 _ _ := New4.here _ H1.size
      replace H1 := H1.alloc (.cells #[.int .u64 0, .int .u64 0, .int .u64 0, .int .u64 0] 45)
      generalize World.alloc _ _ = V11 at H1 h5 ⊢
      refine Drawn.among [3, 9] (by kernel_rfl) (by decide) ?_
      intro i hi
      simp only [List.mem_cons, List.not_mem_nil, or_false] at hi
      rcases hi with rfl | rfl
      · refine ⟨_, rfl, rfl, fun K hK => ?_⟩
        go_simp
        refine (split_any _ _ _ _ _).mono ?_
        rintro e w2 ⟨rfl, hb⟩
        refine hK _ _ (fun _ _ => H1.call hb) ?_
        replace h5 := carry4 hb h5
        replace H1 := H1.call hb
        clear hK K hb
        refine Drawn.among [4, 9] (by kernel_rfl) (by decide) ?_
        intro i hi
        simp only [List.mem_cons, List.not_mem_nil, or_false] at hi
        rcases hi with rfl | rfl
        · refine ⟨_, rfl, rfl, fun K hK => ?_⟩
          go_simp
          refine (D.out _).mono ?_
          rintro e w3 ⟨q0, q1, q2, q3, r0, r1, r2, r3, rfl, hq, hr, hb⟩
          have HQ := Lib.hid hq; have HR := Lib.hid hr; clear hq hr
          refine hK _ _ (fun _ _ => H1.call hb) ?_
          replace h5 := carry4 hb h5
          replace H1 := H1.call hb
          clear hK K hb
          refine Drawn.take 5 (some 7) (v := ?_) rfl rfl (by kernel_rfl) (by kernel_rfl) (by kernel_rfl) (by kernel_rfl) (by kernel_rfl) rfl (fun _ _ _ h => h) (Or.inl ⟨rfl, ?_⟩) H1 ?_
          rotate_left
          · intro W hW; have hW := HS.out W hW; go_simp; try with_reducible rfl
          simp only [put_list, List.set]
          refine Drawn.take 6 (some 13) (v := ?_) rfl rfl (by kernel_rfl) (by kernel_rfl) (by kernel_rfl) (by kernel_rfl) (by kernel_rfl) rfl (fun _ _ _ h => h) (Or.inl ⟨rfl, ?_⟩) H1 ?_
          rotate_left
          · intro W hW; have hW := HS.out W hW; go_simp; try with_reducible rfl
          simp only [put_list, List.set]
          refine Drawn.take 7 (some 14) (v := ?_) rfl rfl (by kernel_rfl) (by kernel_rfl) (by kernel_rfl) (by kernel_rfl) (by kernel_rfl) rfl (fun _ _ _ h => h) (Or.inl ⟨rfl, ?_⟩) H1 ?_
          rotate_left
          · intro W hW; have hW := HS.out W hW; go_simp; try with_reducible rfl
          simp only [put_list, List.set]
          refine Drawn.only 9 (by kernel_rfl) rfl rfl (fun K hK => ?_)
          go_simp
          refine hK _ _ (fun _ _ => H1.alloc _) ?_
          clear hK K
          have h6 : New4 (w.heap.size + 1 + 1 + 1) (.int .u64 0) (.int .u64 0) (.int .u64 0) (.int .u64 0) 45 _ _ := New4.here _ H1.size
          have nh6h5 := h5.2.1
          replace h5 := h5.past (.cells #[.int .u64 0, .int .u64 0, .int .u64 0, .int .u64 0] 45)
          replace H1 := H1.alloc (.cells #[.int .u64 0, .int .u64 0, .int .u64 0, .int .u64 0] 45)
          generalize World.alloc _ _ = V12 at H1 h6 h5 ⊢
          obtain ⟨⟨c0, c1, c2, c3⟩, g0, g1, g2, g3⟩ := h5.cells
          refine Drawn.only 10 (by kernel_rfl) rfl rfl (fun K hK => ?_)
          go_simp
          refine hK _ _ (fun _ _ => H1.set4 h5.ge _ _ _ _) ?_
          clear hK K c0 c1 c2 c3 g0 g1 g2 g3
          have k5 := heap_set4 h5.1 (.int .u64 q0) (.int .u64 q1) (.int .u64 q2) (.int .u64 q3)
          replace h6 := h6.other h5 (by omega) (.int .u64 q0) (.int .u64 q1) (.int .u64 q2) (.int .u64 q3)
          replace H1 := H1.set4 h5.ge (.int .u64 q0) (.int .u64 q1) (.int .u64 q2) (.int .u64 q3)
          obtain ⟨⟨c0, c1, c2, c3⟩, g0, g1, g2, g3⟩ := h6.cells
          refine Drawn.only 11 (by kernel_rfl) rfl rfl (fun K hK => ?_)
          go_simp
          refine hK _ _ (fun h => by simp at h) ?_
          exact Drawn.done (by kernel_rfl) (hK' _ _ (Met.intro (hJ _ _ ⟨_, _, q0, q1, q2, q3, r0, r1, r2, r3, rfl, HQ.out, HR.out, H1.set4 h6.ge _ _ _ _, (heap_far (by omega) _ _ _ _).trans k5, heap_set4 h6.1 _ _ _ _⟩))) _
        · refine ⟨_, rfl, rfl, fun K hK => ?_⟩
          go_simp
          refine hK _ _ (fun _ _ => H1.alloc _) ?_
          clear hK K
          have h6 : New4 (w.heap.size + 1 + 1 + 1) (.int .u64 0) (.int .u64 0) (.int .u64 0) (.int .u64 0) 45 _ _ := New4.here _ H1.size
          have nh6h5 := h5.2.1
          replace h5 := h5.past (.cells #[.int .u64 0, .int .u64 0, .int .u64 0, .int .u64 0] 45)
          replace H1 := H1.alloc (.cells #[.int .u64 0, .int .u64 0, .int .u64 0, .int .u64 0] 45)
          generalize World.alloc _ _ = V13 at H1 h6 h5 ⊢
          refine Drawn.only 4 (by kernel_rfl) rfl rfl (fun K hK => ?_)
          go_simp
          refine (D.out _).mono ?_
          rintro e w3 ⟨q0, q1, q2, q3, r0, r1, r2, r3, rfl, hq, hr, hb⟩
          have HQ := Lib.hid hq; have HR := Lib.hid hr; clear hq hr
          refine hK _ _ (fun _ _ => H1.call hb) ?_
          replace h5 := carry4 hb h5
          replace h6 := carry4 hb h6
          replace H1 := H1.call hb
          clear hK K hb
          refine Drawn.take 5 (some 7) (v := ?_) rfl rfl (by kernel_rfl) (by kernel_rfl) (by kernel_rfl) (by kernel_rfl) (by kernel_rfl) rfl (fun _ _ _ h => h) (Or.inl ⟨rfl, ?_⟩) H1 ?_
          rotate_left
          · intro W hW; have hW := HS.out W hW; go_simp; try with_reducible rfl
          simp only [put_list, List.set]
          refine Drawn.take 6 (some 13) (v := ?_) rfl rfl (by kernel_rfl) (by kernel_rfl) (by kernel_rfl) (by kernel_rfl) (by kernel_rfl) rfl (fun _ _ _ h => h) (Or.inl ⟨rfl, ?_⟩) H1 ?_
          rotate_left
          · intro W hW; have hW := HS.out W hW; go_simp; try with_reducible rfl
          simp only [put_list, List.set]
          refine Drawn.take 7 (some 14) (v := ?_) rfl rfl (by kernel_rfl) (by kernel_rfl) (by kernel_rfl) (by kernel_rfl) (by kernel_rfl) rfl (fun _ _ _ h => h) (Or.inl ⟨rfl, ?_⟩) H1 ?_
          rotate_left
          · intro W hW; have hW := HS.out W hW; go_simp; try with_reducible rfl
          simp only [put_list, List.set]
          obtain ⟨⟨c0, c1, c2, c3⟩, g0, g1, g2, g3⟩ := h5.cells
          refine Drawn.only 10 (by kernel_rfl) rfl rfl (fun K hK => ?_)
          go_simp
          refine hK _ _ (fun _ _ => H1.set4 h5.ge _ _ _ _) ?_
          clear hK K c0 c1 c2 c3 g0 g1 g2 g3
          have k5 := heap_set4 h5.1 (.int .u64 q0) (.int .u64 q1) (.int .u64 q2) (.int .u64 q3)
          replace h6 := h6.other h5 (by omega) (.int .u64 q0) (.int .u64 q1) (.int .u64 q2) (.int .u64 q3)
          replace H1 := H1.set4 h5.ge (.int .u64 q0) (.int .u64 q1) (.int .u64 q2) (.int .u64 q3)
          obtain ⟨⟨c0, c1, c2, c3⟩, g0, g1, g2, g3⟩ := h6.cells
          refine Drawn.only 11 (by kernel_rfl) rfl rfl (fun K hK => ?_)
          go_simp
          refine hK _ _ (fun h => by simp at h) ?_
          exact Drawn.done (by kernel_rfl) (hK' _ _ (Met.intro (hJ _ _ ⟨_, _, q0, q1, q2, q3, r0, r1, r2, r3, rfl, HQ.out, HR.out, H1.set4 h6.ge _ _ _ _, (heap_far (by omega) _ _ _ _).trans k5, heap_set4 h6.1 _ _ _ _⟩))) _
      · refine ⟨_, rfl, rfl, fun K hK => ?_⟩
        go_simp
        refine hK _ _ (fun _ _ => H1.alloc _) ?_
        clear hK K
        have h6 : New4 (w.heap.size + 1 + 1 + 1) (.int .u64 0) (.int .u64 0) (.int .u64 0) (.int .u64 0) 45 _ _ := New4.here _ H1.size
        have nh6h5 := h5.2.1
        replace h5 := h5.past (.cells #[.int .u64 0, .int .u64 0, .int .u64 0, .int .u64 0] 45)
        replace H1 := H1.alloc (.cells #[.int .u64 0, .int .u64 0, .int .u64 0, .int .u64 0] 45)
        generalize World.alloc _ _ = V14 at H1 h6 h5 ⊢
        refine Drawn.only 3 (by kernel_rfl) rfl rfl (fun K hK => ?_)
        go_simp
        refine (split_any _ _ _ _ _).mono ?_
        rintro e w2 ⟨rfl, hb⟩
        refine hK _ _ (fun _ _ => H1.call hb) ?_
        replace h5 := carry4 hb h5
        replace h6 := carry4 hb h6
        replace H1 := H1.call hb
        clear hK K hb
        refine Drawn.only 4 (by kernel_rfl) rfl rfl (fun K hK => ?_)
        go_simp
        refine (D.out _).mono ?_
        rintro e w3 ⟨q0, q1, q2, q3, r0, r1, r2, r3, rfl, hq, hr, hb⟩
        have HQ := Lib.hid hq; have HR := Lib.hid hr; clear hq hr
        refine hK _ _ (fun _ _ => H1.call hb) ?_
        replace h5 := carry4 hb h5
        replace h6 := carry4 hb h6
        replace H1 := H1.call hb
        clear hK K hb
        refine Drawn.take 5 (some 7) (v := ?_) rfl rfl (by kernel_rfl) (by kernel_rfl) (by kernel_rfl) (by kernel_rfl) (by kernel_rfl) rfl (fun _ _ _ h => h) (Or.inl ⟨rfl, ?_⟩) H1 ?_
        rotate_left
        · intro W hW; have hW := HS.out W hW; go_simp; try with_reducible rfl
        simp only [put_list, List.set]
        refine Drawn.take 6 (some 13) (v := ?_) rfl rfl (by kernel_rfl) (by kernel_rfl) (by kernel_rfl) (by kernel_rfl) (by kernel_rfl) rfl (fun _ _ _ h => h) (Or.inl ⟨rfl, ?_⟩) H1 ?_
        rotate_left
        · intro W hW; have hW := HS.out W hW; go_simp; try with_reducible rfl
        simp only [put_list, List.set]
        refine Drawn.take 7 (some 14) (v := ?_) rfl rfl (by kernel_rfl) (by kernel_rfl) (by kernel_rfl) (by kernel_rfl) (by kernel_rfl) rfl (fun _ _ _ h => h) (Or.inl ⟨rfl, ?_⟩) H1 ?_
        rotate_left
        · intro W hW; have hW := HS.out W hW; go_simp; try with_reducible rfl
        simp only [put_list, List.set]
        obtain ⟨⟨c0, c1, c2, c3⟩, g0, g1, g2, g3⟩ := h5.cells
        refine Drawn.only 10 (by kernel_rfl) rfl rfl (fun K hK => ?_)
        go_simp
        refine hK _ _ (fun _ _ => H1.set4 h5.ge _ _ _ _) ?_
        clear hK K c0 c1 c2 c3 g0 g1 g2 g3
        have k5 := heap_set4 h5.1 (.int .u64 q0) (.int .u64 q1) (.int .u64 q2) (.int .u64 q3)
        replace h6 := h6.other h5 (by omega) (.int .u64 q0) (.int .u64 q1) (.int .u64 q2) (.int .u64 q3)
        replace H1 := H1.set4 h5.ge (.int .u64 q0) (.int .u64 q1) (.int .u64 q2) (.int .u64 q3)
        obtain ⟨⟨c0, c1, c2, c3⟩, g0, g1, g2, g3⟩ := h6.cells
        refine Drawn.only 11 (by kernel_rfl) rfl rfl (fun K hK => ?_)
        go_simp
        refine hK _ _ (fun h => by simp at h) ?_
        exact Drawn.done (by kernel_rfl) (hK' _ _ (Met.intro (hJ _ _ ⟨_, _, q0, q1, q2, q3, r0, r1, r2, r3, rfl, HQ.out, HR.out, H1.set4 h6.ge _ _ _ _, (heap_far (by omega) _ _ _ _).trans k5, heap_set4 h6.1 _ _ _ _⟩))) _
    · refine ⟨_, rfl, rfl, fun K hK => ?_⟩
      go_simp
      refine hK _ _ (fun _ _ => H1.alloc _) ?_
      clear hK K
      have h6 : New4 (w.heap.size + 1 + 1 + 1) (.int .u64 0) (.int .u64 0) (.int .u64 0) (.int .u64 0) 45 _ _ := New4.here _ H1.size
      replace H1 := H1.alloc (.cells #[.int .u64 0, .int .u64 0, .int .u64 0, .int .u64 0] 45)
      generalize World.alloc _ _ = V15 at H1 h6 ⊢
      refine Drawn.among [3, 8] (by kernel_rfl) (by decide) ?_
      intro i hi
      simp only [List.mem_cons, List.not_mem_nil, or_false] at hi
      rcases hi with rfl | rfl
      · refine ⟨_, rfl, rfl, fun K hK => ?_⟩
        go_simp
        refine (split_any _ _ _ _ _).mono ?_
        rintro e w2 ⟨rfl, hb⟩
        refine hK _ _ (fun _ _ => H1.call hb) ?_
        replace h6 := carry4 hb h6
        replace H1 := H1.call hb
        clear hK K hb
        refine Drawn.among [4, 8] (by kernel_rfl) (by decide) ?_
        intro i hi
        simp only [List.mem_cons, List.not_mem_nil, or_false] at hi
        rcases hi with rfl | rfl
        · refine ⟨_, rfl, rfl, fun K hK => ?_⟩
          go_simp
          refine (D.out _).mono ?_
          rintro e w3 ⟨q0, q1, q2, q3, r0, r1, r2, r3, rfl, hq, hr, hb⟩
          have HQ := Lib.hid hq; have HR := Lib.hid hr; clear hq hr
          refine hK _ _ (fun _ _ => H1.call hb) ?_
          replace h6 := carry4 hb h6
          replace H1 := H1.call hb
          clear hK K hb
          refine Drawn.take 5 (some 7) (v := ?_) rfl rfl (by kernel_rfl) (by kernel_rfl) (by kernel_rfl) (by kernel_rfl) (by kernel_rfl) rfl (fun _ _ _ h => h) (Or.inl ⟨rfl, ?_⟩) H1 ?_
          rotate_left
          · intro W hW; have hW := HS.out W hW; go_simp; try with_reducible rfl
          simp only [put_list, List.set]
          refine Drawn.take 6 (some 13) (v := ?_) rfl rfl (by kernel_rfl) (by kernel_rfl) (by kernel_rfl) (by kernel_rfl) (by kernel_rfl) rfl (fun _ _ _ h => h) (Or.inl ⟨rfl, ?_⟩) H1 ?_
          rotate_left
          · intro W hW; have hW := HS.out W hW; go_simp; try with_reducible rfl
          simp only [put_list, List.set]
          refine Drawn.take 7 (some 14) (v := ?_) rfl rfl (by kernel_rfl) (by kernel_rfl) (by kernel_rfl) (by kernel_rfl) (by kernel_rfl) rfl (fun _ _ _ h => h) (Or.inl ⟨rfl, ?_⟩) H1 ?_
          rotate_left
          · intro W hW; have hW := HS.out W hW; go_simp; try with_reducible rfl
          simp only [put_list, List.set]
          refine Drawn.only 8 (by kernel_rfl) rfl rfl (fun K hK => ?_)
          go_simp
          refine hK _ _ (fun _ _ => H1.alloc _) ?_
          clear hK K
          have h5 : New4 (w.heap.size + 1 + 1 + 1) (.int .u64 0) (.int .u64 0) (.int .u64 0) (.int .u64 0) 45 _ _ := New4.here _ H1.size
          have nh5h6 := h6.2.1
          replace h6 := h6.past (.cells #[.int .u64 0, .int .u64 0, .int .u64 0, .int .u64 0] 45)
          replace H1 := H1.alloc (.cells #[.int .u64 0, .int .u64 0, .int .u64 0, .int .u64 0] 45)
          generalize World.alloc _ _ = V16 at H1 h5 h6 ⊢
          obtain ⟨⟨c0, c1, c2, c3⟩, g0, g1, g2, g3⟩ := h5.cells
          refine Drawn.only 10 (by kernel_rfl) rfl rfl (fun K hK => ?_)
          go_simp
          refine hK _ _ (fun _ _ => H1.set4 h5.ge _ _ _ _) ?_
          clear hK K c0 c1 c2 c3 g0 g1 g2 g3
          have k5 := heap_set4 h5.1 (.int .u64 q0) (.int .u64 q1) (.int .u64 q2) (.int .u64 q3)
          replace h6 := h6.other h5 (by omega) (.int .u64 q0) (.int .u64 q1) (.int .u64 q2) (.int .u64 q3)
          replace H1 := H1.set4 h5.ge (.int .u64 q0) (.int .u64 q1) (.int .u64 q2) (.int .u64 q3)
          obtain ⟨⟨c0, c1, c2, c3⟩, g0, g1, g2, g3⟩ := h6.cells
          refine Drawn.only 11 (by kernel_rfl) rfl rfl (fun K hK => ?_)
          go_simp
          refine hK _ _ (fun h => by simp at h) ?_
          exact Drawn.done (by kernel_rfl) (hK' _ _ (Met.intro (hJ _ _ ⟨_, _, q0, q1, q2, q3, r0, r1, r2, r3, rfl, HQ.out, HR.out, H1.set4 h6.ge _ _ _ _, (heap_far (by omega) _ _ _ _).trans k5, heap_set4 h6.1 _ _ _ _⟩))) _
        · refine ⟨_, rfl, rfl, fun K hK => ?_⟩
          go_simp
          refine hK _ _ (fun _ _ => H1.alloc _) ?_
          clear hK K
          have h5 : New4 (w.heap.size + 1 + 1 + 1) (.int .u64 0) (.int .u64 0) (.int .u64 0) (.int .u64 0) 45 _ _ := New4.here _ H1.size
          have nh5h6 := h6.2.1
          replace h6 := h6.past (.cells #[.int .u64 0, .int .u64 0, .int .u64 0, .int .u64 0] 45)
          replace H1 := H1.alloc (.cells #[.int .u64 0, .int .u64 0, .int .u64 0, .int .u64 0] 45)
          generalize World.alloc _ _ = V17 at H1 h5 h6 ⊢
          refine Drawn.only 4 (by kernel_rfl) rfl rfl (fun K hK => ?_)
          go_simp
          refine (D.out _).mono ?_
          rintro e w3 ⟨q0, q1, q2, q3, r0, r1, r2, r3, rfl, hq, hr, hb⟩
          have HQ := Lib.hid hq; have HR := Lib.hid hr; clear hq hr
          refine hK _ _ (fun _ _ => H1.call hb) ?_
          replace h5 := carry4 hb h5
          replace h6 := carry4 hb h6
          replace H1 := H1.call hb
          clear hK K hb
          refine Drawn.take 5 (some 7) (v := ?_) rfl rfl (by kernel_rfl) (by kernel_rfl) (by kernel_rfl) (by kernel_rfl) (by kernel_rfl) rfl (fun _ _ _ h => h) (Or.inl ⟨rfl, ?_⟩) H1 ?_
          rotate_left
          · intro W hW; have hW := HS.out W hW; go_simp; try with_reducible rfl
          simp only [put_list, List.set]
          refine Drawn.take 6 (some 13) (v := ?_) rfl rfl (by kernel_rfl) (by kernel_rfl) (by kernel_rfl) (by kernel_rfl) (by kernel_rfl) rfl (fun _ _ _ h => h) (Or.inl ⟨rfl, ?_⟩) H1 ?_
          rotate_left
          · intro W hW; have hW := HS.out W hW; go_simp; try with_reducible rfl
          simp only [put_list, List.set]
          refine Drawn.take 7 (some 14) (v := ?_) rfl rfl (by kernel_rfl) (by kernel_rfl) (by kernel_rfl) (by kernel_rfl) (by kernel_rfl) rfl (fun _ _ _ h => h) (Or.inl ⟨rfl, ?_⟩) H1 ?_
          rotate_left
          · intro W hW; have hW := HS.out W hW; go_simp; try with_reducible rfl
          simp only [put_list, List.set]
          obtain ⟨⟨c0, c1, c2, c3⟩, g0, g1, g2, g3⟩ := h5.cells
          refine Drawn.only 10 (by kernel_rfl) rfl rfl (fun K hK => ?_)
          go_simp
          refine hK _ _ (fun _ _ => H1.set4 h5.ge _ _ _ _) ?_
          clear hK K c0 c1 c2 c3 g0 g1 g2 g3
          have k5 := heap_set4 h5.1 (.int .u64 q0) (.int .u64 q1) (.int .u64 q2) (.int .u64 q3)
          replace h6 := h6.other h5 (by omega) (.int .u64 q0) (.int .u64 q1) (.int .u64 q2) (.int .u64 q3)
          replace H1 := H1.set4 h5.ge (.int .u64 q0) (.int .u64 q1) (.int .u64 q2) (.int .u64 q3)
          obtain ⟨⟨c0, c1, c2, c3⟩, g0, g1, g2, g3⟩ := h6.cells
          refine Drawn.only 11 (by kernel_rfl) rfl rfl (fun K hK => ?_)
          go_simp
          refine hK _ _ (fun h => by simp at h) ?_
          exact Drawn.done (by kernel_rfl) (hK' _ _ (Met.intro (hJ _ _ ⟨_, _, q0, q1, q2, q3, r0, r1, r2, r3, rfl, HQ.out, HR.out, H1.set4 h6.ge _ _ _ _, (heap_far (by omega) _ _ _ _).trans k5, heap_set4 h6.1 _ _ _ _⟩))) _
      · refine ⟨_, rfl, rfl, fun K hK => ?_⟩
        go_simp
        refine hK _ _ (fun _ _ => H1.alloc _) ?_
        clear hK K
        have h5 : New4 (w.heap.size + 1 + 1 + 1) (.int .u64 0) (.int .u64 0) (.int .u64 0) (.int .u64 0) 45 _ _ := New4.here _ H1.size
        have nh5h6 := h6.2.1
        replace h6 := h6.past (.cells #[.int .u64 0, .int .u64 0, .int .u64 0, .int .u64 0] 45)
        replace H1 := H1.alloc (.cells #[.int .u64 0, .int .u64 0, .int .u64 0, .int .u64 0] 45)
        generalize World.alloc _ _ = V18 at H1 h5 h6 ⊢
        refine Drawn.only 3 (by kernel_rfl) rfl rfl (fun K hK => ?_)
        go_simp
        refine (split_any _ _ _ _ _).mono ?_
        rintro e w2 ⟨rfl, hb⟩
        refine hK _ _ (fun _ _ => H1.call hb) ?_
        replace h5 := carry4 hb h5
        replace h6 := carry4 hb h6
        replace H1 := H1.call hb
        clear hK K hb
        refine Drawn.only 4 (by kernel_rfl) rfl rfl (fun K hK => ?_)
        go_simp
        refine (D.out _).mono ?_
        rintro e w3 ⟨q0, q1, q2, q3, r0, r1, r2, r3, rfl, hq, hr, hb⟩
        have HQ := Lib.hid hq; have HR := Lib.hid hr; clear hq hr
        refine hK _ _ (fun _ _ => H1.call hb) ?_
        replace h5 := carry4 hb h5
        replace h6 := carry4 hb h6
        replace H1 := H1.call hb
        clear hK K hb
        refine Drawn.take 5 (some 7) (v := ?_) rfl rfl (by kernel_rfl) (by kernel_rfl) (by kernel_rfl) (by kernel_rfl) (by kernel_rfl) rfl (fun _ _ _ h => h) (Or.inl ⟨rfl, ?_⟩) H1 ?_
        rotate_left
        · intro W hW; have hW := HS.out W hW; go_simp; try with_reducible rfl
        simp only [put_list, List.set]
        refine Drawn.take 6 (some 13) (v := ?_) rfl rfl (by kernel_rfl) (by kernel_rfl) (by kernel_rfl) (by kernel_rfl) (by kernel_rfl) rfl (fun _ _ _ h => h) (Or.inl ⟨rfl, ?_⟩) H1 ?_
        rotate_left
        · intro W hW; have hW := HS.out W hW; go_simp; try with_reducible rfl
        simp only [put_list, List.set]
        refine Drawn.take 7 (some 14) (v := ?_) rfl rfl (by kernel_rfl) (by kernel_rfl) (by kernel_rfl) (by kernel_rfl) (by kernel_rfl) rfl (fun _ _ _ h => h) (Or.inl ⟨rfl, ?_⟩) H1 ?_
        rotate_left
        · intro W hW; have hW := HS.out W hW; go_simp; try with_reducible rfl
        simp only [put_list, List.set]
        obtain ⟨⟨c0, c1, c2, c3⟩, g0, g1, g2, g3⟩ := h5.cells
        refine Drawn.only 10 (by kernel_rfl) rfl rfl (fun K hK => ?_)
        go_simp
        refine hK _ _ (fun _ _ => H1.set4 h5.ge _ _ _ _) ?_
        clear hK K c0 c1 c2 c3 g0 g1 g2 g3
        have k5 := heap_set4 h5.1 (.int .u64 q0) (.int .u64 q1) (.int .u64 q2) (.int .u64 q3)
        replace h6 := h6.other h5 (by omega) (.int .u64 q0) (.int .u64 q1) (.int .u64 q2) (.int .u64 q3)
        replace H1 := H1.set4 h5.ge (.int .u64 q0) (.int .u64 q1) (.int .u64 q2) (.int .u64 q3)
        obtain ⟨⟨c0, c1, c2, c3⟩, g0, g1, g2, g3⟩ := h6.cells
        refine Drawn.only 11 (by kernel_rfl) rfl rfl (fun K hK => ?_)
        go_simp
        refine hK _ _ (fun h => by simp at h) ?_
        exact Drawn.done (by kernel_rfl) (hK' _ _ (Met.intro (hJ _ _ ⟨_, _, q0, q1, q2, q3, r0, r1, r2, r3, rfl, HQ.out, HR.out, H1.set4 h6.ge _ _ _ _, (heap_far (by omega) _ _ _ _).trans k5, heap_set4 h6.1 _ _ _ _⟩))) _
  · refine ⟨_, rfl, rfl, fun K hK => ?_⟩
    go_simp
    refine hK _ _ (fun _ _ => H1.alloc _) ?_
    clear hK K
    have h5 : New4 (w.heap.size + 1 + 1 + 1) (.int .u64 0) (.int .u64 0) (.int .u64 0) (.int .u64 0) 45 _ _ := New4.here _ H1.size
    replace H1 := H1.alloc (.cells #[.int .u64 0, .int .u64 0, .int .u64 0, .int .u64 0] 45)
    generalize World.alloc _ _ = V19 at H1 h5 ⊢
    refine Drawn.among [1, 9] (by kernel_rfl) (by decide) ?_
    intro i hi
    simp only [List.mem_cons, List.not_mem_nil, or_false] at hi
    rcases hi with rfl | rfl
    · refine ⟨_, rfl, rfl, fun K hK => ?_⟩
      go_simp
      refine (split_any _ _ _ _ _).mono ?_
      rintro e w1 ⟨rfl, hb⟩
      refine hK _ _ (fun _ _ => H1.call hb) ?_
      replace h5 := carry4 hb h5
      replace H1 := H1.call hb
      clear hK K hb
      refine Drawn.among [3, 9] (by kernel_rfl) (by decide) ?_
      intro i hi
      simp only [List.mem_cons, List.not_mem_nil, or_false] at hi
      rcases hi with rfl | rfl
      · refine ⟨_, rfl, rfl, fun K hK => ?_⟩
        go_simp
        refine (split_any _ _ _ _ _).mono ?_
        rintro e w2 ⟨rfl, hb⟩
        refine hK _ _ (fun _ _ => H1.call hb) ?_
        replace h5 := carry4 hb h5
        replace H1 := H1.call hb
        clear hK K hb
        refine Drawn.among [4, 9] (by kernel_rfl) (by decide) ?_
        intro i hi
        simp only [List.mem_cons, List.not_mem_nil, or_false] at hi
        rcases hi with rfl | rfl
        · refine ⟨_, rfl, rfl, fun K hK => ?_⟩
          go_simp
          refine (D.out _).mono ?_
          rintro e w3 ⟨q0, q1, q2, q3, r0, r1, r2, r3, rfl, hq, hr, hb⟩
          have HQ := Lib.hid hq; have HR := Lib.hid hr; clear hq hr
          refine hK _ _ (fun _ _ => H1.call hb) ?_
          replace h5 := carry4 hb h5
          replace H1 := H1.call hb
          clear hK K hb
          refine Drawn.take 5 (some 7) (v := ?_) rfl rfl (by kernel_rfl) (by kernel_rfl) (by kernel_rfl) (by kernel_rfl) (by kernel_rfl) rfl (fun _ _ _ h => h) (Or.inl ⟨rfl, ?_⟩) H1 ?_
          rotate_left
          · intro W hW; have hW := HS.out W hW; go_simp; try with_reducible rfl
          simp only [put_list, List.set]
          refine Drawn.take 6 (some 13) (v := ?_) rfl rfl (by kernel_rfl) (by kernel_rfl) (by kernel_rfl) (by kernel_rfl) (by kernel_rfl) rfl (fun _ _ _ h => h) (Or.inl ⟨rfl, ?_⟩) H1 ?_
          rotate_left
          · intro W hW; have hW := HS.out W hW; go_simp; try with_reducible rfl
          simp only [put_list, List.set]
          refine Drawn.take 7 (some 14) (v := ?_) rfl rfl (by kernel_rfl) (by kernel_rfl) (by kernel_rfl) (by kernel_rfl) (by kernel_rfl) rfl (fun _ _ _ h => h) (Or.inl ⟨rfl, ?_⟩) H1 ?_
          rotate_left
          · intro W hW; have hW := HS.out W hW; go_simp; try with_reducible rfl
          simp only [put_list, List.set]
          refine Drawn.only 9 (by kernel_rfl) rfl rfl (fun K hK => ?_)
          go_simp
          refine hK _ _ (fun _ _ => H1.alloc _) ?_
          clear hK K
          have h6 : New4 (w.heap.size + 1 + 1 + 1) (.int .u64 0) (.int .u64 0) (.int .u64 0) (.int .u64 0) 45 _ _ := New4.here _ H1.size
          have nh6h5 := h5.2.1
          replace h5 := h5.past (.cells #[.int .u64 0, .int .u64 0, .int .u64 0, .int .u64 0] 45)
          replace H1 := H1.alloc (.cells #[.int .u64 0, .int .u64 0, .int .u64 0, .int .u64 0] 45)
          generalize World.alloc _ _ = V20 at H1 h6 h5 ⊢
          obtain ⟨⟨c0, c1, c2, c3⟩, g0, g1, g2, g3⟩ := h5.cells
          refine Drawn.only 10 (by kernel_rfl) rfl rfl (fun K hK => ?_)
          go_simp
          refine hK _ _ (fun _ _ => H1.set4 h5.ge _ _ _ _) ?_
          clear hK K c0 c1 c2 c3 g0 g1 g2 g3
          have k5 := heap_set4 h5.1 (.int .u64 q0) (.int .u64 q1) (.int .u64 q2) (.int .u64 q3)
          replace h6 := h6.other h5 (by omega) (.int .u64 q0) (.int .u64 q1) (.int .u64 q2) (.int .u64 q3)
          replace H1 := H1.set4 h5.ge (.int .u64 q0) (.int .u64 q1) (.int .u64 q2) (.int .u64 q3)
          obtain ⟨⟨c0, c1, c2, c3⟩, g0, g1, g2, g3⟩ := h6.cells
          refine Drawn.only 11 (by kernel_rfl) rfl rfl (fun K hK => ?_)
          go_simp
          refine hK _ _ (fun h => by simp at h) ?_
          exact Drawn.done (by kernel_rfl) (hK' _ _ (Met.intro (hJ _ _ ⟨_, _, q0, q1, q2, q3, r0, r1, r2, r3, rfl, HQ.out, HR.out, H1.set4 h6.ge _ _ _ _, (heap_far (by omega) _ _ _ _).trans k5, heap_set4 h6.1 _ _ _ _⟩))) _
        · refine ⟨_, rfl, rfl, fun K hK => ?_⟩
          go_simp
          refine hK _ _ (fun _ _ => H1.alloc _) ?_
          clear hK K
          have h6 : New4 (w.heap.size + 1 + 1 + 1) (.int .u64 0) (.int .u64 0) (.int .u64 0) (.int .u64 0) 45 _ _ := New4.here _ H1.size
          have nh6h5 := h5.2.1
          replace h5 := h5.past (.cells #[.int .u64 0, .int .u64 0, .int .u64 0, .int .u64 0] 45)
          replace H1 := H1.alloc (.cells #[.int .u64 0, .int .u64 0, .int .u64 0, .int .u64 0] 45)
          generalize World.alloc _ _ = V21 at H1 h6 h5 ⊢
          refine Drawn.only 4 (by kernel_rfl) rfl rfl (fun K hK => ?_)
          go_simp
          refine (D.out _).mono ?_
          rintro e w3 ⟨q0, q1, q2, q3, r0, r1, r2, r3, rfl, hq, hr, hb⟩
          have HQ := Lib.hid hq; have HR := Lib.hid hr; clear hq hr
          refine hK _ _ (fun _ _ => H1.call hb) ?_
          replace h5 := carry4 hb h5
          replace h6 := carry4 hb h6
          replace H1 := H1.call hb
          clear hK K hb
          refine Drawn.take 5 (some 7) (v := ?_) rfl rfl (by kernel_rfl) (by kernel_rfl) (by kernel_rfl) (by kernel_rfl) (by kernel_rfl) rfl (fun _ _ _ h => h) (Or.inl ⟨rfl, ?_⟩) H1 ?_
          rotate_left
          · intro W hW; have hW := HS.out W hW; go_simp; try with_reducible rfl
          simp only [put_list, List.set]
          refine Drawn.take 6 (some 13) (v := ?_) rfl rfl (by kernel_rfl) (by kernel_rfl) (by kernel_rfl) (by kernel_rfl) (by kernel_rfl) rfl (fun _ _ _ h => h) (Or.inl ⟨rfl, ?_⟩) H1 ?_
          rotate_left
          · intro W hW; have hW := HS.out W hW; go_simp; try with_reducible rfl
          simp only [put_list, List.set]
          refine Drawn.take 7 (some 14) (v := ?_) rfl rfl (by kernel_rfl) (by kernel_rfl) (by kernel_rfl) (by kernel_rfl) (by kernel_rfl) rfl (fun _ _ _ h => h) (Or.inl ⟨rfl, ?_⟩) H1 ?_
          rotate_left
          · intro W hW; have hW := HS.out W hW; go_simp; try with_reducible rfl
          simp only [put_list, List.set]
          obtain ⟨⟨c0, c1, c2, c3⟩, g0, g1, g2, g3⟩ := h5.cells
          refine Drawn.only 10 (by kernel_rfl) rfl rfl (fun K hK => ?_)
          go_simp
          refine hK _ _ (fun _ _ => H1.set4 h5.ge _ _ _ _) ?_
          clear hK K c0 c1 c2 c3 g0 g1 g2 g3
          have k5 := heap_set4 h5.1 (.int .u64 q0) (.int .u64 q1) (.int .u64 q2) (.int .u64 q3)
          replace h6 := h6.other h5 (by omega) (.int .u64 q0) (.int .u64 q1) (.int .u64 q2) (.int .u64 q3)
          replace H1 := H1.set4 h5.ge (.int .u64 q0) (.int .u64 q1) (.int .u64 q2) (.int .u64 q3)
          obtain ⟨⟨c0, c1, c2, c3⟩, g0, g1, g2, g3⟩ := h6.cells
          refine Drawn.only 11 (by kernel_rfl) rfl rfl (fun K hK => ?_)
          go_simp
          refine hK _ _ (fun h => by simp at h) ?_
          exact Drawn.done (by kernel_rfl) (hK' _ _ (Met.intro (hJ _ _ ⟨_, _, q0, q1, q2, q3, r0, r1, r2, r3, rfl, HQ.out, HR.out, H1.set4 h6.ge _ _ _ _, (heap_far (by omega) _ _ _ _).trans k5, heap_set4 h6.1 _ _ _ _⟩))) _
      · refine ⟨_, rfl, rfl, fun K hK => ?_⟩
        go_simp
        refine hK _ _ (fun _ _ => H1.alloc _) ?_
        clear hK K
        have h6 : New4 (w.heap.size + 1 + 1 + 1) (.int .u64 0) (.int .u64 0) (.int .u64 0) (.int .u64 0) 45 _ _ := New4.here _ H1.size
        have nh6h5 := h5.2.1
        replace h5 := h5.past (.cells #[.int .u64 0, .int .u64 0, .int .u64 0, .int .u64 0] 45)
        replace H1 := H1.alloc (.cells #[.int .u64 0, .int .u64 0, .int .u64 0, .int .u64 0] 45)
        generalize World.alloc _ _ = V22 at H1 h6 h5 ⊢
        refine Drawn.only 3 (by kernel_rfl) rfl rfl (fun K hK => ?_)
        go_simp
        refine (split_any _ _ _ _ _).mono ?_
        rintro e w2 ⟨rfl, hb⟩
        refine hK _ _ (fun _ _ => H1.call hb) ?_
        replace h5 := carry4 hb h5
        replace h6 := carry4 hb h6
        replace H1 := H1.call hb
        clear hK K hb
        refine Drawn.only 4 (by kernel_rfl) rfl rfl (fun K hK => ?_)
        go_simp
        refine (D.out _).mono ?_
        rintro e w3 ⟨q0, q1, q2, q3, r0, r1, r2, r3, rfl, hq, hr, hb⟩
        have HQ := Lib.hid hq; have HR := Lib.hid hr; clear hq hr
        refine hK _ _ (fun _ _ => H1.call hb) ?_
        replace h5 := carry4 hb h5
        replace h6 := carry4 hb h6
        replace H1 := H1.call hb
        clear hK K hb
        refine Drawn.take 5 (some 7) (v := ?_) rfl rfl (by kernel_rfl) (by kernel_rfl) (by kernel_rfl) (by kernel_rfl) (by kernel_rfl) rfl (fun _ _ _ h => h) (Or.inl ⟨rfl, ?_⟩) H1 ?_
        rotate_left
        · intro W hW; have hW := HS.out W hW; go_simp; try with_reducible rfl
        simp only [put_list, List.set]
        refine Drawn.take 6 (some 13) (v := ?_) rfl rfl (by kernel_rfl) (by kernel_rfl) (by kernel_rfl) (by kernel_rfl) (by kernel_rfl) rfl (fun _ _ _ h => h) (Or.inl ⟨rfl, ?_⟩) H1 ?_
        rotate_left
        · intro W hW; have hW := HS.out W hW; go_simp; try with_reducible rfl
        simp only [put_list, List.set]
        refine Drawn.take 7 (some 14) (v := ?_) rfl rfl (by kernel_rfl) (by kernel_rfl) (by kernel_rfl) (by kernel_rfl) (by kernel_rfl) rfl (fun _ _ _ h => h) (Or.inl ⟨rfl, ?_⟩) H1 ?_
        rotate_left
        · intro W hW; have hW := HS.out W hW; go_simp; try with_reducible rfl
        simp only [put_list, List.set]
        obtain ⟨⟨c0, c1, c2, c3⟩, g0, g1, g2, g3⟩ := h5.cells
        refine Drawn.only 10 (by kernel_rfl) rfl rfl (fun K hK => ?_)
        go_simp
        refine hK _ _ (fun _ _ => H1.set4 h5.ge _ _ _ _) ?_
        clear hK K c0 c1 c2 c3 g0 g1 g2 g3
        have k5 := heap_set4 h5.1 (.int .u64 q0) (.int .u64 q1) (.int .u64 q2) (.int .u64 q3)
        replace h6 := h6.other h5 (by omega) (.int .u64 q0) (.int .u64 q1) (.int .u64 q2) (.int .u64 q3)
        replace H1 := H1.set4 h5.ge (.int .u64 q0) (.int .u64 q1) (.int .u64 q2) (.int .u64 q3)
        obtain ⟨⟨c0, c1, c2, c3⟩, g0, g1, g2, g3⟩ := h6.cells
        refine Drawn.only 11 (by kernel_rfl) rfl rfl (fun K hK => ?_)
        go_simp
        refine hK _ _ (fun h => by simp at h) ?_
        exact Drawn.done (by kernel_rfl) (hK' _ _ (Met.intro (hJ _ _ ⟨_, _, q0, q1, q2, q3, r0, r1, r2, r3, rfl, HQ.out, HR.out, H1.set4 h6.ge _ _ _ _, (heap_far (by omega) _ _ _ _).trans k5, heap_set4 h6.1 _ _ _ _⟩))) _
    · refine ⟨_, rfl, rfl, fun K hK => ?_⟩
      go_simp
      refine hK _ _ (fun _ _ => H1.alloc _) ?_
      clear hK K
      have h6 : New4 (w.heap.size + 1 + 1 + 1) (.int .u64 0) (.int .u64 0) (.int .u64 0) (.int .u64 0) 45 _ _ := New4.here _ H1.size
      have nh6h5 := h5.2.1
      replace h5 := h5.past (.cells #[.int .u64 0, .int .u64 0, .int .u64 0, .int .u64 0] 45)
      replace H1 := H1.alloc (.cells #[.int .u64 0, .int .u64 0, .int .u64 0, .int .u64 0] 45)
      generalize World.alloc _ _ = V23 at H1 h6 h5 ⊢
      refine Drawn.only 1 (by kernel_rfl) rfl rfl (fun K hK => ?_)
      go_simp
      refine (split_any _ _ _ _ _).mono ?_
      rintro e w1 ⟨rfl, hb⟩
      refine hK _ _ (fun _ _ => H1.call hb) ?_
      replace h5 := carry4 hb h5
      replace h6 := carry4 hb h6
      replace H1 := H1.call hb
      clear hK K hb
      refine Drawn.only 3 (by kernel_rfl) rfl rfl (fun K hK => ?_)
      go_simp
      refine (split_any _ _ _ _ _).mono ?_
      rintro e w2 ⟨rfl, hb⟩
      refine hK _ _ (fun _ _ => H1.call hb) ?_
      replace h5 := carry4 hb h5
      replace h6 := carry4 hb h6
      replace H1 := H1.call hb
      clear hK K hb
      refine Drawn.only 4 (by kernel_rfl) rfl rfl (fun K hK => ?_)
      go_simp
      refine (D.out _).mono ?_
      rintro e w3 ⟨q0, q1, q2, q3, r0, r1, r2, r3, rfl, hq, hr, hb⟩
      have HQ := Lib.hid hq; have HR := Lib.hid hr; clear hq hr
      refine hK _ _ (fun _ _ => H1.call hb) ?_
      replace h5 := carry4 hb h5
      replace h6 := carry4 hb h6
      replace H1 := H1.call hb
      clear hK K hb
      refine Drawn.take 5 (some 7) (v := ?_) rfl rfl (by kernel_rfl) (by kernel_rfl) (by kernel_rfl) (by kernel_rfl) (by kernel_rfl) rfl (fun _ _ _ h => h) (Or.inl ⟨rfl, ?_⟩) H1 ?_
      rotate_left
      · intro W hW; have hW := HS.out W hW; go_simp; try with_reducible rfl
      simp only [put_list, List.set]
      refine Drawn.take 6 (some 13) (v := ?_) rfl rfl (by kernel_rfl) (by kernel_rfl) (by kernel_rfl) (by kernel_rfl) (by kernel_rfl) rfl (fun _ _ _ h => h) (Or.inl ⟨rfl, ?_⟩) H1 ?_
      rotate_left
      · intro W hW; have hW := HS.out W hW; go_simp; try with_reducible rfl
      simp only [put_list, List.set]
      refine Drawn.take 7 (some 14) (v := ?_) rfl rfl (by kernel_rfl) (by kernel_rfl) (by kernel_rfl) (by kernel_rfl) (by kernel_rfl) rfl (fun _ _ _ h => h) (Or.inl ⟨rfl, ?_⟩) H1 ?_
      rotate_left
      · intro W hW; have hW := HS.out W hW; go_simp; try with_reducible rfl
      simp only [put_list, List.set]
      obtain ⟨⟨c0, c1, c2, c3⟩, g0, g1, g2, g3⟩ := h5.cells
      refine Drawn.only 10 (by kernel_rfl) rfl rfl (fun K hK => ?_)
      go_simp
      refine hK _ _ (fun _ _ => H1.set4 h5.ge _ _ _ _) ?_
      clear hK K c0 c1 c2 c3 g0 g1 g2 g3
      have k5 := heap_set4 h5.1 (.int .u64 q0) (.int .u64 q1) (.int .u64 q2) (.int .u64 q3)
      replace h6 := h6.other h5 (by omega) (.int .u64 q0) (.int .u64 q1) (.int .u64 q2) (.int .u64 q3)
      replace H1 := H1.set4 h5.ge (.int .u64 q0) (.int .u64 q1) (.int .u64 q2) (.int .u64 q3)
      obtain ⟨⟨c0, c1, c2, c3⟩, g0, g1, g2, g3⟩ := h6.cells
      refine Drawn.only 11 (by kernel_rfl) rfl rfl (fun K hK => ?_)
      go_simp
      refine hK _ _ (fun h => by simp at h) ?_
      exact Drawn.done (by kernel_rfl) (hK' _ _ (Met.intro (hJ _ _ ⟨_, _, q0, q1, q2, q3, r0, r1, r2, r3, rfl, HQ.out, HR.out, H1.set4 h6.ge _ _ _ _, (heap_far (by omega) _ _ _ _).trans k5, heap_set4 h6.1 _ _ _ _⟩))) _
  · refine ⟨_, rfl, rfl, fun K hK => ?_⟩
    go_simp
    refine hK _ _ (fun _ _ => H1.alloc _) ?_
    clear hK K
    have h6 : New4 (w.heap.size + 1 + 1 + 1) (.int .u64 0) (.int .u64 0) (.int .u64 0) (.int .u64 0) 45 _ _ := New4.here _ H1.size
    replace H1 := H1.alloc (.cells #[.int .u64 0, .int .u64 0, .int .u64 0, .int .u64 0] 45)
    generalize World.alloc _ _ = V24 at H1 h6 ⊢
    refine Drawn.among [1, 8] (by kernel_rfl) (by decide) ?_
    intro i hi
    simp only [List.mem_cons, List.not_mem_nil, or_false] at hi
    rcases hi with rfl | rfl
    · refine ⟨_, rfl, rfl, fun K hK => ?_⟩
      go_simp
      refine (split_any _ _ _ _ _).mono ?_
      rintro e w1 ⟨rfl, hb⟩
      refine hK _ _ (fun _ _ => H1.call hb) ?_
      replace h6 := carry4 hb h6
      replace H1 := H1.call hb
      clear hK K hb
      refine Drawn.among [3, 8] (by kernel_rfl) (by decide) ?_
      intro i hi
      simp only [List.mem_cons, List.not_mem_nil, or_false] at hi
      rcases hi with rfl | rfl
      · refine ⟨_, rfl, rfl, fun K hK => ?_⟩
        go_simp
        refine (split_any _ _ _ _ _).mono ?_
        rintro e w2 ⟨rfl, hb⟩
        refine hK _ _ (fun _ _ => H1.call hb) ?_
        replace h6 := carry4 hb h6
        replace H1 := H1.call hb
        clear hK K hb
        refine Drawn.among [4, 8] (by kernel_rfl) (by decide) ?_
        intro i hi
        simp only [List.mem_cons, List.not_mem_nil, or_false] at hi
        rcases hi with rfl | rfl
        · refine ⟨_, rfl, rfl, fun K hK => ?_⟩
          go_simp
          refine (D.out _).mono ?_
          rintro e w3 ⟨q0, q1, q2, q3, r0, r1, r2, r3, rfl, hq, hr, hb⟩
          have HQ := Lib.hid hq; have HR := Lib.hid hr; clear hq hr
          refine hK _ _ (fun _ _ => H1.call hb) ?_
          replace h6 := carry4 hb h6
          replace H1 := H1.call hb
          clear hK K hb
          refine Drawn.take 5 (some 7) (v := ?_) rfl rfl (by kernel_rfl) (by kernel_rfl) (by kernel_rfl) (by kernel_rfl) (by kernel_rfl) rfl (fun _ _ _ h => h) (Or.inl ⟨rfl, ?_⟩) H1 ?_
          rotate_left
          · intro W hW; have hW := HS.out W hW; go_simp; try with_reducible rfl
          simp only [put_list, List.set]
          refine Drawn.take 6 (some 13) (v := ?_) rfl rfl (by kernel_rfl) (by kernel_rfl) (by kernel_rfl) (by kernel_rfl) (by kernel_rfl) rfl (fun _ _ _ h => h) (Or.inl ⟨rfl, ?_⟩) H1 ?_
          rotate_left
          · intro W hW; have hW := HS.out W hW; go_simp; try with_reducible rfl
          simp only [put_list, List.set]
          refine Drawn.take 7 (some 14) (v := ?_) rfl rfl (by kernel_rfl) (by kernel_rfl) (by kernel_rfl) (by kernel_rfl) (by kernel_rfl) rfl (fun _ _ _ h => h) (Or.inl ⟨rfl, ?_⟩) H1 ?_
          rotate_left
          · intro W hW; have hW := HS.out W hW; go_simp; try with_reducible rfl
          simp only [put_list, List.set]
          refine Drawn.only 8 (by kernel_rfl) rfl rfl (fun K hK => ?_)
          go_simp
          refine hK _ _ (fun _ _ => H1.alloc _) ?_
          clear hK K
          have h5 : New4 (w.heap.size + 1 + 1 + 1) (.int .u64 0) (.int .u64 0) (.int .u64 0) (.int .u64 0) 45 _ _ := New4.here _ H1.size
          have nh5h6 := h6.2.1
          replace h6 := h6.past (.cells #[.int .u64 0, .int .u64 0, .int .u64 0, .int .u64 0] 45)
          replace H1 := H1.alloc (.cells #[.int .u64 0, .int .u64 0, .int .u64 0, .int .u64 0] 45)
          generalize World.alloc _ _ = V25 at H1 h5 h6 ⊢
          obtain ⟨⟨c0, c1, c2, c3⟩, g0, g1, g2, g3⟩ := h5.cells
          refine Drawn.only 10 (by kernel_rfl) rfl rfl (fun K hK => ?_)
          go_simp
          refine hK _ _ (fun _ _ => H1.set4 h5.ge _ _ _ _) ?_
          clear hK K c0 c1 c2 c3 g0 g1 g2 g3
          have k5 := heap_set4 h5.1 (.int .u64 q0) (.int .u64 q1) (.int .u64 q2) (.int .u64 q3)
          replace h6 := h6.other h5 (by omega) (.int .u64 q0) (.int .u64 q1) (.int .u64 q2) (.int .u64 q3)
          replace H1 := H1.set4 h5.ge (.int .u64 q0) (.int .u64 q1) (.int .u64 q2) (.int .u64 q3)
          obtain ⟨⟨c0, c1, c2, c3⟩, g0, g1, g2, g3⟩ := h6.cells
          refine Drawn.only 11 (by kernel_rfl) rfl rfl (fun K hK => ?_)
          go_simp
          refine hK _ _ (fun h => by simp at h) ?_
          exact Drawn.done (by kernel_rfl) (hK' _ _ (Met.intro (hJ _ _ ⟨_, _, q0, q1, q2, q3, r0, r1, r2, r3, rfl, HQ.out, HR.out, H1.set4 h6.ge _ _ _ _, (heap_far (by omega) _ _ _ _).trans k5, heap_set4 h6.1 _ _ _ _⟩))) _
        · refine ⟨_, rfl, rfl, fun K hK => ?_⟩
          go_simp
          refine hK _ _ (fun _ _ => H1.alloc _) ?_
          clear hK K
          have h5 : New4 (w.heap.size + 1 + 1 + 1) (.int .u64 0) (.int .u64 0) (.int .u64 0) (.int .u64 0) 45 _ _ := New4.here _ H1.size
          have nh5h6 := h6.2.1
          replace h6 := h6.past (.cells #[.int .u64 0, .int .u64 0, .int .u64 0, .int .u64 0] 45)
          replace H1 := H1.alloc (.cells #[.int .u64 0, .int .u64 0, .int .u64 0, .int .u64 0] 45)
          generalize World.alloc _ _ = V26 at H1 h5 h6 ⊢
          refine Drawn.only 4 (by kernel_rfl) rfl rfl (fun K hK => ?_)
          go_simp
          refine (D.out _).mono ?_
          rintro e w3 ⟨q0, q1, q2, q3, r0, r1, r2, r3, rfl, hq, hr, hb⟩
          have HQ := Lib.hid hq; have HR := Lib.hid hr; clear hq hr
          refine hK _ _ (fun _ _ => H1.call hb) ?_
          replace h5 := carry4 hb h5
          replace h6 := carry4 hb h6
          replace H1 := H1.call hb
          clear hK K hb
          refine Drawn.take 5 (some 7) (v := ?_) rfl rfl (by kernel_rfl) (by kernel_rfl) (by kernel_rfl) (by kernel_rfl) (by kernel_rfl) rfl (fun _ _ _ h => h) (Or.inl ⟨rfl, ?_⟩) H1 ?_
          rotate_left
          · intro W hW; have hW := HS.out W hW; go_simp; try with_reducible rfl
          simp only [put_list, List.set]
          refine Drawn.take 6 (some 13) (v := ?_) rfl rfl (by kernel_rfl) (by kernel_rfl) (by kernel_rfl) (by kernel_rfl) (by kernel_rfl) rfl (fun _ _ _ h => h) (Or.inl ⟨rfl, ?_⟩) H1 ?_
          rotate_left
          · intro W hW; have hW := HS.out W hW; go_simp; try with_reducible rfl
          simp only [put_list, List.set]
          refine Drawn.take 7 (some 14) (v := ?_) rfl rfl (by kernel_rfl) (by kernel_rfl) (by kernel_rfl) (by kernel_rfl) (by kernel_rfl) rfl (fun _ _ _ h => h) (Or.inl ⟨rfl, ?_⟩) H1 ?_
          rotate_left
          · intro W hW; have hW := HS.out W hW; go_simp; try with_reducible rfl
          simp only [put_list, List.set]
          obtain ⟨⟨c0, c1, c2, c3⟩, g0, g1, g2, g3⟩ := h5.cells
          refine Drawn.only 10 (by kernel_rfl) rfl rfl (fun K hK => ?_)
          go_simp
          refine hK _ _ (fun _ _ => H1.set4 h5.ge _ _ _ _) ?_
          clear hK K c0 c1 c2 c3 g0 g1 g2 g3
          have k5 := heap_set4 h5.1 (.int .u64 q0) (.int .u64 q1) (.int .u64 q2) (.int .u64 q3)
          replace h6 := h6.other h5 (by omega) (.int .u64 q0) (.int .u64 q1) (.int .u64 q2) (.int .u64 q3)
          replace H1 := H1.set4 h5.ge (.int .u64 q0) (.int .u64 q1) (.int .u64 q2) (.int .u64 q3)
          obtain ⟨⟨c0, c1, c2, c3⟩, g0, g1, g2, g3⟩ := h6.cells
          refine Drawn.only 11 (by kernel_rfl) rfl rfl (fun K hK => ?_)
          go_simp
          refine hK _ _ (fun h => by simp at h) ?_
          exact Drawn.done (by kernel_rfl) (hK' _ _ (Met.intro (hJ _ _ ⟨_, _, q0, q1, q2, q3, r0, r1, r2, r3, rfl, HQ.out, HR.out, H1.set4 h6.ge _ _ _ _, (heap_far (by omega) _ _ _ _).trans k5, heap_set4 h6.1 _ _ _ _⟩))) _
      · refine ⟨_, rfl, rfl, fun K hK => ?_⟩
        go_simp
        refine hK _ _ (fun _ _ => H1.alloc _) ?_
        clear hK K
        have h5 : New4 (w.heap.size + 1 + 1 + 1) (.int .u64 0) (.int .u64 0) (.int .u64 0) (.int .u64 0) 45 _ _ := New4.here _ H1.size
        have nh5h6 := h6.2.1
        replace h6 := h6.past (.cells #[.int .u64 0, .int .u64 0, .int .u64 0, .int .u64 0] 45)
        replace H1 := H1.alloc (.cells #[.int .u64 0, .int .u64 0, .int .u64 0, .int .u64 0] 45)
        generalize World.alloc _ _ = V27 at H1 h5 h6 ⊢
        refine Drawn.only 3 (by kernel_rfl) rfl rfl (fun K hK => ?_)
        go_simp
        refine (split_any _ _ _ _ _).mono ?_
        rintro e w2 ⟨rfl, hb⟩
        refine hK _ _ (fun _ _ => H1.call hb) ?_
        replace h5 := carry4 hb h5
        replace h6 := carry4 hb h6
        replace H1 := H1.call hb
        clear hK K hb
        refine Drawn.only 4 (by kernel_rfl) rfl rfl (fun K hK => ?_)
        go_simp
        refine (D.out _).mono ?_
        rintro e w3 ⟨q0, q1, q2, q3, r0, r1, r2, r3, rfl, hq, hr, hb⟩
        have HQ := Lib.hid hq; have HR := Lib.hid hr; clear hq hr
        refine hK _ _ (fun _ _ => H1.call hb) ?_
        replace h5 := carry4 hb h5
        replace h6 := carry4 hb h6
        replace H1 := H1.call hb
        clear hK K hb
        refine Drawn.take 5 (some 7) (v := ?_) rfl rfl (by kernel_rfl) (by kernel_rfl) (by kernel_rfl) (by kernel_rfl) (by kernel_rfl) rfl (fun _ _ _ h => h) (Or.inl ⟨rfl, ?_⟩) H1 ?_
        rotate_left
        · intro W hW; have hW := HS.out W hW; go_simp; try with_reducible rfl
        simp only [put_list, List.set]
        refine Drawn.take 6 (some 13) (v := ?_) rfl rfl (by kernel_rfl) (by kernel_rfl) (by kernel_rfl) (by kernel_rfl) (by kernel_rfl) rfl (fun _ _ _ h => h) (Or.inl ⟨rfl, ?_⟩) H1 ?_
        rotate_left
        · intro W hW; have hW := HS.out W hW; go_simp; try with_reducible rfl
        simp only [put_list, List.set]
        refine Drawn.take 7 (some 14) (v := ?_) rfl rfl (by kernel_rfl) (by kernel_rfl) (by kernel_rfl) (by kernel_rfl) (by kernel_rfl) rfl (fun _ _ _ h => h) (Or.inl ⟨rfl, ?_⟩) H1 ?_
        rotate_left
        · intro W hW; have hW := HS.out W hW; go_simp; try with_reducible rfl
        simp only [put_list, List.set]
        obtain ⟨⟨c0, c1, c2, c3⟩, g0, g1, g2, g3⟩ := h5.cells
        refine Drawn.only 10 (by kernel_rfl) rfl rfl (fun K hK => ?_)
        go_simp
        refine hK _ _ (fun _ _ => H1.set4 h5.ge _ _ _ _) ?_
        clear hK K c0 c1 c2 c3 g0 g1 g2 g3
        have k5 := heap_set4 h5.1 (.int .u64 q0) (.int .u64 q1) (.int .u64 q2) (.int .u64 q3)
        replace h6 := h6.other h5 (by omega) (.int .u64 q0) (.int .u64 q1) (.int .u64 q2) (.int .u64 q3)
        replace H1 := H1.set4 h5.ge (.int .u64 q0) (.int .u64 q1) (.int .u64 q2) (.int .u64 q3)
        obtain ⟨⟨c0, c1, c2, c3⟩, g0, g1, g2, g3⟩ := h6.cells
        refine Drawn.only 11 (by kernel_rfl) rfl rfl (fun K hK => ?_)
        go_simp
        refine hK _ _ (fun h => by simp at h) ?_
        exact Drawn.done (by kernel_rfl) (hK' _ _ (Met.intro (hJ _ _ ⟨_, _, q0, q1, q2, q3, r0, r1, r2, r3, rfl, HQ.out, HR.out, H1.set4 h6.ge _ _ _ _, (heap_far (by omega) _ _ _ _).trans k5, heap_set4 h6.1 _ _ _ _⟩))) _
    · refine ⟨_, rfl, rfl, fun K hK => ?_⟩
      go_simp
      refine hK _ _ (fun _ _ => H1.alloc _) ?_
      clear hK K
      have h5 : New4 (w.heap.size + 1 + 1 + 1) (.int .u64 0) (.int .u64 0) (.int .u64 0) (.int .u64 0) 45 _ _ := New4.here _ H1.size
      have nh5h6 := h6.2.1
      replace h6 := h6.past (.cells #[.int .u64 0, .int .u64 0, .int .u64 0, .int .u64 0] 45)
      replace H1 := H1.alloc (.cells #[.int .u64 0, .int .u64 0, .int .u64 0, .int .u64 0] 45)
      generalize World.alloc _ _ = V28 at H1 h5 h6 ⊢
      refine Drawn.only 1 (by kernel_rfl) rfl rfl (fun K hK => ?_)
      go_simp
      refine (split_any _ _ _ _ _).mono ?_
      rintro e w1 ⟨rfl, hb⟩
      refine hK _ _ (fun _ _ => H1.call hb) ?_
      replace h5 := carry4 hb h5
      replace h6 := carry4 hb h6
      replace H1 := H1.call hb
      clear hK K hb
      refine Drawn.only 3 (by kernel_rfl) rfl rfl (fun K hK => ?_)
      go_simp
      refine (split_any _ _ _ _ _).mono ?_
      rintro e w2 ⟨rfl, hb⟩
      refine hK _ _ (fun _ _ => H1.call hb) ?_
      replace h5 := carry4 hb h5
      replace h6 := carry4 hb h6
      replace H1 := H1.call hb
      clear hK K hb
      refine Drawn.only 4 (by kernel_rfl) rfl rfl (fun K hK => ?_)
      go_simp
      refine (D.out _).mono ?_
      rintro e w3 ⟨q0, q1, q2, q3, r0, r1, r2, r3, rfl, hq, hr, hb⟩
      have HQ := Lib.hid hq; have HR := Lib.hid hr; clear hq hr
      refine hK _ _ (fun _ _ => H1.call hb) ?_
      replace h5 := carry4 hb h5
      replace h6 := carry4 hb h6
      replace H1 := H1.call hb
      clear hK K hb
      refine Drawn.take 5 (some 7) (v := ?_) rfl rfl (by kernel_rfl) (by kernel_rfl) (by kernel_rfl) (by kernel_rfl) (by kernel_rfl) rfl (fun _ _ _ h => h) (Or.inl ⟨rfl, ?_⟩) H1 ?_
      rotate_left
      · intro W hW; have hW := HS.out W hW; go_simp; try with_reducible rfl
      simp only [put_list, List.set]
      refine Drawn.take 6 (some 13) (v := ?_) rfl rfl (by kernel_rfl) (by kernel_rfl) (by kernel_rfl) (by kernel_rfl) (by kernel_rfl) rfl (fun _ _ _ h => h) (Or.inl ⟨rfl, ?_⟩) H1 ?_
      rotate_left
      · intro W hW; have hW := HS.out W hW; go_simp; try with_reducible rfl
      simp only [put_list, List.set]
      refine Drawn.take 7 (some 14) (v := ?_) rfl rfl (by kernel_rfl) (by kernel_rfl) (by kernel_rfl) (by kernel_rfl) (by kernel_rfl) rfl (fun _ _ _ h => h) (Or.inl ⟨rfl, ?_⟩) H1 ?_
      rotate_left
      · intro W hW; have hW := HS.out W hW; go_simp; try with_reducible rfl
      simp only [put_list, List.set]
      obtain ⟨⟨c0, c1, c2, c3⟩, g0, g1, g2, g3⟩ := h5.cells
      refine Drawn.only 10 (by kernel_rfl) rfl rfl (fun K hK => ?_)
      go_simp
      refine hK _ _ (fun _ _ => H1.set4 h5.ge _ _ _ _) ?_
      clear hK K c0 c1 c2 c3 g0 g1 g2 g3
      have k5 := heap_set4 h5.1 (.int .u64 q0) (.int .u64 q1) (.int .u64 q2) (.int .u64 q3)
      replace h6 := h6.other h5 (by omega) (.int .u64 q0) (.int .u64 q1) (.int .u64 q2) (.int .u64 q3)
      replace H1 := H1.set4 h5.ge (.int .u64 q0) (.int .u64 q1) (.int .u64 q2) (.int .u64 q3)
      obtain ⟨⟨c0, c1, c2, c3⟩, g0, g1, g2, g3⟩ := h6.cells
      refine Drawn.only 11 (by kernel_rfl) rfl rfl (fun K hK => ?_)
      go_simp
      refine hK _ _ (fun h => by simp at h) ?_
      exact Drawn.done (by kernel_rfl) (hK' _ _ (Met.intro (hJ _ _ ⟨_, _, q0, q1, q2, q3, r0, r1, r2, r3, rfl, HQ.out, HR.out, H1.set4 h6.ge _ _ _ _, (heap_far (by omega) _ _ _ _).trans k5, heap_set4 h6.1 _ _ _ _⟩))) _

set_option maxRecDepth 100000 in
set_option maxHeartbeats 4000000 in
theorem Mod_d {x y b3 b2 b1 b0 a3 a2 a1 a0 : Nat} (hx : Dig x a0 a1 a2 a3) (hy : Dig y b0 b1 b2 b3) (w : World) :
    Calls Try.prog 28 #[.agg #[.int .u64 a3, .int .u64 a2, .int .u64 a1, .int .u64 a0], .agg #[.int .u64 b3, .int .u64 b2, .int .u64 b1, .int .u64 b0]] w (RetD (if y = 0 then 0 else x % y) w) := by
  have H := ((((Fx.start w).new #[.int .u64 a3, .int .u64 a2, .int .u64 a1, .int .u64 a0] 24).new #[.int .u64 b3, .int .u64 b2, .int .u64 b1, .int .u64 b0] 24).new #[.int .u64 0, .int .u64 0, .int .u64 0, .int .u64 0] 24).1
  have D := Lib.hid (fun W => divide_c hx hy W)
  clear hx hy
  generalize x / y = q at *
  generalize (if y = 0 then 0 else x % y) = r at *
  go_enter Try.func28, Try.ntmps28
  go_wp2_with fail
  have HS := Lib.hid H.read3
  refine wp_cut (fun a' W => ∃ b5 b6 q0 q1 q2 q3 r0 r1 r2 r3 : Nat, a' = ⟨#[.agg #[.int .u64 a3, .int .u64 a2, .int .u64 a1, .int .u64 a0], .agg #[.int .u64 b3, .int .u64 b2, .int .u64 b1, .int .u64 b0],
      .pointer (some ⟨w.heap.size, 0, none⟩), .pointer (some ⟨w.heap.size + 1, 0, none⟩), .pointer (some ⟨w.heap.size + 1 + 1, 0, none⟩), .pointer (some ⟨b5, 0, none⟩), .pointer (some ⟨b6, 0, none⟩),
      .tuple #[.agg #[.int .u64 q0, .int .u64 q1, .int .u64 q2, .int .u64 q3], .agg #[.int .u64 r0, .int .u64 r1, .int .u64 r2, .int .u64 r3]], .agg #[.int .u64 a3, .int .u64 a2, .int .u64 a1, .int .u64 a0], .agg #[.int .u64 a0, .int .u64 a1, .int .u64 a2, .int .u64 a3], .agg #[.int .u64 b3, .int .u64 b2, .int .u64 b1, .int .u64 b0], .agg #[.int .u64 b0, .int .u64 b1, .int .u64 b2, .int .u64 b3], .tuple #[.agg #[.int .u64 q0, .int .u64 q1, .int .u64 q2, .int .u64 q3], .agg #[.int .u64 r0, .int .u64 r1, .int .u64 r2, .int .u64 r3]], .agg #[.int .u64 q0, .int .u64 q1, .int .u64 q2, .int .u64 q3], .agg #[.int .u64 r0, .int .u64 r1, .int .u64 r2, .int .u64 r3], undef, undef], []⟩ ∧ Dig q q0 q1 q2 q3 ∧ Dig r r0 r1 r2 r3 ∧
      Fr w w.heap.size (w.heap.size + 1 + 1 + 1) [(w.heap.size + 1 + 1, #[.int .u64 0, .int .u64 0, .int .u64 0, .int .u64 0], 24), (w.heap.size + 1, #[.int .u64 b3, .int .u64 b2, .int .u64 b1, .int .u64 b0], 24), (w.heap.size, #[.int .u64 a3, .int .u64 a2, .int .u64 a1, .int .u64 a0], 24)] W ∧
      W.heap[b5]? = some (.cells #[.int .u64 q0, .int .u64 q1, .int .u64 q2, .int .u64 q3] 45 (0, 0)) ∧ W.heap[b6]? = some (.cells #[.int .u64 r0, .int .u64 r1, .int .u64 r2, .int .u64 r3] 45 (0, 0))) ?rest ?tree
  case rest =>
    rintro a' W ⟨b5, b6, q0, q1, q2, q3, r0, r1, r2, r3, rfl, hq, hr, F, e5, e6⟩
    clear H HS D
    have HQ := Lib.hid hr; clear hq hr
    have c5 := (cells4 e6).1
    clear e5 e6
    go_wp2_with fail
    refine (join_any _ _ _ _ _).mono ?_
    rintro e w4 ⟨rfl, hb4⟩
    replace F := F.call hb4
    have k := F.know (_, _, _) List.mem_cons_self
    have hC := cells4 k.2
    obtain ⟨⟨k0, k1, k2, k3⟩, g0, g1, g2, g3⟩ := hC
    have K := Lib.hid k; clear k hb4 c5
    go_wp2_with fail
    exact bodyPost_ret (results_cell_row Try.results28 _ _ _ _ _ _ _ rfl (heap_set4 K.out.2 _ _ _ _) Try.underlying24 rfl (by kernel_rfl)) rfl
      ⟨_, _, _, _, rfl, HQ.out, below_set4 F.below (by omega) _ _ _ _⟩
  intro J K' hJ hK'
  have H0 := H.drew
  refine Drawn.startEx (fun i => i == 11) H (by kernel_rfl) ?_
  clear H
  refine Drawn.take 0 (some 8) (v := ?_) rfl rfl (by kernel_rfl) (by kernel_rfl) (by kernel_rfl) (by kernel_rfl) (by kernel_rfl) rfl (fun _ _ _ h => h) (Or.inl ⟨rfl, ?_⟩) H0 ?_
  rotate_left
  · intro W hW; have hW := HS.out W hW; go_simp; try with_reducible rfl
  simp only [put_list, List.set]
  refine Drawn.take 2 (some 10) (v := ?_) rfl rfl (by kernel_rfl) (by kernel_rfl) (by kernel_rfl) (by kernel_rfl) (by kernel_rfl) rfl (fun _ _ _ h => h) (Or.inl ⟨rfl, ?_⟩) H0 ?_
  rotate_left
  · intro W hW; have hW := HS.out W hW; go_simp; try with_reducible rfl
  simp only [put_list, List.set]
  have H1 := H0
  clear H0
  generalize World.drew _ = W0 at H1 ⊢
  refine Drawn.among [1, 8, 9] (by kernel_rfl) (by decide) ?_
  intro i hi
  simp only [List.mem_cons, List.not_mem_nil, or_false] at hi
  rcases hi with rfl | rfl | rfl
  · refine ⟨_, rfl, rfl, fun K hK => ?_⟩
    go_simp
    refine (split_any _ _ _ _ _).mono ?_
    rintro e w1 ⟨rfl, hb⟩
    refine hK _ _ (fun _ _ => H1.call hb) ?_
    replace H1 := H1.call hb
    clear hK K hb
    refine Drawn.among [3, 8, 9] (by kernel_rfl) (by decide) ?_
    intro i hi
    simp only [List.mem_cons, List.not_mem_nil, or_false] at hi
    rcases hi with rfl | rfl | rfl
    · refine ⟨_, rfl, rfl, fun K hK => ?_⟩
      go_simp
      refine (split_any _ _ _ _ _).mono ?_
      rintro e w2 ⟨rfl, hb⟩
      refine hK _ _ (fun _ _ => H1.call hb) ?_
      replace H1 := H1.call hb
      clear hK K hb
      refine Drawn.among [4, 8, 9] (by kernel_rfl) (by decide) ?_
      intro i hi
      simp only [List.mem_cons, List.not_mem_nil, or_false] at hi
      rcases hi with rfl | rfl | rfl
      · refine ⟨_, rfl, rfl, fun K hK => ?_⟩
        go_simp
        refine (D.out _).mono ?_
        rintro e w3 ⟨q0, q1, q2, q3, r0, r1, r2, r3, rfl, hq, hr, hb⟩
        have HQ := Lib.hid hq; have HR := Lib.hid hr; clear hq hr
        refine hK _ _ (fun _ _ => H1.call hb) ?_
        replace H1 := H1.call hb
        clear hK K hb
        refine Drawn.take 5 (some 7) (v := ?_) rfl rfl (by kernel_rfl) (by kernel_rfl) (by kernel_rfl) (by kernel_rfl) (by kernel_rfl) rfl (fun _ _ _ h => h) (Or.inl ⟨rfl, ?_⟩) H1 ?_
        rotate_left
        · intro W hW; have hW := HS.out W hW; go_simp; try with_reducible rfl
        simp only [put_list, List.set]
        refine Drawn.take 6 (some 13) (v := ?_) rfl rfl (by kernel_rfl) (by kernel_rfl) (by kernel_rfl) (by kernel_rfl) (by kernel_rfl) rfl (fun _ _ _ h => h) (Or.inl ⟨rfl, ?_⟩) H1 ?_
        rotate_left
        · intro W hW; have hW := HS.out W hW; go_simp; try with_reducible rfl
        simp only [put_list, List.set]
        refine Drawn.take 7 (some 14) (v := ?_) rfl rfl (by kernel_rfl) (by kernel_rfl) (by kernel_rfl) (by kernel_rfl) (by kernel_rfl) rfl (fun _ _ _ h => h) (Or.inl ⟨rfl, ?_⟩) H1 ?_
        rotate_left
        · intro W hW; have hW := HS.out W hW; go_simp; try with_reducible rfl
        simp only [put_list, List.set]
        refine Drawn.among [8, 9] (by kernel_rfl) (by decide) ?_
        intro i hi
        simp only [List.mem_cons, List.not_mem_nil, or_false] at hi
        rcases hi with rfl | rfl
        · refine ⟨_, rfl, rfl, fun K hK => ?_⟩
          go_simp
          refine hK _ _ (fun _ _ => H1.alloc _) ?_
          clear hK K
          have h5 : New4 (w.heap.size + 1 + 1 + 1) (.int .u64 0) (.int .u64 0) (.int .u64 0) (.int .u64 0) 45 _ _ := New4.here _ H1.size
          replace H1 := H1.alloc (.cells #[.int .u64 0, .int .u64 0, .int .u64 0, .int .u64 0] 45)
          generalize World.alloc _ _ = V1 at H1 h5 ⊢
          refine Drawn.only 9 (by kernel_rfl) rfl rfl (fun K hK => ?_)
          go_simp
          refine hK _ _ (fun _ _ => H1.alloc _) ?_
          clear hK K
          have h6 : New4 (w.heap.size + 1 + 1 + 1) (.int .u64 0) (.int .u64 0) (.int .u64 0) (.int .u64 0) 45 _ _ := New4.here _ H1.size
          have nh6h5 := h5.2.1
          replace h5 := h5.past (.cells #[.int .u64 0, .int .u64 0, .int .u64 0, .int .u64 0] 45)
          replace H1 := H1.alloc (.cells #[.int .u64 0, .int .u64 0, .int .u64 0, .int .u64 0] 45)
          generalize World.alloc _ _ = V2 at H1 h6 h5 ⊢
          obtain ⟨⟨c0, c1, c2, c3⟩, g0, g1, g2, g3⟩ := h5.cells
          refine Drawn.only 10 (by kernel_rfl) rfl rfl (fun K hK => ?_)
          go_simp
          refine hK _ _ (fun _ _ => H1.set4 h5.ge _ _ _ _) ?_
          clear hK K c0 c1 c2 c3 g0 g1 g2 g3
          have k5 := heap_set4 h5.1 (.int .u64 q0) (.int .u64 q1) (.int .u64 q2) (.int .u64 q3)
          replace h6 := h6.other h5 (by omega) (.int .u64 q0) (.int .u64 q1) (.int .u64 q2) (.int .u64 q3)
          replace H1 := H1.set4 h5.ge (.int .u64 q0) (.int .u64 q1) (.int .u64 q2) (.int .u64 q3)
          obtain ⟨⟨c0, c1, c2, c3⟩, g0, g1, g2, g3⟩ := h6.cells
          refine Drawn.only 11 (by kernel_rfl) rfl rfl (fun K hK => ?_)
          go_simp
          refine hK _ _ (fun h => by simp at h) ?_
          exact Drawn.done (by kernel_rfl) (hK' _ _ (Met.intro (hJ _ _ ⟨_, _, q0, q1, q2, q3, r0, r1, r2, r3, rfl, HQ.out, HR.out, H1.set4 h6.ge _ _ _ _, (heap_far (by omega) _ _ _ _).trans k5, heap_set4 h6.1 _ _ _ _⟩))) _
        · refine ⟨_, rfl, rfl, fun K hK => ?_⟩
          go_simp
          refine hK _ _ (fun _ _ => H1.alloc _) ?_
          clear hK K
          have h6 : New4 (w.heap.size + 1 + 1 + 1) (.int .u64 0) (.int .u64 0) (.int .u64 0) (.int .u64 0) 45 _ _ := New4.here _ H1.size
          replace H1 := H1.alloc (.cells #[.int .u64 0, .int .u64 0, .int .u64 0, .int .u64 0] 45)
          generalize World.alloc _ _ = V3 at H1 h6 ⊢
          refine Drawn.only 8 (by kernel_rfl) rfl rfl (fun K hK => ?_)
          go_simp
          refine hK _ _ (fun _ _ => H1.alloc _) ?_
          clear hK K
          have h5 : New4 (w.heap.size + 1 + 1 + 1) (.int .u64 0) (.int .u64 0) (.int .u64 0) (.int .u64 0) 45 _ _ := New4.here _ H1.size
          have nh5h6 := h6.2.1
          replace h6 := h6.past (.cells #[.int .u64 0, .int .u64 0, .int .u64 0, .int .u64 0] 45)
          replace H1 := H1.alloc (.cells #[.int .u64 0, .int .u64 0, .int .u64 0, .int .u64 0] 45)
          generalize World.alloc _ _ = V4 at H1 h5 h6 ⊢
          obtain ⟨⟨c0, c1, c2, c3⟩, g0, g1, g2, g3⟩ := h5.cells
          refine Drawn.only 10 (by kernel_rfl) rfl rfl (fun K hK => ?_)
          go_simp
          refine hK _ _ (fun _ _ => H1.set4 h5.ge _ _ _ _) ?_
          clear hK K c0 c1 c2 c3 g0 g1 g2 g3
          have k5 := heap_set4 h5.1 (.int .u64 q0) (.int .u64 q1) (.int .u64 q2) (.int .u64 q3)
          replace h6 := h6.other h5 (by omega) (.int .u64 q0) (.int .u64 q1) (.int .u64 q2) (.int .u64 q3)
          replace H1 := H1.set4 h5.ge (.int .u64 q0) (.int .u64 q1) (.int .u64 q2) (.int .u64 q3)
          obtain ⟨⟨c0, c1, c2, c3⟩, g0, g1, g2, g3⟩ := h6.cells
          refine Drawn.only 11 (by kernel_rfl) rfl rfl (fun K hK => ?_)
          go_simp
          refine hK _ _ (fun h => by simp at h) ?_
          exact Drawn.done (by kernel_rfl) (hK' _ _ (Met.intro (hJ _ _ ⟨_, _, q0, q1, q2, q3, r0, r1, r2, r3, rfl, HQ.out, HR.out, H1.set4 h6.ge _ _ _ _, (heap_far (by omega) _ _ _ _).trans k5, heap_set4 h6.1 _ _ _ _⟩))) _
      · refine ⟨_, rfl, rfl, fun K hK => ?_⟩
        go_simp
        refine hK _ _ (fun _ _ => H1.alloc _) ?_
        clear hK K
        have h5 : New4 (w.heap.size + 1 + 1 + 1) (.int .u64 0) (.int .u64 0) (.int .u64 0) (.int .u64 0) 45 _ _ := New4.here _ H1.size
        replace H1 := H1.alloc (.cells #[.int .u64 0, .int .u64 0, .int .u64 0, .int .u64 0] 45)
        generalize World.alloc _ _ = V5 at H1 h5 ⊢
        refine Drawn.among [4, 9] (by kernel_rfl) (by decide) ?_
        intro i hi
        simp only [List.mem_cons, List.not_mem_nil, or_false] at hi
        rcases hi with rfl | rfl
        · refine ⟨_, rfl, rfl, fun K hK => ?_⟩
          go_simp
          refine (D.out _).mono ?_
          rintro e w3 ⟨q0, q1, q2, q3, r0, r1, r2, r3, rfl, hq, hr, hb⟩
          have HQ := Lib.hid hq; have HR := Lib.hid hr; clear hq hr
          refine hK _ _ (fun _ _ => H1.call hb) ?_
          replace h5 := carry4 hb h5
          replace H1 := H1.call hb
          clear hK K hb
          refine Drawn.take 5 (some 7) (v := ?_) rfl rfl (by kernel_rfl) (by kernel_rfl) (by kernel_rfl) (by kernel_rfl) (by kernel_rfl) rfl (fun _ _ _ h => h) (Or.inl ⟨rfl, ?_⟩) H1 ?_
          rotate_left
          · intro W hW; have hW := HS.out W hW; go_simp; try with_reducible rfl
          simp only [put_list, List.set]
          refine Drawn.take 6 (some 13) (v := ?_) rfl rfl (by kernel_rfl) (by kernel_rfl) (by kernel_rfl) (by kernel_rfl) (by kernel_rfl) rfl (fun _ _ _ h => h) (Or.inl ⟨rfl, ?_⟩) H1 ?_
          rotate_left
          · intro W hW; have hW := HS.out W hW; go_simp; try with_reducible rfl
          simp only [put_list, List.set]
          refine Drawn.take 7 (some 14) (v := ?_) rfl rfl (by kernel_rfl) (by kernel_rfl) (by kernel_rfl) (by kernel_rfl) (by kernel_rfl) rfl (fun _ _ _ h => h) (Or.inl ⟨rfl, ?_⟩) H1 ?_
          rotate_left
          · intro W hW; have hW := HS.out W hW; go_simp; try with_reducible rfl
          simp only [put_list, List.set]
          refine Drawn.only 9 (by kernel_rfl) rfl rfl (fun K hK => ?_)
          go_simp
          refine hK _ _ (fun _ _ => H1.alloc _) ?_
          clear hK K
          have h6 : New4 (w.heap.size + 1 + 1 + 1) (.int .u64 0) (.int .u64 0) (.int .u64 0) (.int .u64 0) 45 _ _ := New4.here _ H1.size
          have nh6h5 := h5.2.1
          replace h5 := h5.past (.cells #[.int .u64 0, .int .u64 0, .int .u64 0, .int .u64 0] 45)
          replace H1 := H1.alloc (.cells #[.int .u64 0, .int .u64 0, .int .u64 0, .int .u64 0] 45)
          generalize World.alloc _ _ = V6 at H1 h6 h5 ⊢
          obtain ⟨⟨c0, c1, c2, c3⟩, g0, g1, g2, g3⟩ := h5.cells
          refine Drawn.only 10 (by kernel_rfl) rfl rfl (fun K hK => ?_)
          go_simp
          refine hK _ _ (fun _ _ => H1.set4 h5.ge _ _ _ _) ?_
          clear hK K c0 c1 c2 c3 g0 g1 g2 g3
          have k5 := heap_set4 h5.1 (.int .u64 q0) (.int .u64 q1) (.int .u64 q2) (.int .u64 q3)
          replace h6 := h6.other h5 (by omega) (.int .u64 q0) (.int .u64 q1) (.int .u64 q2) (.int .u64 q3)
          replace H1 := H1.set4 h5.ge (.int .u64 q0) (.int .u64 q1) (.int .u64 q2) (.int .u64 q3)
          obtain ⟨⟨c0, c1, c2, c3⟩, g0, g1, g2, g3⟩ := h6.cells
          refine Drawn.only 11 (by kernel_rfl) rfl rfl (fun K hK => ?_)
          go_simp
          refine hK _ _ (fun h => by simp at h) ?_
          exact Drawn.done (by kernel_rfl) (hK' _ _ (Met.intro (hJ _ _ ⟨_, _, q0, q1, q2, q3, r0, r1, r2, r3, rfl, HQ.out, HR.out, H1.set4 h6.ge _ _ _ _, (heap_far (by omega) _ _ _ _).trans k5, heap_set4 h6.1 _ _ _ _⟩))) _
        · refine ⟨_, rfl, rfl, fun K hK => ?_⟩
          go_simp
          refine hK _ _ (fun _ _ => H1.alloc _) ?_
          clear hK K
          have h6 : New4 (w.heap.size + 1 + 1 + 1) (.int .u64 0) (.int .u64 0) (.int .u64 0) (.int .u64 0) 45 _ _ := New4.here _ H1.size
          have nh6h5 := h5.2.1
          replace h5 := h5.past (.cells #[.int .u64 0, .int .u64 0, .int .u64 0, .int .u64 0] 45)
          replace H1 := H1.alloc (.cells #[.int .u64 0, .int .u64 0, .int .u64 0, .int .u64 0] 45)
          generalize World.alloc _ _ = V7 at H1 h6 h5 ⊢
          refine Drawn.only 4 (by kernel_rfl) rfl rfl (fun K hK => ?_)
          go_simp
          refine (D.out _).mono ?_
          rintro e w3 ⟨q0, q1, q2, q3, r0, r1, r2, r3, rfl, hq, hr, hb⟩
          have HQ := Lib.hid hq; have HR := Lib.hid hr; clear hq hr
          refine hK _ _ (fun _ _ => H1.call hb) ?_
          replace h5 := carry4 hb h5
          replace h6 := carry4 hb h6
          replace H1 := H1.call hb
          clear hK K hb
          refine Drawn.take 5 (some 7) (v := ?_) rfl rfl (by kernel_rfl) (by kernel_rfl) (by kernel_rfl) (by kernel_rfl) (by kernel_rfl) rfl (fun _ _ _ h => h) (Or.inl ⟨rfl, ?_⟩) H1 ?_
          rotate_left
          · intro W hW; have hW := HS.out W hW; go_simp; try with_reducible rfl
          simp only [put_list, List.set]
          refine Drawn.take 6 (some 13) (v := ?_) rfl rfl (by kernel_rfl) (by kernel_rfl) (by kernel_rfl) (by kernel_rfl) (by kernel_rfl) rfl (fun _ _ _ h => h) (Or.inl ⟨rfl, ?_⟩) H1 ?_
          rotate_left
          · intro W hW; have hW := HS.out W hW; go_simp; try with_reducible rfl
          simp only [put_list, List.set]
          refine Drawn.take 7 (some 14) (v := ?_) rfl rfl (by kernel_rfl) (by kernel_rfl) (by kernel_rfl) (by kernel_rfl) (by kernel_rfl) rfl (fun _ _ _ h => h) (Or.inl ⟨rfl, ?_⟩) H1 ?_
          rotate_left
          · intro W hW; have hW := HS.out W hW; go_simp; try with_reducible rfl
          simp only [put_list, List.set]
          obtain ⟨⟨c0, c1, c2, c3⟩, g0, g1, g2, g3⟩ := h5.cells
          refine Drawn.only 10 (by kernel_rfl) rfl rfl (fun K hK => ?_)
          go_simp
          refine hK _ _ (fun _ _ => H1.set4 h5.ge _ _ _ _) ?_
          clear hK K c0 c1 c2 c3 g0 g1 g2 g3
          have k5 := heap_set4 h5.1 (.int .u64 q0) (.int .u64 q1) (.int .u64 q2) (.int .u64 q3)
          replace h6 := h6.other h5 (by omega) (.int .u64 q0) (.int .u64 q1) (.int .u64 q2) (.int .u64 q3)
          replace H1 := H1.set4 h5.ge (.int .u64 q0) (.int .u64 q1) (.int .u64 q2) (.int .u64 q3)
          obtain ⟨⟨c0, c1, c2, c3⟩, g0, g1, g2, g3⟩ := h6.cells
          refine Drawn.only 11 (by kernel_rfl) rfl rfl (fun K hK => ?_)
          go_simp
          refine hK _ _ (fun h => by simp at h) ?_
          exact Drawn.done (by kernel_rfl) (hK' _ _ (Met.intro (hJ _ _ ⟨_, _, q0, q1, q2, q3, r0, r1, r2, r3, rfl, HQ.out, HR.out, H1.set4 h6.ge _ _ _ _, (heap_far (by omega) _ _ _ _).trans k5, heap_set4 h6.1 _ _ _ _⟩))) _
      · refine ⟨_, rfl, rfl, fun K hK => ?_⟩
        go_simp
        refine hK _ _ (fun _ _ => H1.alloc _) ?_
        clear hK K
        have h6 : New4 (w.heap.size + 1 + 1 + 1) (.int .u64 0) (.int .u64 0) (.int .u64 0) (.int .u64 0) 45 _ _ := New4.here _ H1.size
        replace H1 := H1.alloc (.cells #[.int .u64 0, .int .u64 0, .int .u64 0, .int .u64 0] 45)
        generalize World.alloc _ _ = V8 at H1 h6 ⊢
        refine Drawn.among [4, 8] (by kernel_rfl) (by decide) ?_
        intro i hi
        simp only [List.mem_cons, List.not_mem_nil, or_false] at hi
        rcases hi with rfl | rfl
        · refine ⟨_, rfl, rfl, fun K hK => ?_⟩
          go_simp
          refine (D.out _).mono ?_
          rintro e w3 ⟨q0, q1, q2, q3, r0, r1, r2, r3, rfl, hq, hr, hb⟩
          have HQ := Lib.hid hq; have HR := Lib.hid hr; clear hq hr
          refine hK _ _ (fun _ _ => H1.call hb) ?_
          replace h6 := carry4 hb h6
          replace H1 := H1.call hb
          clear hK K hb
          refine Drawn.take 5 (some 7) (v := ?_) rfl rfl (by kernel_rfl) (by kernel_rfl) (by kernel_rfl) (by kernel_rfl) (by kernel_rfl) rfl (fun _ _ _ h => h) (Or.inl ⟨rfl, ?_⟩) H1 ?_
          rotate_left
          · intro W hW; have hW := HS.out W hW; go_simp; try with_reducible rfl
          simp only [put_list, List.set]
          refine Drawn.take 6 (some 13) (v := ?_) rfl rfl (by kernel_rfl) (by kernel_rfl) (by kernel_rfl) (by kernel_rfl) (by kernel_rfl) rfl (fun _ _ _ h => h) (Or.inl ⟨rfl, ?_⟩) H1 ?_
          rotate_left
          · intro W hW; have hW := HS.out W hW; go_simp; try with_reducible rfl
          simp only [put_list, List.set]
          refine Drawn.take 7 (some 14) (v := ?_) rfl rfl (by kernel_rfl) (by kernel_rfl) (by kernel_rfl) (by kernel_rfl) (by kernel_rfl) rfl (fun _ _ _ h => h) (Or.inl ⟨rfl, ?_⟩) H1 ?_
          rotate_left
          · intro W hW; have hW := HS.out W hW; go_simp; try with_reducible rfl
          simp only [put_list, List.set]
          refine Drawn.only 8 (by kernel_rfl) rfl rfl (fun K hK => ?_)
          go_simp
          refine hK _ _ (fun _ _ => H1.alloc _) ?_
          clear hK K
          have h5 : New4 (w.heap.size + 1 + 1 + 1) (.int .u64 0) (.int .u64 0) (.int .u64 0) (.int .u64 0) 45 _ _ := New4.here _ H1.size
          have nh5h6 := h6.2.1
          replace h6 := h6.past (.cells #[.int .u64 0, .int .u64 0, .int .u64 0, .int .u64 0] 45)
          replace H1 := H1.alloc (.cells #[.int .u64 0, .int .u64 0, .int .u64 0, .int .u64 0] 45)
          generalize World.alloc _ _ = V9 at H1 h5 h6 ⊢
          obtain ⟨⟨c0, c1, c2, c3⟩, g0, g1, g2, g3⟩ := h5.cells
          refine Drawn.only 10 (by kernel_rfl) rfl rfl (fun K hK => ?_)
          go_simp
          refine hK _ _ (fun _ _ => H1.set4 h5.ge _ _ _ _) ?_
          clear hK K c0 c1 c2 c3 g0 g1 g2 g3
          have k5 := heap_set4 h5.1 (.int .u64 q0) (.int .u64 q1) (.int .u64 q2) (.int .u64 q3)
          replace h6 := h6.other h5 (by omega) (.int .u64 q0) (.int .u64 q1) (.int .u64 q2) (.int .u64 q3)
          replace H1 := H1.set4 h5.ge (.int .u64 q0) (.int .u64 q1) (.int .u64 q2) (.int .u64 q3)
          obtain ⟨⟨c0, c1, c2, c3⟩, g0, g1, g2, g3⟩ := h6.cells
          refine Drawn.only 11 (by kernel_rfl) rfl rfl (fun K hK => ?_)
          go_simp
          refine hK _ _ (fun h => by simp at h) ?_
          exact Drawn.done (by kernel_rfl) (hK' _ _ (Met.intro (hJ _ _ ⟨_, _, q0, q1, q2, q3, r0, r1, r2, r3, rfl, HQ.out, HR.out, H1.set4 h6.ge _ _ _ _, (heap_far (by omega) _ _ _ _).trans k5, heap_set4 h6.1 _ _ _ _⟩))) _
        · refine ⟨_, rfl, rfl, fun K hK => ?_⟩
          go_simp
          refine hK _ _ (fun _ _ => H1.alloc _) ?_
          clear hK K
          have h5 : New4 (w.heap.size + 1 + 1 + 1) (.int .u64 0) (.int .u64 0) (.int .u64 0) (.int .u64 0) 45 _ _ := New4.here _ H1.size
          have nh5h6 := h6.2.1
          replace h6 := h6.past (.cells #[.int .u64 0, .int .u64 0, .int .u64 0, .int .u64 0] 45)
          replace H1 := H1.alloc (.cells #[.int .u64 0, .int .u64 0, .int .u64 0, .int .u64 0] 45)
          generalize World.alloc _ _ = V10 at H1 h5 h6 ⊢
          refine Drawn.only 4 (by kernel_rfl) rfl rfl (fun K hK => ?_)
          go_simp
          refine (D.out _).mono ?_
          rintro e w3 ⟨q0, q1, q2, q3, r0, r1, r2, r3, rfl, hq, hr, hb⟩
          have HQ := Lib.hid hq; have HR := Lib.hid hr; clear hq hr
          refine hK _ _ (fun _ _ => H1.call hb) ?_
          replace h5 := carry4 hb h5
          replace h6 := carry4 hb h6
          replace H1 := H1.call hb
          clear hK K hb
          refine Drawn.take 5 (some 7) (v := ?_) rfl rfl (by kernel_rfl) (by kernel_rfl) (by kernel_rfl) (by kernel_rfl) (by kernel_rfl) rfl (fun _ _ _ h => h) (Or.inl ⟨rfl, ?_⟩) H1 ?_
          rotate_left
          · intro W hW; have hW := HS.out W hW; go_simp; try with_reducible rfl
          simp only [put_list, List.set]
          refine Drawn.take 6 (some 13) (v := ?_) rfl rfl (by kernel_rfl) (by kernel_rfl) (by kernel_rfl) (by kernel_rfl) (by kernel_rfl) rfl (fun _ _ _ h => h) (Or.inl ⟨rfl, ?_⟩) H1 ?_
          rotate_left
          · intro W hW; have hW := HS.out W hW; go_simp; try with_reducible rfl
          simp only [put_list, List.set]
          refine Drawn.take 7 (some 14) (v := ?_) rfl rfl (by kernel_rfl) (by kernel_rfl) (by kernel_rfl) (by kernel_rfl) (by kernel_rfl) rfl (fun _ _ _ h => h) (Or.inl ⟨rfl, ?_⟩) H1 ?_
          rotate_left
          · intro W hW; have hW := HS.out W hW; go_simp; try with_reducible rfl
          simp only [put_list, List.set]
          obtain ⟨⟨c0, c1, c2, c3⟩, g0, g1, g2, g3⟩ := h5.cells
          refine Drawn.only 10 (by kernel_rfl) rfl rfl (fun K hK => ?_)
          go_simp
          refine hK _ _ (fun _ _ => H1.set4 h5.ge _ _ _ _) ?_
          clear hK K c0 c1 c2 c3 g0 g1 g2 g3
          have k5 := heap_set4 h5.1 (.int .u64 q0) (.int .u64 q1) (.int .u64 q2) (.int .u64 q3)
          replace h6 := h6.other h5 (by omega) (.int .u64 q0) (.int .u64 q1) (.int .u64 q2) (.int .u64 q3)
          replace H1 := H1.set4 h5.ge (.int .u64 q0) (.int .u64 q1) (.int .u64 q2) (.int .u64 q3)
          obtain ⟨⟨c0, c1, c2, c3⟩, g0, g1, g2, g3⟩ := h6.cells
          refine Drawn.only 11 (by kernel_rfl) rfl rfl (fun K hK => ?_)
          go_simp
          refine hK _ _ (fun h => by simp at h) ?_
          exact Drawn.done (by kernel_rfl) (hK' _ _ (Met.intro (hJ _ _ ⟨_, _, q0, q1, q2, q3, r0, r1, r2, r3, rfl, HQ.out, HR.out, H1.set4 h6.ge _ _ _ _, (heap_far (by omega) _ _ _ _).trans k5, heap_set4 h6.1 _ _ _ _⟩))) _
    · refine ⟨_, rfl, rfl, fun K hK => ?_⟩
      go_simp
      refine hK _ _ (fun _ _ => H1.alloc _) ?_
      clear hK K
      have h5 : New4 (w.heap.size + 1 + 1 + 1) (.int .u64 0) (.int .u64 0) (.int .u64 0) (.int .u64 0) 45 _ _ := New4.here _ H1.size
      replace H1 := H1.alloc (.cells #[.int .u64 0, .int .u64 0, .int .u64 0, .int .u64 0] 45)
      generalize World.alloc _ _ = V11 at H1 h5 ⊢
      refine Drawn.among [3, 9] (by kernel_rfl) (by decide) ?_
      intro i hi
      simp only [List.mem_cons, List.not_mem_nil, or_false] at hi
      rcases hi with rfl | rfl
      · refine ⟨_, rfl, rfl, fun K hK => ?_⟩
        go_simp
        refine (split_any _ _ _ _ _).mono ?_
        rintro e w2 ⟨rfl, hb⟩
        refine hK _ _ (fun _ _ => H1.call hb) ?_
        replace h5 := carry4 hb h5
        replace H1 := H1.call hb
        clear hK K hb
        refine Drawn.among [4, 9] (by kernel_rfl) (by decide) ?_
        intro i hi
        simp only [List.mem_cons, List.not_mem_nil, or_false] at hi
        rcases hi with rfl | rfl
        · refine ⟨_, rfl, rfl, fun K hK => ?_⟩
          go_simp
          refine (D.out _).mono ?_
          rintro e w3 ⟨q0, q1, q2, q3, r0, r1, r2, r3, rfl, hq, hr, hb⟩
          have HQ := Lib.hid hq; have HR := Lib.hid hr; clear hq hr
          refine hK _ _ (fun _ _ => H1.call hb) ?_
          replace h5 := carry4 hb h5
          replace H1 := H1.call hb
          clear hK K hb
          refine Drawn.take 5 (some 7) (v := ?_) rfl rfl (by kernel_rfl) (by kernel_rfl) (by kernel_rfl) (by kernel_rfl) (by kernel_rfl) rfl (fun _ _ _ h => h) (Or.inl ⟨rfl, ?_⟩) H1 ?_
          rotate_left
          · intro W hW; have hW := HS.out W hW; go_simp; try with_reducible rfl
          simp only [put_list, List.set]
          refine Drawn.take 6 (some 13) (v := ?_) rfl rfl (by kernel_rfl) (by kernel_rfl) (by kernel_rfl) (by kernel_rfl) (by kernel_rfl) rfl (fun _ _ _ h => h) (Or.inl ⟨rfl, ?_⟩) H1 ?_
          rotate_left
          · intro W hW; have hW := HS.out W hW; go_simp; try with_reducible rfl
          simp only [put_list, List.set]
          refine Drawn.take 7 (some 14) (v := ?_) rfl rfl (by kernel_rfl) (by kernel_rfl) (by kernel_rfl) (by kernel_rfl) (by kernel_rfl) rfl (fun _ _ _ h => h) (Or.inl ⟨rfl, ?_⟩) H1 ?_
          rotate_left
          · intro W hW; have hW := HS.out W hW; go_simp; try with_reducible rfl
          simp only [put_list, List.set]
          refine Drawn.only 9 (by kernel_rfl) rfl rfl (fun K hK => ?_)
          go_simp
          refine hK _ _ (fun _ _ => H1.alloc _) ?_
          clear hK K
          have h6 : New4 (w.heap.size + 1 + 1 + 1) (.int .u64 0) (.int .u64 0) (.int .u64 0) (.int .u64 0) 45 _ _ := New4.here _ H1.size
          have nh6h5 := h5.2.1
          replace h5 := h5.past (.cells #[.int .u64 0, .int .u64 0, .int .u64 0, .int .u64 0] 45)
          replace H1 := H1.alloc (.cells #[.int .u64 0, .int .u64 0, .int .u64 0, .int .u64 0] 45)
          generalize World.alloc _ _ = V12 at H1 h6 h5 ⊢
          obtain ⟨⟨c0, c1, c2, c3⟩, g0, g1, g2, g3⟩ := h5.cells
          refine Drawn.only 10 (by kernel_rfl) rfl rfl (fun K hK => ?_)
          go_simp
          refine hK _ _ (fun _ _ => H1.set4 h5.ge _ _ _ _) ?_
          clear hK K c0 c1 c2 c3 g0 g1 g2 g3
          have k5 := heap_set4 h5.1 (.int .u64 q0) (.int .u64 q1) (.int .u64 q2) (.int .u64 q3)
          replace h6 := h6.other h5 (by omega) (.int .u64 q0) (.int .u64 q1) (.int .u64 q2) (.int .u64 q3)
          replace H1 := H1.set4 h5.ge (.int .u64 q0) (.int .u64 q1) (.int .u64 q2) (.int .u64 q3)
          obtain ⟨⟨c0, c1, c2, c3⟩, g0, g1, g2, g3⟩ := h6.cells
          refine Drawn.only 11 (by kernel_rfl) rfl rfl (fun K hK => ?_)
          go_simp
          refine hK _ _ (fun h => by simp at h) ?_
          exact Drawn.done (by kernel_rfl) (hK' _ _ (Met.intro (hJ _ _ ⟨_, _, q0, q1, q2, q3, r0, r1, r2, r3, rfl, HQ.out, HR.out, H1.set4 h6.ge _ _ _ _, (heap_far (by omega) _ _ _ _).trans k5, heap_set4 h6.1 _ _ _ _⟩))) _
        · refine ⟨_, rfl, rfl, fun K hK => ?_⟩
          go_simp
          refine hK _ _ (fun _ _ => H1.alloc _) ?_
          clear hK K
          have h6 : New4 (w.heap.size + 1 + 1 + 1) (.int .u64 0) (.int .u64 0) (.int .u64 0) (.int .u64 0) 45 _ _ := New4.here _ H1.size
          have nh6h5 := h5.2.1
          replace h5 := h5.past (.cells #[.int .u64 0, .int .u64 0, .int .u64 0, .int .u64 0] 45)
          replace H1 := H1.alloc (.cells #[.int .u64 0, .int .u64 0, .int .u64 0, .int .u64 0] 45)
          generalize World.alloc _ _ = V13 at H1 h6 h5 ⊢
          refine Drawn.only 4 (by kernel_rfl) rfl rfl (fun K hK => ?_)
          go_simp
          refine (D.out _).mono ?_
          rintro e w3 ⟨q0, q1, q2, q3, r0, r1, r2, r3, rfl, hq, hr, hb⟩
          have HQ := Lib.hid hq; have HR := Lib.hid hr; clear hq hr
          refine hK _ _ (fun _ _ => H1.call hb) ?_
          replace h5 := carry4 hb h5
          replace h6 := carry4 hb h6
          replace H1 := H1.call hb
          clear hK K hb
          refine Drawn.take 5 (some 7) (v := ?_) rfl rfl (by kernel_rfl) (by kernel_rfl) (by kernel_rfl) (by kernel_rfl) (by kernel_rfl) rfl (fun _ _ _ h => h) (Or.inl ⟨rfl, ?_⟩) H1 ?_
          rotate_left
          · intro W hW; have hW := HS.out W hW; go_simp; try with_reducible rfl
          simp only [put_list, List.set]
          refine Drawn.take 6 (some 13) (v := ?_) rfl rfl (by kernel_rfl) (by kernel_rfl) (by kernel_rfl) (by kernel_rfl) (by kernel_rfl) rfl (fun _ _ _ h => h) (Or.inl ⟨rfl, ?_⟩) H1 ?_
          rotate_left
          · intro W hW; have hW := HS.out W hW; go_simp; try with_reducible rfl
          simp only [put_list, List.set]
          refine Drawn.take 7 (some 14) (v := ?_) rfl rfl (by kernel_rfl) (by kernel_rfl) (by kernel_rfl) (by kernel_rfl) (by kernel_rfl) rfl (fun _ _ _ h => h) (Or.inl ⟨rfl, ?_⟩) H1 ?_
          rotate_left
          · intro W hW; have hW := HS.out W hW; go_simp; try with_reducible rfl
          simp only [put_list, List.set]
          obtain ⟨⟨c0, c1, c2, c3⟩, g0, g1, g2, g3⟩ := h5.cells
          refine Drawn.only 10 (by kernel_rfl) rfl rfl (fun K hK => ?_)
          go_simp
          refine hK _ _ (fun _ _ => H1.set4 h5.ge _ _ _ _) ?_
          clear hK K c0 c1 c2 c3 g0 g1 g2 g3
          have k5 := heap_set4 h5.1 (.int .u64 q0) (.int .u64 q1) (.int .u64 q2) (.int .u64 q3)
          replace h6 := h6.other h5 (by omega) (.int .u64 q0) (.int .u64 q1) (.int .u64 q2) (.int .u64 q3)
          replace H1 := H1.set4 h5.ge (.int .u64 q0) (.int .u64 q1) (.int .u64 q2) (.int .u64 q3)
          obtain ⟨⟨c0, c1, c2, c3⟩, g0, g1, g2, g3⟩ := h6.cells
          refine Drawn.only 11 (by kernel_rfl) rfl rfl (fun K hK => ?_)
          go_simp
          refine hK _ _ (fun h => by simp at h) ?_
          exact Drawn.done (by kernel_rfl) (hK' _ _ (Met.intro (hJ _ _ ⟨_, _, q0, q1, q2, q3, r0, r1, r2, r3, rfl, HQ.out, HR.out, H1.set4 h6.ge _ _ _ _, (heap_far (by omega) _ _ _ _).trans k5, heap_set4 h6.1 _ _ _ _⟩))) _
      · refine ⟨_, rfl, rfl, fun K hK => ?_⟩
        go_simp
        refine hK _ _ (fun _ _ => H1.alloc _) ?_
        clear hK K
        have h6 : New4 (w.heap.size + 1 + 1 + 1) (.int .u64 0) (.int .u64 0) (.int .u64 0) (.int .u64 0) 45 _ _ := New4.here _ H1.size
        have nh6h5 := h5.2.1
        replace h5 := h5.past (.cells #[.int .u64 0, .int .u64 0, .int .u64 0, .int .u64 0] 45)
        replace H1 := H1.alloc (.cells #[.int .u64 0, .int .u64 0, .int .u64 0, .int .u64 0] 45)
        generalize World.alloc _ _ = V14 at H1 h6 h5 ⊢
        refine Drawn.only 3 (by kernel_rfl) rfl rfl (fun K hK => ?_)
        go_simp
        refine (split_any _ _ _ _ _).mono ?_
        rintro e w2 ⟨rfl, hb⟩
        refine hK _ _ (fun _ _ => H1.call hb) ?_
        replace h5 := carry4 hb h5
        replace h6 := carry4 hb h6
        replace H1 := H1.call hb
        clear hK K hb
        refine Drawn.only 4 (by kernel_rfl) rfl rfl (fun K hK => ?_)
        go_simp
        refine (D.out _).mono ?_
        rintro e w3 ⟨q0, q1, q2, q3, r0, r1, r2, r3, rfl, hq, hr, hb⟩
        have HQ := Lib.hid hq; have HR := Lib.hid hr; clear hq hr
        refine hK _ _ (fun _ _ => H1.call hb) ?_
        replace h5 := carry4 hb h5
        replace h6 := carry4 hb h6
        replace H1 := H1.call hb
        clear hK K hb
        refine Drawn.take 5 (some 7) (v := ?_) rfl rfl (by kernel_rfl) (by kernel_rfl) (by kernel_rfl) (by kernel_rfl) (by kernel_rfl) rfl (fun _ _ _ h => h) (Or.inl ⟨rfl, ?_⟩) H1 ?_
        rotate_left
        · intro W hW; have hW := HS.out W hW; go_simp; try with_reducible rfl
        simp only [put_list, List.set]
        refine Drawn.take 6 (some 13) (v := ?_) rfl rfl (by kernel_rfl) (by kernel_rfl) (by kernel_rfl) (by kernel_rfl) (by kernel_rfl) rfl (fun _ _ _ h => h) (Or.inl ⟨rfl, ?_⟩) H1 ?_
        rotate_left
        · intro W hW; have hW := HS.out W hW; go_simp; try with_reducible rfl
        simp only [put_list, List.set]
        refine Drawn.take 7 (some 14) (v := ?_) rfl rfl (by kernel_rfl) (by kernel_rfl) (by kernel_rfl) (by kernel_rfl) (by kernel_rfl) rfl (fun _ _ _ h => h) (Or.inl ⟨rfl, ?_⟩) H1 ?_
        rotate_left
        · intro W hW; have hW := HS.out W hW; go_simp; try with_reducible rfl
        simp only [put_list, List.set]
        obtain ⟨⟨c0, c1, c2, c3⟩, g0, g1, g2, g3⟩ := h5.cells
        refine Drawn.only 10 (by kernel_rfl) rfl rfl (fun K hK => ?_)
        go_simp
        refine hK _ _ (fun _ _ => H1.set4 h5.ge _ _ _ _) ?_
        clear hK K c0 c1 c2 c3 g0 g1 g2 g3
        have k5 := heap_set4 h5.1 (.int .u64 q0) (.int .u64 q1) (.int .u64 q2) (.int .u64 q3)
        replace h6 := h6.other h5 (by omega) (.int .u64 q0) (.int .u64 q1) (.int .u64 q2) (.int .u64 q3)
        replace H1 := H1.set4 h5.ge (.int .u64 q0) (.int .u64 q1) (.int .u64 q2) (.int .u64 q3)
        obtain ⟨⟨c0, c1, c2, c3⟩, g0, g1, g2, g3⟩ := h6.cells
        refine Drawn.only 11 (by kernel_rfl) rfl rfl (fun K hK => ?_)
        go_simp
        refine hK _ _ (fun h => by simp at h) ?_
        exact Drawn.done (by kernel_rfl) (hK' _ _ (Met.intro (hJ _ _ ⟨_, _, q0, q1, q2, q3, r0, r1, r2, r3, rfl, HQ.out, HR.out, H1.set4 h6.ge _ _ _ _, (heap_far (by omega) _ _ _ _).trans k5, heap_set4 h6.1 _ _ _ _⟩))) _
    · refine ⟨_, rfl, rfl, fun K hK => ?_⟩
      go_simp
      refine hK _ _ (fun _ _ => H1.alloc _) ?_
      clear hK K
      have h6 : New4 (w.heap.size + 1 + 1 + 1) (.int .u64 0) (.int .u64 0) (.int .u64 0) (.int .u64 0) 45 _ _ := New4.here _ H1.size
      replace H1 := H1.alloc (.cells #[.int .u64 0, .int .u64 0, .int .u64 0, .int .u64 0] 45)
      generalize World.alloc _ _ = V15 at H1 h6 ⊢
      refine Drawn.among [3, 8] (by kernel_rfl) (by decide) ?_
      intro i hi
      simp only [List.mem_cons, List.not_mem_nil, or_false] at hi
      rcases hi with rfl | rfl
      · refine ⟨_, rfl, rfl, fun K hK => ?_⟩
        go_simp
        refine (split_any _ _ _ _ _).mono ?_
        rintro e w2 ⟨rfl, hb⟩
        refine hK _ _ (fun _ _ => H1.call hb) ?_
        replace h6 := carry4 hb h6
        replace H1 := H1.call hb
        clear hK K hb
        refine Drawn.among [4, 8] (by kernel_rfl) (by decide) ?_
        intro i hi
        simp only [List.mem_cons, List.not_mem_nil, or_false] at hi
        rcases hi with rfl | rfl
        · refine ⟨_, rfl, rfl, fun K hK => ?_⟩
          go_simp
          refine (D.out _).mono ?_
          rintro e w3 ⟨q0, q1, q2, q3, r0, r1, r2, r3, rfl, hq, hr, hb⟩
          have HQ := Lib.hid hq; have HR := Lib.hid hr; clear hq hr
          refine hK _ _ (fun _ _ => H1.call hb) ?_
          replace h6 := carry4 hb h6
          replace H1 := H1.call hb
          clear hK K hb
          refine Drawn.take 5 (some 7) (v := ?_) rfl rfl (by kernel_rfl) (by kernel_rfl) (by kernel_rfl) (by kernel_rfl) (by kernel_rfl) rfl (fun _ _ _ h => h) (Or.inl ⟨rfl, ?_⟩) H1 ?_
          rotate_left
          · intro W hW; have hW := HS.out W hW; go_simp; try with_reducible rfl
          simp only [put_list, List.set]
          refine Drawn.take 6 (some 13) (v := ?_) rfl rfl (by kernel_rfl) (by kernel_rfl) (by kernel_rfl) (by kernel_rfl) (by kernel_rfl) rfl (fun _ _ _ h => h) (Or.inl ⟨rfl, ?_⟩) H1 ?_
          rotate_left
          · intro W hW; have hW := HS.out W hW; go_simp; try with_reducible rfl
          simp only [put_list, List.set]
          refine Drawn.take 7 (some 14) (v := ?_) rfl rfl (by kernel_rfl) (by kernel_rfl) (by kernel_rfl) (by kernel_rfl) (by kernel_rfl) rfl (fun _ _ _ h => h) (Or.inl ⟨rfl, ?_⟩) H1 ?_
          rotate_left
          · intro W hW; have hW := HS.out W hW; go_simp; try with_reducible rfl
          simp only [put_list, List.set]
          refine Drawn.only 8 (by kernel_rfl) rfl rfl (fun K hK => ?_)
          go_simp
          refine hK _ _ (fun _ _ => H1.alloc _) ?_
          clear hK K
          have h5 : New4 (w.heap.size + 1 + 1 + 1) (.int .u64 0) (.int .u64 0) (.int .u64 0) (.int .u64 0) 45 _ _ := New4.here _ H1.size
          have nh5h6 := h6.2.1
          replace h6 := h6.past (.cells #[.int .u64 0, .int .u64 0, .int .u64 0, .int .u64 0] 45)
          replace H1 := H1.alloc (.cells #[.int .u64 0, .int .u64 0, .int .u64 0, .int .u64 0] 45)
          generalize World.alloc _ _ = V16 at H1 h5 h6 ⊢
          obtain ⟨⟨c0, c1, c2, c3⟩, g0, g1, g2, g3⟩ := h5.cells
          refine Drawn.only 10 (by kernel_rfl) rfl rfl (fun K hK => ?_)
          go_simp
          refine hK _ _ (fun _ _ => H1.set4 h5.ge _ _ _ _) ?_
          clear hK K c0 c1 c2 c3 g0 g1 g2 g3
          have k5 := heap_set4 h5.1 (.int .u64 q0) (.int .u64 q1) (.int .u64 q2) (.int .u64 q3)
          replace h6 := h6.other h5 (by omega) (.int .u64 q0) (.int .u64 q1) (.int .u64 q2) (.int .u64 q3)
          replace H1 := H1.set4 h5.ge (.int .u64 q0) (.int .u64 q1) (.int .u64 q2) (.int .u64 q3)
          obtain ⟨⟨c0, c1, c2, c3⟩, g0, g1, g2, g3⟩ := h6.cells
          refine Drawn.only 11 (by kernel_rfl) rfl rfl (fun K hK => ?_)
          go_simp
          refine hK _ _ (fun h => by simp at h) ?_
          exact Drawn.done (by kernel_rfl) (hK' _ _ (Met.intro (hJ _ _ ⟨_, _, q0, q1, q2, q3, r0, r1, r2, r3, rfl, HQ.out, HR.out, H1.set4 h6.ge _ _ _ _, (heap_far (by omega) _ _ _ _).trans k5, heap_set4 h6.1 _ _ _ _⟩))) _
        · refine ⟨_, rfl, rfl, fun K hK => ?_⟩
          go_simp
          refine hK _ _ (fun _ _ => H1.alloc _) ?_
          clear hK K
          have h5 : New4 (w.heap.size + 1 + 1 + 1) (.int .u64 0) (.int .u64 0) (.int .u64 0) (.int .u64 0) 45 _ _ := New4.here _ H1.size
          have nh5h6 := h6.2.1
          replace h6 := h6.past (.cells #[.int .u64 0, .int .u64 0, .int .u64 0, .int .u64 0] 45)
          replace H1 := H1.alloc (.cells #[.int .u64 0, .int .u64 0, .int .u64 0, .int .u64 0] 45)
          generalize World.alloc _ _ = V17 at H1 h5 h6 ⊢
          refine Drawn.only 4 (by kernel_rfl) rfl rfl (fun K hK => ?_)
          go_simp
          refine (D.out _).mono ?_
          rintro e w3 ⟨q0, q1, q2, q3, r0, r1, r2, r3, rfl, hq, hr, hb⟩
          have HQ := Lib.hid hq; have HR := Lib.hid hr; clear hq hr
          refine hK _ _ (fun _ _ => H1.call hb) ?_
          replace h5 := carry4 hb h5
          replace h6 := carry4 hb h6
          replace H1 := H1.call hb
          clear hK K hb
          refine Drawn.take 5 (some 7) (v := ?_) rfl rfl (by kernel_rfl) (by kernel_rfl) (by kernel_rfl) (by kernel_rfl) (by kernel_rfl) rfl (fun _ _ _ h => h) (Or.inl ⟨rfl, ?_⟩) H1 ?_
          rotate_left
          · intro W hW; have hW := HS.out W hW; go_simp; try with_reducible rfl
          simp only [put_list, List.set]
          refine Drawn.take 6 (some 13) (v := ?_) rfl rfl (by kernel_rfl) (by kernel_rfl) (by kernel_rfl) (by kernel_rfl) (by kernel_rfl) rfl (fun _ _ _ h => h) (Or.inl ⟨rfl, ?_⟩) H1 ?_
          rotate_left
          · intro W hW; have hW := HS.out W hW; go_simp; try with_reducible rfl
          simp only [put_list, List.set]
          refine Drawn.take 7 (some 14) (v := ?_) rfl rfl (by kernel_rfl) (by kernel_rfl) (by kernel_rfl) (by kernel_rfl) (by kernel_rfl) rfl (fun _ _ _ h => h) (Or.inl ⟨rfl, ?_⟩) H1 ?_
          rotate_left
          · intro W hW; have hW := HS.out W hW; go_simp; try with_reducible rfl
          simp only [put_list, List.set]
          obtain ⟨⟨c0, c1, c2, c3⟩, g0, g1, g2, g3⟩ := h5.cells
          refine Drawn.only 10 (by kernel_rfl) rfl rfl (fun K hK => ?_)
          go_simp
          refine hK _ _ (fun _ _ => H1.set4 h5.ge _ _ _ _) ?_
          clear hK K c0 c1 c2 c3 g0 g1 g2 g3
          have k5 := heap_set4 h5.1 (.int .u64 q0) (.int .u64 q1) (.int .u64 q2) (.int .u64 q3)
          replace h6 := h6.other h5 (by omega) (.int .u64 q0) (.int .u64 q1) (.int .u64 q2) (.int .u64 q3)
          replace H1 := H1.set4 h5.ge (.int .u64 q0) (.int .u64 q1) (.int .u64 q2) (.int .u64 q3)
          obtain ⟨⟨c0, c1, c2, c3⟩, g0, g1, g2, g3⟩ := h6.cells
          refine Drawn.only 11 (by kernel_rfl) rfl rfl (fun K hK => ?_)
          go_simp
          refine hK _ _ (fun h => by simp at h) ?_
          exact Drawn.done (by kernel_rfl) (hK' _ _ (Met.intro (hJ _ _ ⟨_, _, q0, q1, q2, q3, r0, r1, r2, r3, rfl, HQ.out, HR.out, H1.set4 h6.ge _ _ _ _, (heap_far (by omega) _ _ _ _).trans k5, heap_set4 h6.1 _ _ _ _⟩))) _
      · refine ⟨_, rfl, rfl, fun K hK => ?_⟩
        go_simp
        refine hK _ _ (fun _ _ => H1.alloc _) ?_
        clear hK K
        have h5 : New4 (w.heap.size + 1 + 1 + 1) (.int .u64 0) (.int .u64 0) (.int .u64 0) (.int .u64 0) 45 _ _ := New4.here _ H1.size
        have nh5h6 := h6.2.1
        replace h6 := h6.past (.cells #[.int .u64 0, .int .u64 0, .int .u64 0, .int .u64 0] 45)
        replace H1 := H1.alloc (.cells #[.int .u64 0, .int .u64 0, .int .u64 0, .int .u64 0] 45)
        generalize World.alloc _ _ = V18 at H1 h5 h6 ⊢
        refine Drawn.only 3 (by kernel_rfl) rfl rfl (fun K hK => ?_)
        go_simp
        refine (split_any _ _ _ _ _).mono ?_
        rintro e w2 ⟨rfl, hb⟩
        refine hK _ _ (fun _ _ => H1.call hb) ?_
        replace h5 := carry4 hb h5
        replace h6 := carry4 hb h6
        replace H1 := H1.call hb
        clear hK K hb
        refine Drawn.only 4 (by kernel_rfl) rfl rfl (fun K hK => ?_)
        go_simp
        refine (D.out _).mono ?_
        rintro e w3 ⟨q0, q1, q2, q3, r0, r1, r2, r3, rfl, hq, hr, hb⟩
        have HQ := Lib.hid hq; have HR := Lib.hid hr; clear hq hr
        refine hK _ _ (fun _ _ => H1.call hb) ?_
        replace h5 := carry4 hb h5
        replace h6 := carry4 hb h6
        replace H1 := H1.call hb
        clear hK K hb
        refine Drawn.take 5 (some 7) (v := ?_) rfl rfl (by kernel_rfl) (by kernel_rfl) (by kernel_rfl) (by kernel_rfl) (by kernel_rfl) rfl (fun _ _ _ h => h) (Or.inl ⟨rfl, ?_⟩) H1 ?_
        rotate_left
        · intro W hW; have hW := HS.out W hW; go_simp; try with_reducible rfl
        simp only [put_list, List.set]
        refine Drawn.take 6 (some 13) (v := ?_) rfl rfl (by kernel_rfl) (by kernel_rfl) (by kernel_rfl) (by kernel_rfl) (by kernel_rfl) rfl (fun _ _ _ h => h) (Or.inl ⟨rfl, ?_⟩) H1 ?_
        rotate_left
        · intro W hW; have hW := HS.out W hW; go_simp; try with_reducible rfl
        simp only [put_list, List.set]
        refine Drawn.take 7 (some 14) (v := ?_) rfl rfl (by kernel_rfl) (by kernel_rfl) (by kernel_rfl) (by kernel_rfl) (by kernel_rfl) rfl (fun _ _ _ h => h) (Or.inl ⟨rfl, ?_⟩) H1 ?_
        rotate_left
        · intro W hW; have hW := HS.out W hW; go_simp; try with_reducible rfl
        simp only [put_list, List.set]
        obtain ⟨⟨c0, c1, c2, c3⟩, g0, g1, g2, g3⟩ := h5.cells
        refine Drawn.only 10 (by kernel_rfl) rfl rfl (fun K hK => ?_)
        go_simp
        refine hK _ _ (fun _ _ => H1.set4 h5.ge _ _ _ _) ?_
        clear hK K c0 c1 c2 c3 g0 g1 g2 g3
        have k5 := heap_set4 h5.1 (.int .u64 q0) (.int .u64 q1) (.int .u64 q2) (.int .u64 q3)
        replace h6 := h6.other h5 (by omega) (.int .u64 q0) (.int .u64 q1) (.int .u64 q2) (.int .u64 q3)
        replace H1 := H1.set4 h5.ge (.int .u64 q0) (.int .u64 q1) (.int .u64 q2) (.int .u64 q3)
        obtain ⟨⟨c0, c1, c2, c3⟩, g0, g1, g2, g3⟩ := h6.cells
        refine Drawn.only 11 (by kernel_rfl) rfl rfl (fun K hK => ?_)
        go_simp
        refine hK _ _ (fun h => by simp at h) ?_
        exact Drawn.done (by kernel_rfl) (hK' _ _ (Met.intro (hJ _ _ ⟨_, _, q0, q1, q2, q3, r0, r1, r2, r3, rfl, HQ.out, HR.out, H1.set4 h6.ge _ _ _ _, (heap_far (by omega) _ _ _ _).trans k5, heap_set4 h6.1 _ _ _ _⟩))) _
  · refine ⟨_, rfl, rfl, fun K hK => ?_⟩
    go_simp
    refine hK _ _ (fun _ _ => H1.alloc _) ?_
    clear hK K
    have h5 : New4 (w.heap.size + 1 + 1 + 1) (.int .u64 0) (.int .u64 0) (.int .u64 0) (.int .u64 0) 45 _ _ := New4.here _ H1.size
    replace H1 := H1.alloc (.cells #[.int .u64 0, .int .u64 0, .int .u64 0, .int .u64 0] 45)
    generalize World.alloc _ _ = V19 at H1 h5 ⊢
    refine Drawn.among [1, 9] (by kernel_rfl) (by decide) ?_
    intro i hi
    simp only [List.mem_cons, List.not_mem_nil, or_false] at hi
    rcases hi with rfl | rfl
    · refine ⟨_, rfl, rfl, fun K hK => ?_⟩
      go_simp
      refine (split_any _ _ _ _ _).mono ?_
      rintro e w1 ⟨rfl, hb⟩
      refine hK _ _ (fun _ _ => H1.call hb) ?_
      replace h5 := carry4 hb h5
      replace H1 := H1.call hb
      clear hK K hb
      refine Drawn.among [3, 9] (by kernel_rfl) (by decide) ?_
      intro i hi
      simp only [List.mem_cons, List.not_mem_nil, or_false] at hi
      rcases hi with rfl | rfl
      · refine ⟨_, rfl, rfl, fun K hK => ?_⟩
        go_simp
        refine (split_any _ _ _ _ _).mono ?_
        rintro e w2 ⟨rfl, hb⟩
        refine hK _ _ (fun _ _ => H1.call hb) ?_
        replace h5 := carry4 hb h5
        replace H1 := H1.call hb
        clear hK K hb
        refine Drawn.among [4, 9] (by kernel_rfl) (by decide) ?_
        intro i hi
        simp only [List.mem_cons, List.not_mem_nil, or_false] at hi
        rcases hi with rfl | rfl
        · refine ⟨_, rfl, rfl, fun K hK => ?_⟩
          go_simp
          refine (D.out _).mono ?_
          rintro e w3 ⟨q0, q1, q2, q3, r0, r1, r2, r3, rfl, hq, hr, hb⟩
          have HQ := Lib.hid hq; have HR := Lib.hid hr; clear hq hr
          refine hK _ _ (fun _ _ => H1.call hb) ?_
          replace h5 := carry4 hb h5
          replace H1 := H1.call hb
          clear hK K hb
          refine Drawn.take 5 (some 7) (v := ?_) rfl rfl (by kernel_rfl) (by kernel_rfl) (by kernel_rfl) (by kernel_rfl) (by kernel_rfl) rfl (fun _ _ _ h => h) (Or.inl ⟨rfl, ?_⟩) H1 ?_
          rotate_left
          · intro W hW; have hW := HS.out W hW; go_simp; try with_reducible rfl
          simp only [put_list, List.set]
          refine Drawn.take 6 (some 13) (v := ?_) rfl rfl (by kernel_rfl) (by kernel_rfl) (by kernel_rfl) (by kernel_rfl) (by kernel_rfl) rfl (fun _ _ _ h => h) (Or.inl ⟨rfl, ?_⟩) H1 ?_
          rotate_left
          · intro W hW; have hW := HS.out W hW; go_simp; try with_reducible rfl
          simp only [put_list, List.set]
          refine Drawn.take 7 (some 14) (v := ?_) rfl rfl (by kernel_rfl) (by kernel_rfl) (by kernel_rfl) (by kernel_rfl) (by kernel_rfl) rfl (fun _ _ _ h => h) (Or.inl ⟨rfl, ?_⟩) H1 ?_
          rotate_left
          · intro W hW; have hW := HS.out W hW; go_simp; try with_reducible rfl
          simp only [put_list, List.set]
          refine Drawn.only 9 (by kernel_rfl) rfl rfl (fun K hK => ?_)
          go_simp
          refine hK _ _ (fun _ _ => H1.alloc _) ?_
          clear hK K
          have h6 : New4 (w.heap.size + 1 + 1 + 1) (.int .u64 0) (.int .u64 0) (.int .u64 0) (.int .u64 0) 45 _ _ := New4.here _ H1.size
          have nh6h5 := h5.2.1
          replace h5 := h5.past (.cells #[.int .u64 0, .int .u64 0, .int .u64 0, .int .u64 0] 45)
          replace H1 := H1.alloc (.cells #[.int .u64 0, .int .u64 0, .int .u64 0, .int .u64 0] 45)
          generalize World.alloc _ _ = V20 at H1 h6 h5 ⊢
          obtain ⟨⟨c0, c1, c2, c3⟩, g0, g1, g2, g3⟩ := h5.cells
          refine Drawn.only 10 (by kernel_rfl) rfl rfl (fun K hK => ?_)
          go_simp
          refine hK _ _ (fun _ _ => H1.set4 h5.ge _ _ _ _) ?_
          clear hK K c0 c1 c2 c3 g0 g1 g2 g3
          have k5 := heap_set4 h5.1 (.int .u64 q0) (.int .u64 q1) (.int .u64 q2) (.int .u64 q3)
          replace h6 := h6.other h5 (by omega) (.int .u64 q0) (.int .u64 q1) (.int .u64 q2) (.int .u64 q3)
          replace H1 := H1.set4 h5.ge (.int .u64 q0) (.int .u64 q1) (.int .u64 q2) (.int .u64 q3)
          obtain ⟨⟨c0, c1, c2, c3⟩, g0, g1, g2, g3⟩ := h6.cells
          refine Drawn.only 11 (by kernel_rfl) rfl rfl (fun K hK => ?_)
          go_simp
          refine hK _ _ (fun h => by simp at h) ?_
          exact Drawn.done (by kernel_rfl) (hK' _ _ (Met.intro (hJ _ _ ⟨_, _, q0, q1, q2, q3, r0, r1, r2, r3, rfl, HQ.out, HR.out, H1.set4 h6.ge _ _ _ _, (heap_far (by omega) _ _ _ _).trans k5, heap_set4 h6.1 _ _ _ _⟩))) _
        · refine ⟨_, rfl, rfl, fun K hK => ?_⟩
          go_simp
          refine hK _ _ (fun _ _ => H1.alloc _) ?_
          clear hK K
          have h6 : New4 (w.heap.size + 1 + 1 + 1) (.int .u64 0) (.int .u64 0) (.int .u64 0) (.int .u64 0) 45 _ _ := New4.here _ H1.size
          have nh6h5 := h5.2.1
          replace h5 := h5.past (.cells #[.int .u64 0, .int .u64 0, .int .u64 0, .int .u64 0] 45)
          replace H1 := H1.alloc (.cells #[.int .u64 0, .int .u64 0, .int .u64 0, .int .u64 0] 45)
          generalize World.alloc _ _ = V21 at H1 h6 h5 ⊢
          refine Drawn.only 4 (by kernel_rfl) rfl rfl (fun K hK => ?_)
          go_simp
          refine (D.out _).mono ?_
          rintro e w3 ⟨q0, q1, q2, q3, r0, r1, r2, r3, rfl, hq, hr, hb⟩
          have HQ := Lib.hid hq; have HR := Lib.hid hr; clear hq hr
          refine hK _ _ (fun _ _ => H1.call hb) ?_
          replace h5 := carry4 hb h5
          replace h6 := carry4 hb h6
          replace H1 := H1.call hb
          clear hK K hb
          refine Drawn.take 5 (some 7) (v := ?_) rfl rfl (by kernel_rfl) (by kernel_rfl) (by kernel_rfl) (by kernel_rfl) (by kernel_rfl) rfl (fun _ _ _ h => h) (Or.inl ⟨rfl, ?_⟩) H1 ?_
          rotate_left
          · intro W hW; have hW := HS.out W hW; go_simp; try with_reducible rfl
          simp only [put_list, List.set]
          refine Drawn.take 6 (some 13) (v := ?_) rfl rfl (by kernel_rfl) (by kernel_rfl) (by kernel_rfl) (by kernel_rfl) (by kernel_rfl) rfl (fun _ _ _ h => h) (Or.inl ⟨rfl, ?_⟩) H1 ?_
          rotate_left
          · intro W hW; have hW := HS.out W hW; go_simp; try with_reducible rfl
          simp only [put_list, List.set]
          refine Drawn.take 7 (some 14) (v := ?_) rfl rfl (by kernel_rfl) (by kernel_rfl) (by kernel_rfl) (by kernel_rfl) (by kernel_rfl) rfl (fun _ _ _ h => h) (Or.inl ⟨rfl, ?_⟩) H1 ?_
          rotate_left
          · intro W hW; have hW := HS.out W hW; go_simp; try with_reducible rfl
          simp only [put_list, List.set]
          obtain ⟨⟨c0, c1, c2, c3⟩, g0, g1, g2, g3⟩ := h5.cells
          refine Drawn.only 10 (by kernel_rfl) rfl rfl (fun K hK => ?_)
          go_simp
          refine hK _ _ (fun _ _ => H1.set4 h5.ge _ _ _ _) ?_
          clear hK K c0 c1 c2 c3 g0 g1 g2 g3
          have k5 := heap_set4 h5.1 (.int .u64 q0) (.int .u64 q1) (.int .u64 q2) (.int .u64 q3)
          replace h6 := h6.other h5 (by omega) (.int .u64 q0) (.int .u64 q1) (.int .u64 q2) (.int .u64 q3)
          replace H1 := H1.set4 h5.ge (.int .u64 q0) (.int .u64 q1) (.int .u64 q2) (.int .u64 q3)
          obtain ⟨⟨c0, c1, c2, c3⟩, g0, g1, g2, g3⟩ := h6.cells
          refine Drawn.only 11 (by kernel_rfl) rfl rfl (fun K hK => ?_)
          go_simp
          refine hK _ _ (fun h => by simp at h) ?_
          exact Drawn.done (by kernel_rfl) (hK' _ _ (Met.intro (hJ _ _ ⟨_, _, q0, q1, q2, q3, r0, r1, r2, r3, rfl, HQ.out, HR.out, H1.set4 h6.ge _ _ _ _, (heap_far (by omega) _ _ _ _).trans k5, heap_set4 h6.1 _ _ _ _⟩))) _
      · refine ⟨_, rfl, rfl, fun K hK => ?_⟩
        go_simp
        refine hK _ _ (fun _ _ => H1.alloc _) ?_
        clear hK K
        have h6 : New4 (w.heap.size + 1 + 1 + 1) (.int .u64 0) (.int .u64 0) (.int .u64 0) (.int .u64 0) 45 _ _ := New4.here _ H1.size
        have nh6h5 := h5.2.1
        replace h5 := h5.past (.cells #[.int .u64 0, .int .u64 0, .int .u64 0, .int .u64 0] 45)
        replace H1 := H1.alloc (.cells #[.int .u64 0, .int .u64 0, .int .u64 0, .int .u64 0] 45)
        generalize World.alloc _ _ = V22 at H1 h6 h5 ⊢
        refine Drawn.only 3 (by kernel_rfl) rfl rfl (fun K hK => ?_)
        go_simp
        refine (split_any _ _ _ _ _).mono ?_
        rintro e w2 ⟨rfl, hb⟩
        refine hK _ _ (fun _ _ => H1.call hb) ?_
        replace h5 := carry4 hb h5
        replace h6 := carry4 hb h6
        replace H1 := H1.call hb
        clear hK K hb
        refine Drawn.only 4 (by kernel_rfl) rfl rfl (fun K hK => ?_)
        go_simp
        refine (D.out _).mono ?_
        rintro e w3 ⟨q0, q1, q2, q3, r0, r1, r2, r3, rfl, hq, hr, hb⟩
        have HQ := Lib.hid hq; have HR := Lib.hid hr; clear hq hr
        refine hK _ _ (fun _ _ => H1.call hb) ?_
        replace h5 := carry4 hb h5
        replace h6 := carry4 hb h6
        replace H1 := H1.call hb
        clear hK K hb
        refine Drawn.take 5 (some 7) (v := ?_) rfl rfl (by kernel_rfl) (by kernel_rfl) (by kernel_rfl) (by kernel_rfl) (by kernel_rfl) rfl (fun _ _ _ h => h) (Or.inl ⟨rfl, ?_⟩) H1 ?_
        rotate_left
        · intro W hW; have hW := HS.out W hW; go_simp; try with_reducible rfl
        simp only [put_list, List.set]
        refine Drawn.take 6 (some 13) (v := ?_) rfl rfl (by kernel_rfl) (by kernel_rfl) (by kernel_rfl) (by kernel_rfl) (by kernel_rfl) rfl (fun _ _ _ h => h) (Or.inl ⟨rfl, ?_⟩) H1 ?_
        rotate_left
        · intro W hW; have hW := HS.out W hW; go_simp; try with_reducible rfl
        simp only [put_list, List.set]
        refine Drawn.take 7 (some 14) (v := ?_) rfl rfl (by kernel_rfl) (by kernel_rfl) (by kernel_rfl) (by kernel_rfl) (by kernel_rfl) rfl (fun _ _ _ h => h) (Or.inl ⟨rfl, ?_⟩) H1 ?_
        rotate_left
        · intro W hW; have hW := HS.out W hW; go_simp; try with_reducible rfl
        simp only [put_list, List.set]
        obtain ⟨⟨c0, c1, c2, c3⟩, g0, g1, g2, g3⟩ := h5.cells
        refine Drawn.only 10 (by kernel_rfl) rfl rfl (fun K hK => ?_)
        go_simp
        refine hK _ _ (fun _ _ => H1.set4 h5.ge _ _ _ _) ?_
        clear hK K c0 c1 c2 c3 g0 g1 g2 g3
        have k5 := heap_set4 h5.1 (.int .u64 q0) (.int .u64 q1) (.int .u64 q2) (.int .u64 q3)
        replace h6 := h6.other h5 (by omega) (.int .u64 q0) (.int .u64 q1) (.int .u64 q2) (.int .u64 q3)
        replace H1 := H1.set4 h5.ge (.int .u64 q0) (.int .u64 q1) (.int .u64 q2) (.int .u64 q3)
        obtain ⟨⟨c0, c1, c2, c3⟩, g0, g1, g2, g3⟩ := h6.cells
        refine Drawn.only 11 (by kernel_rfl) rfl rfl (fun K hK => ?_)
        go_simp
        refine hK _ _ (fun h => by simp at h) ?_
        exact Drawn.done (by kernel_rfl) (hK' _ _ (Met.intro (hJ _ _ ⟨_, _, q0, q1, q2, q3, r0, r1, r2, r3, rfl, HQ.out, HR.out, H1.set4 h6.ge _ _ _ _, (heap_far (by omega) _ _ _ _).trans k5, heap_set4 h6.1 _ _ _ _⟩))) _
    · refine ⟨_, rfl, rfl, fun K hK => ?_⟩
      go_simp
      refine hK _ _ (fun _ _ => H1.alloc _) ?_
      clear hK K
      have h6 : New4 (w.heap.size + 1 + 1 + 1) (.int .u64 0) (.int .u64 0) (.int .u64 0) (.int .u64 0) 45 _ _ := New4.here _ H1.size
      have nh6h5 := h5.2.1
      replace h5 := h5.past (.cells #[.int .u64 0, .int .u64 0, .int .u64 0, .int .u64 0] 45)
      replace H1 := H1.alloc (.cells #[.int .u64 0, .int .u64 0, .int .u64 0, .int .u64 0] 45)
      generalize World.alloc _ _ = V23 at H1 h6 h5 ⊢
      refine Drawn.only 1 (by kernel_rfl) rfl rfl (fun K hK => ?_)
      go_simp
      refine (split_any _ _ _ _ _).mono ?_
      rintro e w1 ⟨rfl, hb⟩
      refine hK _ _ (fun _ _ => H1.call hb) ?_
      replace h5 := carry4 hb h5
      replace h6 := carry4 hb h6
      replace H1 := H1.call hb
      clear hK K hb
      refine Drawn.only 3 (by kernel_rfl) rfl rfl (fun K hK => ?_)
      go_simp
      refine (split_any _ _ _ _ _).mono ?_
      rintro e w2 ⟨rfl, hb⟩
      refine hK _ _ (fun _ _ => H1.call hb) ?_
      replace h5 := carry4 hb h5
      replace h6 := carry4 hb h6
      replace H1 := H1.call hb
      clear hK K hb
      refine Drawn.only 4 (by kernel_rfl) rfl rfl (fun K hK => ?_)
      go_simp
      refine (D.out _).mono ?_
      rintro e w3 ⟨q0, q1, q2, q3, r0, r1, r2, r3, rfl, hq, hr, hb⟩
      have HQ := Lib.hid hq; have HR := Lib.hid hr; clear hq hr
      refine hK _ _ (fun _ _ => H1.call hb) ?_
      replace h5 := carry4 hb h5
      replace h6 := carry4 hb h6
      replace H1 := H1.call hb
      clear hK K hb
      refine Drawn.take 5 (some 7) (v := ?_) rfl rfl (by kernel_rfl) (by kernel_rfl) (by kernel_rfl) (by kernel_rfl) (by kernel_rfl) rfl (fun _ _ _ h => h) (Or.inl ⟨rfl, ?_⟩) H1 ?_
      rotate_left
      · intro W hW; have hW := HS.out W hW; go_simp; try with_reducible rfl
      simp only [put_list, List.set]
      refine Drawn.take 6 (some 13) (v := ?_) rfl rfl (by kernel_rfl) (by kernel_rfl) (by kernel_rfl) (by kernel_rfl) (by kernel_rfl) rfl (fun _ _ _ h => h) (Or.inl ⟨rfl, ?_⟩) H1 ?_
      rotate_left
      · intro W hW; have hW := HS.out W hW; go_simp; try with_reducible rfl
      simp only [put_list, List.set]
      refine Drawn.take 7 (some 14) (v := ?_) rfl rfl (by kernel_rfl) (by kernel_rfl) (by kernel_rfl) (by kernel_rfl) (by kernel_rfl) rfl (fun _ _ _ h => h) (Or.inl ⟨rfl, ?_⟩) H1 ?_
      rotate_left
      · intro W hW; have hW := HS.out W hW; go_simp; try with_reducible rfl
      simp only [put_list, List.set]
      obtain ⟨⟨c0, c1, c2, c3⟩, g0, g1, g2, g3⟩ := h5.cells
      refine Drawn.only 10 (by kernel_rfl) rfl rfl (fun K hK => ?_)
      go_simp
      refine hK _ _ (fun _ _ => H1.set4 h5.ge _ _ _ _) ?_
      clear hK K c0 c1 c2 c3 g0 g1 g2 g3
      have k5 := heap_set4 h5.1 (.int .u64 q0) (.int .u64 q1) (.int .u64 q2) (.int .u64 q3)
      replace h6 := h6.other h5 (by omega) (.int .u64 q0) (.int .u64 q1) (.int .u64 q2) (.int .u64 q3)
      replace H1 := H1.set4 h5.ge (.int .u64 q0) (.int .u64 q1) (.int .u64 q2) (.int .u64 q3)
      obtain ⟨⟨c0, c1, c2, c3⟩, g0, g1, g2, g3⟩ := h6.cells
      refine Drawn.only 11 (by kernel_rfl) rfl rfl (fun K hK => ?_)
      go_simp
      refine hK _ _ (fun h => by simp at h) ?_
      exact Drawn.done (by kernel_rfl) (hK' _ _ (Met.intro (hJ _ _ ⟨_, _, q0, q1, q2, q3, r0, r1, r2, r3, rfl, HQ.out, HR.out, H1.set4 h6.ge _ _ _ _, (heap_far (by omega) _ _ _ _).trans k5, heap_set4 h6.1 _ _ _ _⟩))) _
  · refine ⟨_, rfl, rfl, fun K hK => ?_⟩
    go_simp
    refine hK _ _ (fun _ _ => H1.alloc _) ?_
    clear hK K
    have h6 : New4 (w.heap.size + 1 + 1 + 1) (.int .u64 0) (.int .u64 0) (.int .u64 0) (.int .u64 0) 45 _ _ := New4.here _ H1.size
    replace H1 := H1.alloc (.cells #[.int .u64 0, .int .u64 0, .int .u64 0, .int .u64 0] 45)
    generalize World.alloc _ _ = V24 at H1 h6 ⊢
    refine Drawn.among [1, 8] (by kernel_rfl) (by decide) ?_
    intro i hi
    simp only [List.mem_cons, List.not_mem_nil, or_false] at hi
    rcases hi with rfl | rfl
    · refine ⟨_, rfl, rfl, fun K hK => ?_⟩
      go_simp
      refine (split_any _ _ _ _ _).mono ?_
      rintro e w1 ⟨rfl, hb⟩
      refine hK _ _ (fun _ _ => H1.call hb) ?_
      replace h6 := carry4 hb h6
      replace H1 := H1.call hb
      clear hK K hb
      refine Drawn.among [3, 8] (by kernel_rfl) (by decide) ?_
      intro i hi
      simp only [List.mem_cons, List.not_mem_nil, or_false] at hi
      rcases hi with rfl | rfl
      · refine ⟨_, rfl, rfl, fun K hK => ?_⟩
        go_simp
        refine (split_any _ _ _ _ _).mono ?_
        rintro e w2 ⟨rfl, hb⟩
        refine hK _ _ (fun _ _ => H1.call hb) ?_
        replace h6 := carry4 hb h6
        replace H1 := H1.call hb
        clear hK K hb
        refine Drawn.among [4, 8] (by kernel_rfl) (by decide) ?_
        intro i hi
        simp only [List.mem_cons, List.not_mem_nil, or_false] at hi
        rcases hi with rfl | rfl
        · refine ⟨_, rfl, rfl, fun K hK => ?_⟩
          go_simp
          refine (D.out _).mono ?_
          rintro e w3 ⟨q0, q1, q2, q3, r0, r1, r2, r3, rfl, hq, hr, hb⟩
          have HQ := Lib.hid hq; have HR := Lib.hid hr; clear hq hr
          refine hK _ _ (fun _ _ => H1.call hb) ?_
          replace h6 := carry4 hb h6
          replace H1 := H1.call hb
          clear hK K hb
          refine Drawn.take 5 (some 7) (v := ?_) rfl rfl (by kernel_rfl) (by kernel_rfl) (by kernel_rfl) (by kernel_rfl) (by kernel_rfl) rfl (fun _ _ _ h => h) (Or.inl ⟨rfl, ?_⟩) H1 ?_
          rotate_left
          · intro W hW; have hW := HS.out W hW; go_simp; try with_reducible rfl
          simp only [put_list, List.set]
          refine Drawn.take 6 (some 13) (v := ?_) rfl rfl (by kernel_rfl) (by kernel_rfl) (by kernel_rfl) (by kernel_rfl) (by kernel_rfl) rfl (fun _ _ _ h => h) (Or.inl ⟨rfl, ?_⟩) H1 ?_
          rotate_left
          · intro W hW; have hW := HS.out W hW; go_simp; try with_reducible rfl
          simp only [put_list, List.set]
          refine Drawn.take 7 (some 14) (v := ?_) rfl rfl (by kernel_rfl) (by kernel_rfl) (by kernel_rfl) (by kernel_rfl) (by kernel_rfl) rfl (fun _ _ _ h => h) (Or.inl ⟨rfl, ?_⟩) H1 ?_
          rotate_left
          · intro W hW; have hW := HS.out W hW; go_simp; try with_reducible rfl
          simp only [put_list, List.set]
          refine Drawn.only 8 (by kernel_rfl) rfl rfl (fun K hK => ?_)
          go_simp
          refine hK _ _ (fun _ _ => H1.alloc _) ?_
          clear hK K
          have h5 : New4 (w.heap.size + 1 + 1 + 1) (.int .u64 0) (.int .u64 0) (.int .u64 0) (.int .u64 0) 45 _ _ := New4.here _ H1.size
          have nh5h6 := h6.2.1
          replace h6 := h6.past (.cells #[.int .u64 0, .int .u64 0, .int .u64 0, .int .u64 0] 45)
          replace H1 := H1.alloc (.cells #[.int .u64 0, .int .u64 0, .int .u64 0, .int .u64 0] 45)
          generalize World.alloc _ _ = V25 at H1 h5 h6 ⊢
          obtain ⟨⟨c0, c1, c2, c3⟩, g0, g1, g2, g3⟩ := h5.cells
          refine Drawn.only 10 (by kernel_rfl) rfl rfl (fun K hK => ?_)
          go_simp
          refine hK _ _ (fun _ _ => H1.set4 h5.ge _ _ _ _) ?_
          clear hK K c0 c1 c2 c3 g0 g1 g2 g3
          have k5 := heap_set4 h5.1 (.int .u64 q0) (.int .u64 q1) (.int .u64 q2) (.int .u64 q3)
          replace h6 := h6.other h5 (by omega) (.int .u64 q0) (.int .u64 q1) (.int .u64 q2) (.int .u64 q3)
          replace H1 := H1.set4 h5.ge (.int .u64 q0) (.int .u64 q1) (.int .u64 q2) (.int .u64 q3)
          obtain ⟨⟨c0, c1, c2, c3⟩, g0, g1, g2, g3⟩ := h6.cells
          refine Drawn.only 11 (by kernel_rfl) rfl rfl (fun K hK => ?_)
          go_simp
          refine hK _ _ (fun h => by simp at h) ?_
          exact Drawn.done (by kernel_rfl) (hK' _ _ (Met.intro (hJ _ _ ⟨_, _, q0, q1, q2, q3, r0, r1, r2, r3, rfl, HQ.out, HR.out, H1.set4 h6.ge _ _ _ _, (heap_far (by omega) _ _ _ _).trans k5, heap_set4 h6.1 _ _ _ _⟩))) _
        · refine ⟨_, rfl, rfl, fun K hK => ?_⟩
          go_simp
          refine hK _ _ (fun _ _ => H1.alloc _) ?_
          clear hK K
          have h5 : New4 (w.heap.size + 1 + 1 + 1) (.int .u64 0) (.int .u64 0) (.int .u64 0) (.int .u64 0) 45 _ _ := New4.here _ H1.size
          have nh5h6 := h6.2.1
          replace h6 := h6.past (.cells #[.int .u64 0, .int .u64 0, .int .u64 0, .int .u64 0] 45)
          replace H1 := H1.alloc (.cells #[.int .u64 0, .int .u64 0, .int .u64 0, .int .u64 0] 45)
          generalize World.alloc _ _ = V26 at H1 h5 h6 ⊢
          refine Drawn.only 4 (by kernel_rfl) rfl rfl (fun K hK => ?_)
          go_simp
          refine (D.out _).mono ?_
          rintro e w3 ⟨q0, q1, q2, q3, r0, r1, r2, r3, rfl, hq, hr, hb⟩
          have HQ := Lib.hid hq; have HR := Lib.hid hr; clear hq hr
          refine hK _ _ (fun _ _ => H1.call hb) ?_
          replace h5 := carry4 hb h5
          replace h6 := carry4 hb h6
          replace H1 := H1.call hb
          clear hK K hb
          refine Drawn.take 5 (some 7) (v := ?_) rfl rfl (by kernel_rfl) (by kernel_rfl) (by kernel_rfl) (by kernel_rfl) (by kernel_rfl) rfl (fun _ _ _ h => h) (Or.inl ⟨rfl, ?_⟩) H1 ?_
          rotate_left
          · intro W hW; have hW := HS.out W hW; go_simp; try with_reducible rfl
          simp only [put_list, List.set]
          refine Drawn.take 6 (some 13) (v := ?_) rfl rfl (by kernel_rfl) (by kernel_rfl) (by kernel_rfl) (by kernel_rfl) (by kernel_rfl) rfl (fun _ _ _ h => h) (Or.inl ⟨rfl, ?_⟩) H1 ?_
          rotate_left
          · intro W hW; have hW := HS.out W hW; go_simp; try with_reducible rfl
          simp only [put_list, List.set]
          refine Drawn.take 7 (some 14) (v := ?_) rfl rfl (by kernel_rfl) (by kernel_rfl) (by kernel_rfl) (by kernel_rfl) (by kernel_rfl) rfl (fun _ _ _ h => h) (Or.inl ⟨rfl, ?_⟩) H1 ?_
          rotate_left
          · intro W hW; have hW := HS.out W hW; go_simp; try with_reducible rfl
          simp only [put_list, List.set]
          obtain ⟨⟨c0, c1, c2, c3⟩, g0, g1, g2, g3⟩ := h5.cells
          refine Drawn.only 10 (by kernel_rfl) rfl rfl (fun K hK => ?_)
          go_simp
          refine hK _ _ (fun _ _ => H1.set4 h5.ge _ _ _ _) ?_
          clear hK K c0 c1 c2 c3 g0 g1 g2 g3
          have k5 := heap_set4 h5.1 (.int .u64 q0) (.int .u64 q1) (.int .u64 q2) (.int .u64 q3)
          replace h6 := h6.other h5 (by omega) (.int .u64 q0) (.int .u64 q1) (.int .u64 q2) (.int .u64 q3)
          replace H1 := H1.set4 h5.ge (.int .u64 q0) (.int .u64 q1) (.int .u64 q2) (.int .u64 q3)
          obtain ⟨⟨c0, c1, c2, c3⟩, g0, g1, g2, g3⟩ := h6.cells
          refine Drawn.only 11 (by kernel_rfl) rfl rfl (fun K hK => ?_)
          go_simp
          refine hK _ _ (fun h => by simp at h) ?_
          exact Drawn.done (by kernel_rfl) (hK' _ _ (Met.intro (hJ _ _ ⟨_, _, q0, q1, q2, q3, r0, r1, r2, r3, rfl, HQ.out, HR.out, H1.set4 h6.ge _ _ _ _, (heap_far (by omega) _ _ _ _).trans k5, heap_set4 h6.1 _ _ _ _⟩))) _
      · refine ⟨_, rfl, rfl, fun K hK => ?_⟩
        go_simp
        refine hK _ _ (fun _ _ => H1.alloc _) ?_
        clear hK K
        have h5 : New4 (w.heap.size + 1 + 1 + 1) (.int .u64 0) (.int .u64 0) (.int .u64 0) (.int .u64 0) 45 _ _ := New4.here _ H1.size
        have nh5h6 := h6.2.1
        replace h6 := h6.past (.cells #[.int .u64 0, .int .u64 0, .int .u64 0, .int .u64 0] 45)
        replace H1 := H1.alloc (.cells #[.int .u64 0, .int .u64 0, .int .u64 0, .int .u64 0] 45)
        generalize World.alloc _ _ = V27 at H1 h5 h6 ⊢
        refine Drawn.only 3 (by kernel_rfl) rfl rfl (fun K hK => ?_)
        go_simp
        refine (split_any _ _ _ _ _).mono ?_
        rintro e w2 ⟨rfl, hb⟩
        refine hK _ _ (fun _ _ => H1.call hb) ?_
        replace h5 := carry4 hb h5
        replace h6 := carry4 hb h6
        replace H1 := H1.call hb
        clear hK K hb
        refine Drawn.only 4 (by kernel_rfl) rfl rfl (fun K hK => ?_)
        go_simp
        refine (D.out _).mono ?_
        rintro e w3 ⟨q0, q1, q2, q3, r0, r1, r2, r3, rfl, hq, hr, hb⟩
        have HQ := Lib.hid hq; have HR := Lib.hid hr; clear hq hr
        refine hK _ _ (fun _ _ => H1.call hb) ?_
        replace h5 := carry4 hb h5
        replace h6 := carry4 hb h6
        replace H1 := H1.call hb
        clear hK K hb
        refine Drawn.take 5 (some 7) (v := ?_) rfl rfl (by kernel_rfl) (by kernel_rfl) (by kernel_rfl) (by kernel_rfl) (by kernel_rfl) rfl (fun _ _ _ h => h) (Or.inl ⟨rfl, ?_⟩) H1 ?_
        rotate_left
        · intro W hW; have hW := HS.out W hW; go_simp; try with_reducible rfl
        simp only [put_list, List.set]
        refine Drawn.take 6 (some 13) (v := ?_) rfl rfl (by kernel_rfl) (by kernel_rfl) (by kernel_rfl) (by kernel_rfl) (by kernel_rfl) rfl (fun _ _ _ h => h) (Or.inl ⟨rfl, ?_⟩) H1 ?_
        rotate_left
        · intro W hW; have hW := HS.out W hW; go_simp; try with_reducible rfl
        simp only [put_list, List.set]
        refine Drawn.take 7 (some 14) (v := ?_) rfl rfl (by kernel_rfl) (by kernel_rfl) (by kernel_rfl) (by kernel_rfl) (by kernel_rfl) rfl (fun _ _ _ h => h) (Or.inl ⟨rfl, ?_⟩) H1 ?_
        rotate_left
        · intro W hW; have hW := HS.out W hW; go_simp; try with_reducible rfl
        simp only [put_list, List.set]
        obtain ⟨⟨c0, c1, c2, c3⟩, g0, g1, g2, g3⟩ := h5.cells
        refine Drawn.only 10 (by kernel_rfl) rfl rfl (fun K hK => ?_)
        go_simp
        refine hK _ _ (fun _ _ => H1.set4 h5.ge _ _ _ _) ?_
        clear hK K c0 c1 c2 c3 g0 g1 g2 g3
        have k5 := heap_set4 h5.1 (.int .u64 q0) (.int .u64 q1) (.int .u64 q2) (.int .u64 q3)
        replace h6 := h6.other h5 (by omega) (.int .u64 q0) (.int .u64 q1) (.int .u64 q2) (.int .u64 q3)
        replace H1 := H1.set4 h5.ge (.int .u64 q0) (.int .u64 q1) (.int .u64 q2) (.int .u64 q3)
        obtain ⟨⟨c0, c1, c2, c3⟩, g0, g1, g2, g3⟩ := h6.cells
        refine Drawn.only 11 (by kernel_rfl) rfl rfl (fun K hK => ?_)
        go_simp
        refine hK _ _ (fun h => by simp at h) ?_
        exact Drawn.done (by kernel_rfl) (hK' _ _ (Met.intro (hJ _ _ ⟨_, _, q0, q1, q2, q3, r0, r1, r2, r3, rfl, HQ.out, HR.out, H1.set4 h6.ge _ _ _ _, (heap_far (by omega) _ _ _ _).trans k5, heap_set4 h6.1 _ _ _ _⟩))) _
    · refine ⟨_, rfl, rfl, fun K hK => ?_⟩
      go_simp
      refine hK _ _ (fun _ _ => H1.alloc _) ?_
      clear hK K
      have h5 : New4 (w.heap.size + 1 + 1 + 1) (.int .u64 0) (.int .u64 0) (.int .u64 0) (.int .u64 0) 45 _ _ := New4.here _ H1.size
      have nh5h6 := h6.2.1
      replace h6 := h6.past (.cells #[.int .u64 0, .int .u64 0, .int .u64 0, .int .u64 0] 45)
      replace H1 := H1.alloc (.cells #[.int .u64 0, .int .u64 0, .int .u64 0, .int .u64 0] 45)
      generalize World.alloc _ _ = V28 at H1 h5 h6 ⊢
      refine Drawn.only 1 (by kernel_rfl) rfl rfl (fun K hK => ?_)
      go_simp
      refine (split_any _ _ _ _ _).mono ?_
      rintro e w1 ⟨rfl, hb⟩
      refine hK _ _ (fun _ _ => H1.call hb) ?_
      replace h5 := carry4 hb h5
      replace h6 := carry4 hb h6
      replace H1 := H1.call hb
      clear hK K hb
      refine Drawn.only 3 (by kernel_rfl) rfl rfl (fun K hK => ?_)
      go_simp
      refine (split_any _ _ _ _ _).mono ?_
      rintro e w2 ⟨rfl, hb⟩
      refine hK _ _ (fun _ _ => H1.call hb) ?_
      replace h5 := carry4 hb h5
      replace h6 := carry4 hb h6
      replace H1 := H1.call hb
      clear hK K hb
      refine Drawn.only 4 (by kernel_rfl) rfl rfl (fun K hK => ?_)
      go_simp
      refine (D.out _).mono ?_
      rintro e w3 ⟨q0, q1, q2, q3, r0, r1, r2, r3, rfl, hq, hr, hb⟩
      have HQ := Lib.hid hq; have HR := Lib.hid hr; clear hq hr
      refine hK _ _ (fun _ _ => H1.call hb) ?_
      replace h5 := carry4 hb h5
      replace h6 := carry4 hb h6
      replace H1 := H1.call hb
      clear hK K hb
      refine Drawn.take 5 (some 7) (v := ?_) rfl rfl (by kernel_rfl) (by kernel_rfl) (by kernel_rfl) (by kernel_rfl) (by kernel_rfl) rfl (fun _ _ _ h => h) (Or.inl ⟨rfl, ?_⟩) H1 ?_
      rotate_left
      · intro W hW; have hW := HS.out W hW; go_simp; try with_reducible rfl
      simp only [put_list, List.set]
      refine Drawn.take 6 (some 13) (v := ?_) rfl rfl (by kernel_rfl) (by kernel_rfl) (by kernel_rfl) (by kernel_rfl) (by kernel_rfl) rfl (fun _ _ _ h => h) (Or.inl ⟨rfl, ?_⟩) H1 ?_
      rotate_left
      · intro W hW; have hW := HS.out W hW; go_simp; try with_reducible rfl
      simp only [put_list, List.set]
      refine Drawn.take 7 (some 14) (v := ?_) rfl rfl (by kernel_rfl) (by kernel_rfl) (by kernel_rfl) (by kernel_rfl) (by kernel_rfl) rfl (fun _ _ _ h => h) (Or.inl ⟨rfl, ?_⟩) H1 ?_
      rotate_left
      · intro W hW; have hW := HS.out W hW; go_simp; try with_reducible rfl
      simp only [put_list, List.set]
      obtain ⟨⟨c0, c1, c2, c3⟩, g0, g1, g2, g3⟩ := h5.cells
      refine Drawn.only 10 (by kernel_rfl) rfl rfl (fun K hK => ?_)
      go_simp
      refine hK _ _ (fun _ _ => H1.set4 h5.ge _ _ _ _) ?_
      clear hK K c0 c1 c2 c3 g0 g1 g2 g3
      have k5 := heap_set4 h5.1 (.int .u64 q0) (.int .u64 q1) (.int .u64 q2) (.int .u64 q3)
      replace h6 := h6.other h5 (by omega) (.int .u64 q0) (.int .u64 q1) (.int .u64 q2) (.int .u64 q3)
      replace H1 := H1.set4 h5.ge (.int .u64 q0) (.int .u64 q1) (.int .u64 q2) (.int .u64 q3)
      obtain ⟨⟨c0, c1, c2, c3⟩, g0, g1, g2, g3⟩ := h6.cells
      refine Drawn.only 11 (by kernel_rfl) rfl rfl (fun K hK => ?_)
      go_simp
      refine hK _ _ (fun h => by simp at h) ?_
      exact Drawn.done (by kernel_rfl) (hK' _ _ (Met.intro (hJ _ _ ⟨_, _, q0, q1, q2, q3, r0, r1, r2, r3, rfl, HQ.out, HR.out, H1.set4 h6.ge _ _ _ _, (heap_far (by omega) _ _ _ _).trans k5, heap_set4 h6.1 _ _ _ _⟩))) _

end Go.Proofs.Ythbfhfgmanafpaa
