/- Contracts of package modular: MulMod, SignExtend, SDiv. -/
import Derived.Test.YthbfhfgmanafpaaModD
import Derived.Deep.Cut
namespace Go.Proofs.Ythbfhfgmanafpaa
open Go.RowKit
attribute [local go_sem ↓] Go.wp_at_zero Go.wp_at_succ

theorem mulmod_climb {f g z f3 f2 f1 f0 g3 g2 g1 g0 m3 m2 m1 m0 bg bm : Nat} (hf : Dig f f0 f1 f2 f3) (hg : Dig g g0 g1 g2 g3) (hm : Dig z m0 m1 m2 m3) (hgm : modOf g z = g) (w : World)
    (kg : w.heap[bg]? = some (.cells #[.int .u64 g3, .int .u64 g2, .int .u64 g1, .int .u64 g0] 24 (0, 0))) (km : w.heap[bm]? = some (.cells #[.int .u64 m3, .int .u64 m2, .int .u64 m1, .int .u64 m0] 24 (0, 0))) :
    Calls Try.prog 47 #[.agg #[.int .u64 f3, .int .u64 f2, .int .u64 f1, .int .u64 f0], .agg #[.int .u64 0, .int .u64 0, .int .u64 0, .int .u64 0], .func (.func 45) #[] #[.pointer (some ⟨bm, 0, none⟩)], .func (.func 46) #[] #[.pointer (some ⟨bg, 0, none⟩), .pointer (some ⟨bm, 0, none⟩)]] w (RetD (modOf (f * g) z) w) := by
  refine (climb_c 45 46 #[.pointer (some ⟨bm, 0, none⟩)] #[.pointer (some ⟨bg, 0, none⟩), .pointer (some ⟨bm, 0, none⟩)] (fun p v => v = modOf (p * g) z) hf dig_zero w (fun v w => by kernel_rfl) (fun v w => by kernel_rfl) ?_ ?_ ?_).mono ?_
  · unfold modOf; simp
  · rintro p v v3 v2 v1 v0 W hB hv rfl
    exact (MulMod1_c hv hm W ((hB.block _ (lt_of km)).trans km)).mono fun _ _ h => h.w (by rw [plusM_mod _ _ hm.lt]; congr 1; rw [Nat.mul_assoc, Nat.two_mul])
  · rintro p v v3 v2 v1 v0 W hB hv rfl
    refine (MulMod2_c hv hg hm W ((hB.block _ (lt_of kg)).trans kg) ((hB.block _ (lt_of km)).trans km)).mono fun _ _ h => h.w ?_
    have e := plusM_mod (2 * p * g) g hm.lt
    rw [hgm] at e
    rw [e]; congr 1; rw [Nat.add_mul, Nat.one_mul]
  · rintro e w' ⟨s, s3, s2, s1, s0, rfl, hs, rfl, hb⟩
    exact ⟨_, _, _, _, rfl, hs, hb⟩

set_option maxRecDepth 100000 in
set_option maxHeartbeats 4000000 in
theorem MulMod_c {x y z a3 a2 a1 a0 b3 b2 b1 b0 m3 m2 m1 m0 : Nat} (hx : Dig x a0 a1 a2 a3) (hy : Dig y b0 b1 b2 b3) (hz : Dig z m0 m1 m2 m3) (w : World) :
    Calls Try.prog 16 #[.agg #[.int .u64 a3, .int .u64 a2, .int .u64 a1, .int .u64 a0], .agg #[.int .u64 b3, .int .u64 b2, .int .u64 b1, .int .u64 b0], .agg #[.int .u64 m3, .int .u64 m2, .int .u64 m1, .int .u64 m0]] w (RetD (modOf (x * y) z) w) := by
  have H := (((((Fx.start w).new #[.int .u64 a3, .int .u64 a2, .int .u64 a1, .int .u64 a0] 24).new #[.int .u64 b3, .int .u64 b2, .int .u64 b1, .int .u64 b0] 24).new #[.int .u64 m3, .int .u64 m2, .int .u64 m1, .int .u64 m0] 24).new #[.int .u64 0, .int .u64 0, .int .u64 0, .int .u64 0] 24).1
  have HX := Lib.hid hx; have HY := Lib.hid hy; have HZ := Lib.hid hz
  clear hx hy hz
  go_enter Try.func16, Try.ntmps16
  go_wp2_with fail
  have HS := Lib.hid (fun W (hW : Fr w w.heap.size (w.heap.size + 1 + 1 + 1 + 1) [(w.heap.size + 1 + 1 + 1, #[.int .u64 0, .int .u64 0, .int .u64 0, .int .u64 0], 24), (w.heap.size + 1 + 1, #[.int .u64 m3, .int .u64 m2, .int .u64 m1, .int .u64 m0], 24), (w.heap.size + 1, #[.int .u64 b3, .int .u64 b2, .int .u64 b1, .int .u64 b0], 24), (w.heap.size, #[.int .u64 a3, .int .u64 a2, .int .u64 a1, .int .u64 a0], 24)] W) => And.intro (hW.row (.tail _ (.head _))) (And.intro (hW.row (.tail _ (.tail _ (.head _)))) (hW.row (.tail _ (.tail _ (.tail _ (.head _)))))))
  refine wp_cut (fun a' Wc => ∃ b7 b8 f3 f2 f1 f0 g3 g2 g1 g0 : Nat, a' = ⟨#[.agg #[.int .u64 a3, .int .u64 a2, .int .u64 a1, .int .u64 a0], .agg #[.int .u64 b3, .int .u64 b2, .int .u64 b1, .int .u64 b0], .agg #[.int .u64 m3, .int .u64 m2, .int .u64 m1, .int .u64 m0], .pointer (some ⟨w.heap.size, 0, none⟩), .pointer (some ⟨w.heap.size + 1, 0, none⟩), .pointer (some ⟨w.heap.size + 1 + 1, 0, none⟩), .pointer (some ⟨w.heap.size + 1 + 1 + 1, 0, none⟩), .pointer (some ⟨b7, 0, none⟩), .pointer (some ⟨b8, 0, none⟩), undef, undef, .agg #[.int .u64 a3, .int .u64 a2, .int .u64 a1, .int .u64 a0], .agg #[.int .u64 m3, .int .u64 m2, .int .u64 m1, .int .u64 m0], .agg #[.int .u64 f3, .int .u64 f2, .int .u64 f1, .int .u64 f0], .agg #[.int .u64 b3, .int .u64 b2, .int .u64 b1, .int .u64 b0], .agg #[.int .u64 m3, .int .u64 m2, .int .u64 m1, .int .u64 m0], .agg #[.int .u64 g3, .int .u64 g2, .int .u64 g1, .int .u64 g0], undef, undef, undef, undef, undef, undef, undef, undef, undef, undef, undef, undef], []⟩ ∧ Dig (modOf x z) f0 f1 f2 f3 ∧ Dig (modOf y z) g0 g1 g2 g3 ∧ Fr w w.heap.size (w.heap.size + 1 + 1 + 1 + 1) [(w.heap.size + 1 + 1 + 1, #[.int .u64 0, .int .u64 0, .int .u64 0, .int .u64 0], 24), (w.heap.size + 1 + 1, #[.int .u64 m3, .int .u64 m2, .int .u64 m1, .int .u64 m0], 24), (w.heap.size + 1, #[.int .u64 b3, .int .u64 b2, .int .u64 b1, .int .u64 b0], 24), (w.heap.size, #[.int .u64 a3, .int .u64 a2, .int .u64 a1, .int .u64 a0], 24)] Wc ∧ w.heap.size + 1 + 1 + 1 + 1 ≤ b7 ∧ w.heap.size + 1 + 1 + 1 + 1 ≤ b8 ∧ b7 ≠ b8 ∧
      Wc.heap[b7]? = some (.cells #[.int .u64 f3, .int .u64 f2, .int .u64 f1, .int .u64 f0] 24 (0, 0)) ∧ Wc.heap[b8]? = some (.cells #[.int .u64 g3, .int .u64 g2, .int .u64 g1, .int .u64 g0] 24 (0, 0))) ?rest ?tree
  case rest =>
    rintro a' Wc ⟨b7, b8, f3, f2, f1, f0, g3, g2, g1, g0, rfl, hf, hg, F2, l7, l8, hne, K7, K8⟩
    clear H HS
    have HF := Lib.hid hf; have HG := Lib.hid hg
    have Le := Lib.hid (fun W => Less_c hg hf W)
    unfold RetB at Le
    have kF := (cells4 K7).1; have kG := (cells4 K8).1
    replace F2 := Lib.hid F2; replace K7 := Lib.hid K7; replace K8 := Lib.hid K8
    clear hf hg
    go_wp2_with fail
    refine (Le.out _).mono ?_
    rintro e w2 ⟨rfl, hb2⟩
    replace F2 := F2.out.call hb2
    replace K7 := (hb2.block _ (lt_of K7.out)).trans K7.out
    replace K8 := (hb2.block _ (lt_of K8.out)).trans K8.out
    clear hb2 Le kF kG
    by_cases hlt : modOf y z < modOf x z
    · rw [decide_eq_true hlt]
      clear hlt
      have kF := cells4 K7; have kG := cells4 K8
      have nF := lt_of K7; have nG := lt_of K8
      have S7 := Lib.hid ((heap_far hne (.int .u64 f3) (.int .u64 f2) (.int .u64 f1) (.int .u64 f0)).trans (heap_set4 K7 (.int .u64 g3) (.int .u64 g2) (.int .u64 g1) (.int .u64 g0)))
      have S8 := Lib.hid (heap_set4 ((heap_far (Ne.symm hne) (.int .u64 g3) (.int .u64 g2) (.int .u64 g1) (.int .u64 g0)).trans K8) (.int .u64 f3) (.int .u64 f2) (.int .u64 f1) (.int .u64 f0))
      have F3 := Lib.hid ((F2.set4 l7 (.int .u64 g3) (.int .u64 g2) (.int .u64 g1) (.int .u64 g0)).set4 l8 (.int .u64 f3) (.int .u64 f2) (.int .u64 f1) (.int .u64 f0))
      replace F2 := Lib.hid F2; replace K7 := Lib.hid K7; replace K8 := Lib.hid K8
      go_upto_region 6 with fail
      clear kF kG nF nG K7 K8 F2
      replace S7 := S7.out; replace S8 := S8.out; replace F3 := F3.out
      generalize World.setCell _ _ _ = W3 at S7 S8 F3 ⊢
      have K7 := S7; have K8 := S8; clear S7 S8
      have kF := (cells4 K7).1; have kG := (cells4 K8).1
      have nF := lt_of K7
      have C := Lib.hid (mulmod_climb HG.out HF.out HZ.out (modOf_mod _ _) W3 K8 (F3.know _ (.tail _ (.head _))).2)
      have HE := Lib.hid (show modOf (modOf y z * modOf x z) z = modOf (x * y) z by rw [modOf_mul, Nat.mul_comm])
      replace F3 := Lib.hid F3
      clear K7 K8
      go_wp2_with fail
      refine C.out.mono ?_
      rintro e w4 ⟨r3, r2, r1, r0, rfl, hr, hb4⟩
      have F4 := F3.out.call hb4
      have K := (F4.know _ (.head _)).2
      have k0 := cells4 K
      have n4 := F4.lt (.head _)
      replace K := Lib.hid K; replace F4 := Lib.hid F4
      clear hb4 F3 C kF kG nF
      go_wp2_with fail
      exact bodyPost_ret (results_cell_row Try.results16 _ _ _ _ _ _ _ rfl (heap_set4 K.out _ _ _ _) Try.underlying24 rfl (by kernel_rfl)) rfl
        ⟨_, _, _, _, rfl, HE.out ▸ hr, below_set4 F4.out.below (by omega) _ _ _ _⟩
    · rw [decide_eq_false hlt]
      clear hlt
      have F3 := F2; clear F2
      generalize w2 = W3 at *
      have kF := (cells4 K7).1; have kG := (cells4 K8).1
      have nF := lt_of K7
      have C := Lib.hid (mulmod_climb HF.out HG.out HZ.out (modOf_mod _ _) W3 K8 (F3.know _ (.tail _ (.head _))).2)
      have HE := Lib.hid (show modOf (modOf x z * modOf y z) z = modOf (x * y) z by rw [modOf_mul])
      replace F3 := Lib.hid F3
      clear K7 K8
      go_wp2_with fail
      refine C.out.mono ?_
      rintro e w4 ⟨r3, r2, r1, r0, rfl, hr, hb4⟩
      have F4 := F3.out.call hb4
      have K := (F4.know _ (.head _)).2
      have k0 := cells4 K
      have n4 := F4.lt (.head _)
      replace K := Lib.hid K; replace F4 := Lib.hid F4
      clear hb4 F3 C kF kG nF
      go_wp2_with fail
      exact bodyPost_ret (results_cell_row Try.results16 _ _ _ _ _ _ _ rfl (heap_set4 K.out _ _ _ _) Try.underlying24 rfl (by kernel_rfl)) rfl
        ⟨_, _, _, _, rfl, HE.out ▸ hr, below_set4 F4.out.below (by omega) _ _ _ _⟩
  intro J K' hJ hK'
  have H0 := H.drew
  refine Drawn.startEx (fun i => i == 9) H (by kernel_rfl) ?_
  clear H
  refine Drawn.take 0 (some 11) (v := ?_) rfl rfl (by kernel_rfl) (by kernel_rfl) (by kernel_rfl) (by kernel_rfl) (by kernel_rfl) rfl (fun _ _ _ h => h) (Or.inl ⟨rfl, ?_⟩) H0 ?_
  rotate_left
  · intro W hW; have hW := HS.out W hW; go_simp; try with_reducible rfl
  simp only [put_list, List.set]
  refine Drawn.take 1 (some 12) (v := ?_) rfl rfl (by kernel_rfl) (by kernel_rfl) (by kernel_rfl) (by kernel_rfl) (by kernel_rfl) rfl (fun _ _ _ h => h) (Or.inl ⟨rfl, ?_⟩) H0 ?_
  rotate_left
  · intro W hW; have hW := HS.out W hW; go_simp; try with_reducible rfl
  simp only [put_list, List.set]
  refine Drawn.take 3 (some 14) (v := ?_) rfl rfl (by kernel_rfl) (by kernel_rfl) (by kernel_rfl) (by kernel_rfl) (by kernel_rfl) rfl (fun _ _ _ h => h) (Or.inl ⟨rfl, ?_⟩) H0 ?_
  rotate_left
  · intro W hW; have hW := HS.out W hW; go_simp; try with_reducible rfl
  simp only [put_list, List.set]
  refine Drawn.take 4 (some 15) (v := ?_) rfl rfl (by kernel_rfl) (by kernel_rfl) (by kernel_rfl) (by kernel_rfl) (by kernel_rfl) rfl (fun _ _ _ h => h) (Or.inl ⟨rfl, ?_⟩) H0 ?_
  rotate_left
  · intro W hW; have hW := HS.out W hW; go_simp; try with_reducible rfl
  simp only [put_list, List.set]
  have H1 := H0
  clear H0
  generalize World.drew _ = W0 at H1 ⊢
  refine Drawn.among [2, 6, 7] (by kernel_rfl) (by decide) ?_
  intro i hi
  simp only [List.mem_cons, List.not_mem_nil, or_false] at hi
  rcases hi with rfl | rfl | rfl
  · refine ⟨_, rfl, rfl, fun K hK => ?_⟩
    go_simp
    refine (Mod_m HX.out HZ.out _).mono ?_
    rintro e w1 ⟨f3, f2, f1, f0, rfl, hf, hb⟩
    have HF := Lib.hid hf; clear hf
    refine hK _ _ (fun _ _ => H1.call hb) ?_
    replace H1 := H1.call hb
    clear hK K hb
    refine Drawn.among [5, 6, 7] (by kernel_rfl) (by decide) ?_
    intro i hi
    simp only [List.mem_cons, List.not_mem_nil, or_false] at hi
    rcases hi with rfl | rfl | rfl
    · refine ⟨_, rfl, rfl, fun K hK => ?_⟩
      go_simp
      refine (Mod_m HY.out HZ.out _).mono ?_
      rintro e w2 ⟨g3, g2, g1, g0, rfl, hg, hb⟩
      have HG := Lib.hid hg; clear hg
      refine hK _ _ (fun _ _ => H1.call hb) ?_
      replace H1 := H1.call hb
      clear hK K hb
      refine Drawn.among [6, 7] (by kernel_rfl) (by decide) ?_
      intro i hi
      simp only [List.mem_cons, List.not_mem_nil, or_false] at hi
      rcases hi with rfl | rfl
      · refine ⟨_, rfl, rfl, fun K hK => ?_⟩
        go_simp
        refine hK _ _ (fun _ _ => H1.alloc _) ?_
        clear hK K
        have h5 : New4 (w.heap.size + 1 + 1 + 1 + 1) (.int .u64 0) (.int .u64 0) (.int .u64 0) (.int .u64 0) 24 _ _ := New4.here _ H1.size
        replace H1 := H1.alloc (.cells #[.int .u64 0, .int .u64 0, .int .u64 0, .int .u64 0] 24)
        generalize World.alloc _ _ = V1 at H1 h5 ⊢
        refine Drawn.only 7 (by kernel_rfl) rfl rfl (fun K hK => ?_)
        go_simp
        refine hK _ _ (fun _ _ => H1.alloc _) ?_
        clear hK K
        have h6 : New4 (w.heap.size + 1 + 1 + 1 + 1) (.int .u64 0) (.int .u64 0) (.int .u64 0) (.int .u64 0) 24 _ _ := New4.here _ H1.size
        have nh6h5 := h5.2.1
        replace h5 := h5.past (.cells #[.int .u64 0, .int .u64 0, .int .u64 0, .int .u64 0] 24)
        replace H1 := H1.alloc (.cells #[.int .u64 0, .int .u64 0, .int .u64 0, .int .u64 0] 24)
        generalize World.alloc _ _ = V2 at H1 h6 h5 ⊢
        obtain ⟨⟨c0, c1, c2, c3⟩, q0, q1, q2, q3⟩ := h5.cells
        refine Drawn.only 8 (by kernel_rfl) rfl rfl (fun K hK => ?_)
        go_simp
        refine hK _ _ (fun _ _ => H1.set4 h5.ge _ _ _ _) ?_
        clear hK K c0 c1 c2 c3 q0 q1 q2 q3
        have k5 := heap_set4 h5.1 (.int .u64 f3) (.int .u64 f2) (.int .u64 f1) (.int .u64 f0)
        replace h6 := h6.other h5 (by omega) (.int .u64 f3) (.int .u64 f2) (.int .u64 f1) (.int .u64 f0)
        replace H1 := H1.set4 h5.ge (.int .u64 f3) (.int .u64 f2) (.int .u64 f1) (.int .u64 f0)
        obtain ⟨⟨c0, c1, c2, c3⟩, q0, q1, q2, q3⟩ := h6.cells
        refine Drawn.only 9 (by kernel_rfl) rfl rfl (fun K hK => ?_)
        go_simp
        refine hK _ _ (fun h => by simp at h) ?_
        exact Drawn.done (by kernel_rfl) (hK' _ _ (Met.intro (hJ _ _ ⟨_, _, f3, f2, f1, f0, g3, g2, g1, g0, rfl, HF.out, HG.out, H1.set4 h6.ge _ _ _ _, h5.ge, h6.ge, (by omega), (heap_far (by omega) _ _ _ _).trans k5, heap_set4 h6.1 _ _ _ _⟩))) _
      · refine ⟨_, rfl, rfl, fun K hK => ?_⟩
        go_simp
        refine hK _ _ (fun _ _ => H1.alloc _) ?_
        clear hK K
        have h6 : New4 (w.heap.size + 1 + 1 + 1 + 1) (.int .u64 0) (.int .u64 0) (.int .u64 0) (.int .u64 0) 24 _ _ := New4.here _ H1.size
        replace H1 := H1.alloc (.cells #[.int .u64 0, .int .u64 0, .int .u64 0, .int .u64 0] 24)
        generalize World.alloc _ _ = V3 at H1 h6 ⊢
        refine Drawn.only 6 (by kernel_rfl) rfl rfl (fun K hK => ?_)
        go_simp
        refine hK _ _ (fun _ _ => H1.alloc _) ?_
        clear hK K
        have h5 : New4 (w.heap.size + 1 + 1 + 1 + 1) (.int .u64 0) (.int .u64 0) (.int .u64 0) (.int .u64 0) 24 _ _ := New4.here _ H1.size
        have nh5h6 := h6.2.1
        replace h6 := h6.past (.cells #[.int .u64 0, .int .u64 0, .int .u64 0, .int .u64 0] 24)
        replace H1 := H1.alloc (.cells #[.int .u64 0, .int .u64 0, .int .u64 0, .int .u64 0] 24)
        generalize World.alloc _ _ = V4 at H1 h5 h6 ⊢
        obtain ⟨⟨c0, c1, c2, c3⟩, q0, q1, q2, q3⟩ := h5.cells
        refine Drawn.only 8 (by kernel_rfl) rfl rfl (fun K hK => ?_)
        go_simp
        refine hK _ _ (fun _ _ => H1.set4 h5.ge _ _ _ _) ?_
        clear hK K c0 c1 c2 c3 q0 q1 q2 q3
        have k5 := heap_set4 h5.1 (.int .u64 f3) (.int .u64 f2) (.int .u64 f1) (.int .u64 f0)
        replace h6 := h6.other h5 (by omega) (.int .u64 f3) (.int .u64 f2) (.int .u64 f1) (.int .u64 f0)
        replace H1 := H1.set4 h5.ge (.int .u64 f3) (.int .u64 f2) (.int .u64 f1) (.int .u64 f0)
        obtain ⟨⟨c0, c1, c2, c3⟩, q0, q1, q2, q3⟩ := h6.cells
        refine Drawn.only 9 (by kernel_rfl) rfl rfl (fun K hK => ?_)
        go_simp
        refine hK _ _ (fun h => by simp at h) ?_
        exact Drawn.done (by kernel_rfl) (hK' _ _ (Met.intro (hJ _ _ ⟨_, _, f3, f2, f1, f0, g3, g2, g1, g0, rfl, HF.out, HG.out, H1.set4 h6.ge _ _ _ _, h5.ge, h6.ge, (by omega), (heap_far (by omega) _ _ _ _).trans k5, heap_set4 h6.1 _ _ _ _⟩))) _
    · refine ⟨_, rfl, rfl, fun K hK => ?_⟩
      go_simp
      refine hK _ _ (fun _ _ => H1.alloc _) ?_
      clear hK K
      have h5 : New4 (w.heap.size + 1 + 1 + 1 + 1) (.int .u64 0) (.int .u64 0) (.int .u64 0) (.int .u64 0) 24 _ _ := New4.here _ H1.size
      replace H1 := H1.alloc (.cells #[.int .u64 0, .int .u64 0, .int .u64 0, .int .u64 0] 24)
      generalize World.alloc _ _ = V5 at H1 h5 ⊢
      refine Drawn.among [5, 7] (by kernel_rfl) (by decide) ?_
      intro i hi
      simp only [List.mem_cons, List.not_mem_nil, or_false] at hi
      rcases hi with rfl | rfl
      · refine ⟨_, rfl, rfl, fun K hK => ?_⟩
        go_simp
        refine (Mod_m HY.out HZ.out _).mono ?_
        rintro e w2 ⟨g3, g2, g1, g0, rfl, hg, hb⟩
        have HG := Lib.hid hg; clear hg
        refine hK _ _ (fun _ _ => H1.call hb) ?_
        replace h5 := carry4 hb h5
        replace H1 := H1.call hb
        clear hK K hb
        refine Drawn.only 7 (by kernel_rfl) rfl rfl (fun K hK => ?_)
        go_simp
        refine hK _ _ (fun _ _ => H1.alloc _) ?_
        clear hK K
        have h6 : New4 (w.heap.size + 1 + 1 + 1 + 1) (.int .u64 0) (.int .u64 0) (.int .u64 0) (.int .u64 0) 24 _ _ := New4.here _ H1.size
        have nh6h5 := h5.2.1
        replace h5 := h5.past (.cells #[.int .u64 0, .int .u64 0, .int .u64 0, .int .u64 0] 24)
        replace H1 := H1.alloc (.cells #[.int .u64 0, .int .u64 0, .int .u64 0, .int .u64 0] 24)
        generalize World.alloc _ _ = V6 at H1 h6 h5 ⊢
        obtain ⟨⟨c0, c1, c2, c3⟩, q0, q1, q2, q3⟩ := h5.cells
        refine Drawn.only 8 (by kernel_rfl) rfl rfl (fun K hK => ?_)
        go_simp
        refine hK _ _ (fun _ _ => H1.set4 h5.ge _ _ _ _) ?_
        clear hK K c0 c1 c2 c3 q0 q1 q2 q3
        have k5 := heap_set4 h5.1 (.int .u64 f3) (.int .u64 f2) (.int .u64 f1) (.int .u64 f0)
        replace h6 := h6.other h5 (by omega) (.int .u64 f3) (.int .u64 f2) (.int .u64 f1) (.int .u64 f0)
        replace H1 := H1.set4 h5.ge (.int .u64 f3) (.int .u64 f2) (.int .u64 f1) (.int .u64 f0)
        obtain ⟨⟨c0, c1, c2, c3⟩, q0, q1, q2, q3⟩ := h6.cells
        refine Drawn.only 9 (by kernel_rfl) rfl rfl (fun K hK => ?_)
        go_simp
        refine hK _ _ (fun h => by simp at h) ?_
        exact Drawn.done (by kernel_rfl) (hK' _ _ (Met.intro (hJ _ _ ⟨_, _, f3, f2, f1, f0, g3, g2, g1, g0, rfl, HF.out, HG.out, H1.set4 h6.ge _ _ _ _, h5.ge, h6.ge, (by omega), (heap_far (by omega) _ _ _ _).trans k5, heap_set4 h6.1 _ _ _ _⟩))) _
      · refine ⟨_, rfl, rfl, fun K hK => ?_⟩
        go_simp
        refine hK _ _ (fun _ _ => H1.alloc _) ?_
        clear hK K
        have h6 : New4 (w.heap.size + 1 + 1 + 1 + 1) (.int .u64 0) (.int .u64 0) (.int .u64 0) (.int .u64 0) 24 _ _ := New4.here _ H1.size
        have nh6h5 := h5.2.1
        replace h5 := h5.past (.cells #[.int .u64 0, .int .u64 0, .int .u64 0, .int .u64 0] 24)
        replace H1 := H1.alloc (.cells #[.int .u64 0, .int .u64 0, .int .u64 0, .int .u64 0] 24)
        generalize World.alloc _ _ = V7 at H1 h6 h5 ⊢
        refine Drawn.only 5 (by kernel_rfl) rfl rfl (fun K hK => ?_)
        go_simp
        refine (Mod_m HY.out HZ.out _).mono ?_
        rintro e w2 ⟨g3, g2, g1, g0, rfl, hg, hb⟩
        have HG := Lib.hid hg; clear hg
        refine hK _ _ (fun _ _ => H1.call hb) ?_
        replace h5 := carry4 hb h5
        replace h6 := carry4 hb h6
        replace H1 := H1.call hb
        clear hK K hb
        obtain ⟨⟨c0, c1, c2, c3⟩, q0, q1, q2, q3⟩ := h5.cells
        refine Drawn.only 8 (by kernel_rfl) rfl rfl (fun K hK => ?_)
        go_simp
        refine hK _ _ (fun _ _ => H1.set4 h5.ge _ _ _ _) ?_
        clear hK K c0 c1 c2 c3 q0 q1 q2 q3
        have k5 := heap_set4 h5.1 (.int .u64 f3) (.int .u64 f2) (.int .u64 f1) (.int .u64 f0)
        replace h6 := h6.other h5 (by omega) (.int .u64 f3) (.int .u64 f2) (.int .u64 f1) (.int .u64 f0)
        replace H1 := H1.set4 h5.ge (.int .u64 f3) (.int .u64 f2) (.int .u64 f1) (.int .u64 f0)
        obtain ⟨⟨c0, c1, c2, c3⟩, q0, q1, q2, q3⟩ := h6.cells
        refine Drawn.only 9 (by kernel_rfl) rfl rfl (fun K hK => ?_)
        go_simp
        refine hK _ _ (fun h => by simp at h) ?_
        exact Drawn.done (by kernel_rfl) (hK' _ _ (Met.intro (hJ _ _ ⟨_, _, f3, f2, f1, f0, g3, g2, g1, g0, rfl, HF.out, HG.out, H1.set4 h6.ge _ _ _ _, h5.ge, h6.ge, (by omega), (heap_far (by omega) _ _ _ _).trans k5, heap_set4 h6.1 _ _ _ _⟩))) _
    · refine ⟨_, rfl, rfl, fun K hK => ?_⟩
      go_simp
      refine hK _ _ (fun _ _ => H1.alloc _) ?_
      clear hK K
      have h6 : New4 (w.heap.size + 1 + 1 + 1 + 1) (.int .u64 0) (.int .u64 0) (.int .u64 0) (.int .u64 0) 24 _ _ := New4.here _ H1.size
      replace H1 := H1.alloc (.cells #[.int .u64 0, .int .u64 0, .int .u64 0, .int .u64 0] 24)
      generalize World.alloc _ _ = V8 at H1 h6 ⊢
      refine Drawn.among [5, 6] (by kernel_rfl) (by decide) ?_
      intro i hi
      simp only [List.mem_cons, List.not_mem_nil, or_false] at hi
      rcases hi with rfl | rfl
      · refine ⟨_, rfl, rfl, fun K hK => ?_⟩
        go_simp
        refine (Mod_m HY.out HZ.out _).mono ?_
        rintro e w2 ⟨g3, g2, g1, g0, rfl, hg, hb⟩
        have HG := Lib.hid hg; clear hg
        refine hK _ _ (fun _ _ => H1.call hb) ?_
        replace h6 := carry4 hb h6
        replace H1 := H1.call hb
        clear hK K hb
        refine Drawn.only 6 (by kernel_rfl) rfl rfl (fun K hK => ?_)
        go_simp
        refine hK _ _ (fun _ _ => H1.alloc _) ?_
        clear hK K
        have h5 : New4 (w.heap.size + 1 + 1 + 1 + 1) (.int .u64 0) (.int .u64 0) (.int .u64 0) (.int .u64 0) 24 _ _ := New4.here _ H1.size
        have nh5h6 := h6.2.1
        replace h6 := h6.past (.cells #[.int .u64 0, .int .u64 0, .int .u64 0, .int .u64 0] 24)
        replace H1 := H1.alloc (.cells #[.int .u64 0, .int .u64 0, .int .u64 0, .int .u64 0] 24)
        generalize World.alloc _ _ = V9 at H1 h5 h6 ⊢
        obtain ⟨⟨c0, c1, c2, c3⟩, q0, q1, q2, q3⟩ := h5.cells
        refine Drawn.only 8 (by kernel_rfl) rfl rfl (fun K hK => ?_)
        go_simp
        refine hK _ _ (fun _ _ => H1.set4 h5.ge _ _ _ _) ?_
        clear hK K c0 c1 c2 c3 q0 q1 q2 q3
        have k5 := heap_set4 h5.1 (.int .u64 f3) (.int .u64 f2) (.int .u64 f1) (.int .u64 f0)
        replace h6 := h6.other h5 (by omega) (.int .u64 f3) (.int .u64 f2) (.int .u64 f1) (.int .u64 f0)
        replace H1 := H1.set4 h5.ge (.int .u64 f3) (.int .u64 f2) (.int .u64 f1) (.int .u64 f0)
        obtain ⟨⟨c0, c1, c2, c3⟩, q0, q1, q2, q3⟩ := h6.cells
        refine Drawn.only 9 (by kernel_rfl) rfl rfl (fun K hK => ?_)
        go_simp
        refine hK _ _ (fun h => by simp at h) ?_
        exact Drawn.done (by kernel_rfl) (hK' _ _ (Met.intro (hJ _ _ ⟨_, _, f3, f2, f1, f0, g3, g2, g1, g0, rfl, HF.out, HG.out, H1.set4 h6.ge _ _ _ _, h5.ge, h6.ge, (by omega), (heap_far (by omega) _ _ _ _).trans k5, heap_set4 h6.1 _ _ _ _⟩))) _
      · refine ⟨_, rfl, rfl, fun K hK => ?_⟩
        go_simp
        refine hK _ _ (fun _ _ => H1.alloc _) ?_
        clear hK K
        have h5 : New4 (w.heap.size + 1 + 1 + 1 + 1) (.int .u64 0) (.int .u64 0) (.int .u64 0) (.int .u64 0) 24 _ _ := New4.here _ H1.size
        have nh5h6 := h6.2.1
        replace h6 := h6.past (.cells #[.int .u64 0, .int .u64 0, .int .u64 0, .int .u64 0] 24)
        replace H1 := H1.alloc (.cells #[.int .u64 0, .int .u64 0, .int .u64 0, .int .u64 0] 24)
        generalize World.alloc _ _ = V10 at H1 h5 h6 ⊢
        refine Drawn.only 5 (by kernel_rfl) rfl rfl (fun K hK => ?_)
        go_simp
        refine (Mod_m HY.out HZ.out _).mono ?_
        rintro e w2 ⟨g3, g2, g1, g0, rfl, hg, hb⟩
        have HG := Lib.hid hg; clear hg
        refine hK _ _ (fun _ _ => H1.call hb) ?_
        replace h5 := carry4 hb h5
        replace h6 := carry4 hb h6
        replace H1 := H1.call hb
        clear hK K hb
        obtain ⟨⟨c0, c1, c2, c3⟩, q0, q1, q2, q3⟩ := h5.cells
        refine Drawn.only 8 (by kernel_rfl) rfl rfl (fun K hK => ?_)
        go_simp
        refine hK _ _ (fun _ _ => H1.set4 h5.ge _ _ _ _) ?_
        clear hK K c0 c1 c2 c3 q0 q1 q2 q3
        have k5 := heap_set4 h5.1 (.int .u64 f3) (.int .u64 f2) (.int .u64 f1) (.int .u64 f0)
        replace h6 := h6.other h5 (by omega) (.int .u64 f3) (.int .u64 f2) (.int .u64 f1) (.int .u64 f0)
        replace H1 := H1.set4 h5.ge (.int .u64 f3) (.int .u64 f2) (.int .u64 f1) (.int .u64 f0)
        obtain ⟨⟨c0, c1, c2, c3⟩, q0, q1, q2, q3⟩ := h6.cells
        refine Drawn.only 9 (by kernel_rfl) rfl rfl (fun K hK => ?_)
        go_simp
        refine hK _ _ (fun h => by simp at h) ?_
        exact Drawn.done (by kernel_rfl) (hK' _ _ (Met.intro (hJ _ _ ⟨_, _, f3, f2, f1, f0, g3, g2, g1, g0, rfl, HF.out, HG.out, H1.set4 h6.ge _ _ _ _, h5.ge, h6.ge, (by omega), (heap_far (by omega) _ _ _ _).trans k5, heap_set4 h6.1 _ _ _ _⟩))) _
  · refine ⟨_, rfl, rfl, fun K hK => ?_⟩
    go_simp
    refine hK _ _ (fun _ _ => H1.alloc _) ?_
    clear hK K
    have h5 : New4 (w.heap.size + 1 + 1 + 1 + 1) (.int .u64 0) (.int .u64 0) (.int .u64 0) (.int .u64 0) 24 _ _ := New4.here _ H1.size
    replace H1 := H1.alloc (.cells #[.int .u64 0, .int .u64 0, .int .u64 0, .int .u64 0] 24)
    generalize World.alloc _ _ = V11 at H1 h5 ⊢
    refine Drawn.among [2, 7] (by kernel_rfl) (by decide) ?_
    intro i hi
    simp only [List.mem_cons, List.not_mem_nil, or_false] at hi
    rcases hi with rfl | rfl
    · refine ⟨_, rfl, rfl, fun K hK => ?_⟩
      go_simp
      refine (Mod_m HX.out HZ.out _).mono ?_
      rintro e w1 ⟨f3, f2, f1, f0, rfl, hf, hb⟩
      have HF := Lib.hid hf; clear hf
      refine hK _ _ (fun _ _ => H1.call hb) ?_
      replace h5 := carry4 hb h5
      replace H1 := H1.call hb
      clear hK K hb
      refine Drawn.among [5, 7] (by kernel_rfl) (by decide) ?_
      intro i hi
      simp only [List.mem_cons, List.not_mem_nil, or_false] at hi
      rcases hi with rfl | rfl
      · refine ⟨_, rfl, rfl, fun K hK => ?_⟩
        go_simp
        refine (Mod_m HY.out HZ.out _).mono ?_
        rintro e w2 ⟨g3, g2, g1, g0, rfl, hg, hb⟩
        have HG := Lib.hid hg; clear hg
        refine hK _ _ (fun _ _ => H1.call hb) ?_
        replace h5 := carry4 hb h5
        replace H1 := H1.call hb
        clear hK K hb
        refine Drawn.only 7 (by kernel_rfl) rfl rfl (fun K hK => ?_)
        go_simp
        refine hK _ _ (fun _ _ => H1.alloc _) ?_
        clear hK K
        have h6 : New4 (w.heap.size + 1 + 1 + 1 + 1) (.int .u64 0) (.int .u64 0) (.int .u64 0) (.int .u64 0) 24 _ _ := New4.here _ H1.size
        have nh6h5 := h5.2.1
        replace h5 := h5.past (.cells #[.int .u64 0, .int .u64 0, .int .u64 0, .int .u64 0] 24)
        replace H1 := H1.alloc (.cells #[.int .u64 0, .int .u64 0, .int .u64 0, .int .u64 0] 24)
        generalize World.alloc _ _ = V12 at H1 h6 h5 ⊢
        obtain ⟨⟨c0, c1, c2, c3⟩, q0, q1, q2, q3⟩ := h5.cells
        refine Drawn.only 8 (by kernel_rfl) rfl rfl (fun K hK => ?_)
        go_simp
        refine hK _ _ (fun _ _ => H1.set4 h5.ge _ _ _ _) ?_
        clear hK K c0 c1 c2 c3 q0 q1 q2 q3
        have k5 := heap_set4 h5.1 (.int .u64 f3) (.int .u64 f2) (.int .u64 f1) (.int .u64 f0)
        replace h6 := h6.other h5 (by omega) (.int .u64 f3) (.int .u64 f2) (.int .u64 f1) (.int .u64 f0)
        replace H1 := H1.set4 h5.ge (.int .u64 f3) (.int .u64 f2) (.int .u64 f1) (.int .u64 f0)
        obtain ⟨⟨c0, c1, c2, c3⟩, q0, q1, q2, q3⟩ := h6.cells
        refine Drawn.only 9 (by kernel_rfl) rfl rfl (fun K hK => ?_)
        go_simp
        refine hK _ _ (fun h => by simp at h) ?_
        exact Drawn.done (by kernel_rfl) (hK' _ _ (Met.intro (hJ _ _ ⟨_, _, f3, f2, f1, f0, g3, g2, g1, g0, rfl, HF.out, HG.out, H1.set4 h6.ge _ _ _ _, h5.ge, h6.ge, (by omega), (heap_far (by omega) _ _ _ _).trans k5, heap_set4 h6.1 _ _ _ _⟩))) _
      · refine ⟨_, rfl, rfl, fun K hK => ?_⟩
        go_simp
        refine hK _ _ (fun _ _ => H1.alloc _) ?_
        clear hK K
        have h6 : New4 (w.heap.size + 1 + 1 + 1 + 1) (.int .u64 0) (.int .u64 0) (.int .u64 0) (.int .u64 0) 24 _ _ := New4.here _ H1.size
        have nh6h5 := h5.2.1
        replace h5 := h5.past (.cells #[.int .u64 0, .int .u64 0, .int .u64 0, .int .u64 0] 24)
        replace H1 := H1.alloc (.cells #[.int .u64 0, .int .u64 0, .int .u64 0, .int .u64 0] 24)
        generalize World.alloc _ _ = V13 at H1 h6 h5 ⊢
        refine Drawn.only 5 (by kernel_rfl) rfl rfl (fun K hK => ?_)
        go_simp
        refine (Mod_m HY.out HZ.out _).mono ?_
        rintro e w2 ⟨g3, g2, g1, g0, rfl, hg, hb⟩
        have HG := Lib.hid hg; clear hg
        refine hK _ _ (fun _ _ => H1.call hb) ?_
        replace h5 := carry4 hb h5
        replace h6 := carry4 hb h6
        replace H1 := H1.call hb
        clear hK K hb
        obtain ⟨⟨c0, c1, c2, c3⟩, q0, q1, q2, q3⟩ := h5.cells
        refine Drawn.only 8 (by kernel_rfl) rfl rfl (fun K hK => ?_)
        go_simp
        refine hK _ _ (fun _ _ => H1.set4 h5.ge _ _ _ _) ?_
        clear hK K c0 c1 c2 c3 q0 q1 q2 q3
        have k5 := heap_set4 h5.1 (.int .u64 f3) (.int .u64 f2) (.int .u64 f1) (.int .u64 f0)
        replace h6 := h6.other h5 (by omega) (.int .u64 f3) (.int .u64 f2) (.int .u64 f1) (.int .u64 f0)
        replace H1 := H1.set4 h5.ge (.int .u64 f3) (.int .u64 f2) (.int .u64 f1) (.int .u64 f0)
        obtain ⟨⟨c0, c1, c2, c3⟩, q0, q1, q2, q3⟩ := h6.cells
        refine Drawn.only 9 (by kernel_rfl) rfl rfl (fun K hK => ?_)
        go_simp
        refine hK _ _ (fun h => by simp at h) ?_
        exact Drawn.done (by kernel_rfl) (hK' _ _ (Met.intro (hJ _ _ ⟨_, _, f3, f2, f1, f0, g3, g2, g1, g0, rfl, HF.out, HG.out, H1.set4 h6.ge _ _ _ _, h5.ge, h6.ge, (by omega), (heap_far (by omega) _ _ _ _).trans k5, heap_set4 h6.1 _ _ _ _⟩))) _
    · refine ⟨_, rfl, rfl, fun K hK => ?_⟩
      go_simp
      refine hK _ _ (fun _ _ => H1.alloc _) ?_
      clear hK K
      have h6 : New4 (w.heap.size + 1 + 1 + 1 + 1) (.int .u64 0) (.int .u64 0) (.int .u64 0) (.int .u64 0) 24 _ _ := New4.here _ H1.size
      have nh6h5 := h5.2.1
      replace h5 := h5.past (.cells #[.int .u64 0, .int .u64 0, .int .u64 0, .int .u64 0] 24)
      replace H1 := H1.alloc (.cells #[.int .u64 0, .int .u64 0, .int .u64 0, .int .u64 0] 24)
      generalize World.alloc _ _ = V14 at H1 h6 h5 ⊢
      refine Drawn.only 2 (by kernel_rfl) rfl rfl (fun K hK => ?_)
      go_simp
      refine (Mod_m HX.out HZ.out _).mono ?_
      rintro e w1 ⟨f3, f2, f1, f0, rfl, hf, hb⟩
      have HF := Lib.hid hf; clear hf
      refine hK _ _ (fun _ _ => H1.call hb) ?_
      replace h5 := carry4 hb h5
      replace h6 := carry4 hb h6
      replace H1 := H1.call hb
      clear hK K hb
      refine Drawn.only 5 (by kernel_rfl) rfl rfl (fun K hK => ?_)
      go_simp
      refine (Mod_m HY.out HZ.out _).mono ?_
      rintro e w2 ⟨g3, g2, g1, g0, rfl, hg, hb⟩
      have HG := Lib.hid hg; clear hg
      refine hK _ _ (fun _ _ => H1.call hb) ?_
      replace h5 := carry4 hb h5
      replace h6 := carry4 hb h6
      replace H1 := H1.call hb
      clear hK K hb
      obtain ⟨⟨c0, c1, c2, c3⟩, q0, q1, q2, q3⟩ := h5.cells
      refine Drawn.only 8 (by kernel_rfl) rfl rfl (fun K hK => ?_)
      go_simp
      refine hK _ _ (fun _ _ => H1.set4 h5.ge _ _ _ _) ?_
      clear hK K c0 c1 c2 c3 q0 q1 q2 q3
      have k5 := heap_set4 h5.1 (.int .u64 f3) (.int .u64 f2) (.int .u64 f1) (.int .u64 f0)
      replace h6 := h6.other h5 (by omega) (.int .u64 f3) (.int .u64 f2) (.int .u64 f1) (.int .u64 f0)
      replace H1 := H1.set4 h5.ge (.int .u64 f3) (.int .u64 f2) (.int .u64 f1) (.int .u64 f0)
      obtain ⟨⟨c0, c1, c2, c3⟩, q0, q1, q2, q3⟩ := h6.cells
      refine Drawn.only 9 (by kernel_rfl) rfl rfl (fun K hK => ?_)
      go_simp
      refine hK _ _ (fun h => by simp at h) ?_
      exact Drawn.done (by kernel_rfl) (hK' _ _ (Met.intro (hJ _ _ ⟨_, _, f3, f2, f1, f0, g3, g2, g1, g0, rfl, HF.out, HG.out, H1.set4 h6.ge _ _ _ _, h5.ge, h6.ge, (by omega), (heap_far (by omega) _ _ _ _).trans k5, heap_set4 h6.1 _ _ _ _⟩))) _
  · refine ⟨_, rfl, rfl, fun K hK => ?_⟩
    go_simp
    refine hK _ _ (fun _ _ => H1.alloc _) ?_
    clear hK K
    have h6 : New4 (w.heap.size + 1 + 1 + 1 + 1) (.int .u64 0) (.int .u64 0) (.int .u64 0) (.int .u64 0) 24 _ _ := New4.here _ H1.size
    replace H1 := H1.alloc (.cells #[.int .u64 0, .int .u64 0, .int .u64 0, .int .u64 0] 24)
    generalize World.alloc _ _ = V15 at H1 h6 ⊢
    refine Drawn.among [2, 6] (by kernel_rfl) (by decide) ?_
    intro i hi
    simp only [List.mem_cons, List.not_mem_nil, or_false] at hi
    rcases hi with rfl | rfl
    · refine ⟨_, rfl, rfl, fun K hK => ?_⟩
      go_simp
      refine (Mod_m HX.out HZ.out _).mono ?_
      rintro e w1 ⟨f3, f2, f1, f0, rfl, hf, hb⟩
      have HF := Lib.hid hf; clear hf
      refine hK _ _ (fun _ _ => H1.call hb) ?_
      replace h6 := carry4 hb h6
      replace H1 := H1.call hb
      clear hK K hb
      refine Drawn.among [5, 6] (by kernel_rfl) (by decide) ?_
      intro i hi
      simp only [List.mem_cons, List.not_mem_nil, or_false] at hi
      rcases hi with rfl | rfl
      · refine ⟨_, rfl, rfl, fun K hK => ?_⟩
        go_simp
        refine (Mod_m HY.out HZ.out _).mono ?_
        rintro e w2 ⟨g3, g2, g1, g0, rfl, hg, hb⟩
        have HG := Lib.hid hg; clear hg
        refine hK _ _ (fun _ _ => H1.call hb) ?_
        replace h6 := carry4 hb h6
        replace H1 := H1.call hb
        clear hK K hb
        refine Drawn.only 6 (by kernel_rfl) rfl rfl (fun K hK => ?_)
        go_simp
        refine hK _ _ (fun _ _ => H1.alloc _) ?_
        clear hK K
        have h5 : New4 (w.heap.size + 1 + 1 + 1 + 1) (.int .u64 0) (.int .u64 0) (.int .u64 0) (.int .u64 0) 24 _ _ := New4.here _ H1.size
        have nh5h6 := h6.2.1
        replace h6 := h6.past (.cells #[.int .u64 0, .int .u64 0, .int .u64 0, .int .u64 0] 24)
        replace H1 := H1.alloc (.cells #[.int .u64 0, .int .u64 0, .int .u64 0, .int .u64 0] 24)
        generalize World.alloc _ _ = V16 at H1 h5 h6 ⊢
        obtain ⟨⟨c0, c1, c2, c3⟩, q0, q1, q2, q3⟩ := h5.cells
        refine Drawn.only 8 (by kernel_rfl) rfl rfl (fun K hK => ?_)
        go_simp
        refine hK _ _ (fun _ _ => H1.set4 h5.ge _ _ _ _) ?_
        clear hK K c0 c1 c2 c3 q0 q1 q2 q3
        have k5 := heap_set4 h5.1 (.int .u64 f3) (.int .u64 f2) (.int .u64 f1) (.int .u64 f0)
        replace h6 := h6.other h5 (by omega) (.int .u64 f3) (.int .u64 f2) (.int .u64 f1) (.int .u64 f0)
        replace H1 := H1.set4 h5.ge (.int .u64 f3) (.int .u64 f2) (.int .u64 f1) (.int .u64 f0)
        obtain ⟨⟨c0, c1, c2, c3⟩, q0, q1, q2, q3⟩ := h6.cells
        refine Drawn.only 9 (by kernel_rfl) rfl rfl (fun K hK => ?_)
        go_simp
        refine hK _ _ (fun h => by simp at h) ?_
        exact Drawn.done (by kernel_rfl) (hK' _ _ (Met.intro (hJ _ _ ⟨_, _, f3, f2, f1, f0, g3, g2, g1, g0, rfl, HF.out, HG.out, H1.set4 h6.ge _ _ _ _, h5.ge, h6.ge, (by omega), (heap_far (by omega) _ _ _ _).trans k5, heap_set4 h6.1 _ _ _ _⟩))) _
      · refine ⟨_, rfl, rfl, fun K hK => ?_⟩
        go_simp
        refine hK _ _ (fun _ _ => H1.alloc _) ?_
        clear hK K
        have h5 : New4 (w.heap.size + 1 + 1 + 1 + 1) (.int .u64 0) (.int .u64 0) (.int .u64 0) (.int .u64 0) 24 _ _ := New4.here _ H1.size
        have nh5h6 := h6.2.1
        replace h6 := h6.past (.cells #[.int .u64 0, .int .u64 0, .int .u64 0, .int .u64 0] 24)
        replace H1 := H1.alloc (.cells #[.int .u64 0, .int .u64 0, .int .u64 0, .int .u64 0] 24)
        generalize World.alloc _ _ = V17 at H1 h5 h6 ⊢
        refine Drawn.only 5 (by kernel_rfl) rfl rfl (fun K hK => ?_)
        go_simp
        refine (Mod_m HY.out HZ.out _).mono ?_
        rintro e w2 ⟨g3, g2, g1, g0, rfl, hg, hb⟩
        have HG := Lib.hid hg; clear hg
        refine hK _ _ (fun _ _ => H1.call hb) ?_
        replace h5 := carry4 hb h5
        replace h6 := carry4 hb h6
        replace H1 := H1.call hb
        clear hK K hb
        obtain ⟨⟨c0, c1, c2, c3⟩, q0, q1, q2, q3⟩ := h5.cells
        refine Drawn.only 8 (by kernel_rfl) rfl rfl (fun K hK => ?_)
        go_simp
        refine hK _ _ (fun _ _ => H1.set4 h5.ge _ _ _ _) ?_
        clear hK K c0 c1 c2 c3 q0 q1 q2 q3
        have k5 := heap_set4 h5.1 (.int .u64 f3) (.int .u64 f2) (.int .u64 f1) (.int .u64 f0)
        replace h6 := h6.other h5 (by omega) (.int .u64 f3) (.int .u64 f2) (.int .u64 f1) (.int .u64 f0)
        replace H1 := H1.set4 h5.ge (.int .u64 f3) (.int .u64 f2) (.int .u64 f1) (.int .u64 f0)
        obtain ⟨⟨c0, c1, c2, c3⟩, q0, q1, q2, q3⟩ := h6.cells
        refine Drawn.only 9 (by kernel_rfl) rfl rfl (fun K hK => ?_)
        go_simp
        refine hK _ _ (fun h => by simp at h) ?_
        exact Drawn.done (by kernel_rfl) (hK' _ _ (Met.intro (hJ _ _ ⟨_, _, f3, f2, f1, f0, g3, g2, g1, g0, rfl, HF.out, HG.out, H1.set4 h6.ge _ _ _ _, h5.ge, h6.ge, (by omega), (heap_far (by omega) _ _ _ _).trans k5, heap_set4 h6.1 _ _ _ _⟩))) _
    · refine ⟨_, rfl, rfl, fun K hK => ?_⟩
      go_simp
      refine hK _ _ (fun _ _ => H1.alloc _) ?_
      clear hK K
      have h5 : New4 (w.heap.size + 1 + 1 + 1 + 1) (.int .u64 0) (.int .u64 0) (.int .u64 0) (.int .u64 0) 24 _ _ := New4.here _ H1.size
      have nh5h6 := h6.2.1
      replace h6 := h6.past (.cells #[.int .u64 0, .int .u64 0, .int .u64 0, .int .u64 0] 24)
      replace H1 := H1.alloc (.cells #[.int .u64 0, .int .u64 0, .int .u64 0, .int .u64 0] 24)
      generalize World.alloc _ _ = V18 at H1 h5 h6 ⊢
      refine Drawn.only 2 (by kernel_rfl) rfl rfl (fun K hK => ?_)
      go_simp
      refine (Mod_m HX.out HZ.out _).mono ?_
      rintro e w1 ⟨f3, f2, f1, f0, rfl, hf, hb⟩
      have HF := Lib.hid hf; clear hf
      refine hK _ _ (fun _ _ => H1.call hb) ?_
      replace h5 := carry4 hb h5
      replace h6 := carry4 hb h6
      replace H1 := H1.call hb
      clear hK K hb
      refine Drawn.only 5 (by kernel_rfl) rfl rfl (fun K hK => ?_)
      go_simp
      refine (Mod_m HY.out HZ.out _).mono ?_
      rintro e w2 ⟨g3, g2, g1, g0, rfl, hg, hb⟩
      have HG := Lib.hid hg; clear hg
      refine hK _ _ (fun _ _ => H1.call hb) ?_
      replace h5 := carry4 hb h5
      replace h6 := carry4 hb h6
      replace H1 := H1.call hb
      clear hK K hb
      obtain ⟨⟨c0, c1, c2, c3⟩, q0, q1, q2, q3⟩ := h5.cells
      refine Drawn.only 8 (by kernel_rfl) rfl rfl (fun K hK => ?_)
      go_simp
      refine hK _ _ (fun _ _ => H1.set4 h5.ge _ _ _ _) ?_
      clear hK K c0 c1 c2 c3 q0 q1 q2 q3
      have k5 := heap_set4 h5.1 (.int .u64 f3) (.int .u64 f2) (.int .u64 f1) (.int .u64 f0)
      replace h6 := h6.other h5 (by omega) (.int .u64 f3) (.int .u64 f2) (.int .u64 f1) (.int .u64 f0)
      replace H1 := H1.set4 h5.ge (.int .u64 f3) (.int .u64 f2) (.int .u64 f1) (.int .u64 f0)
      obtain ⟨⟨c0, c1, c2, c3⟩, q0, q1, q2, q3⟩ := h6.cells
      refine Drawn.only 9 (by kernel_rfl) rfl rfl (fun K hK => ?_)
      go_simp
      refine hK _ _ (fun h => by simp at h) ?_
      exact Drawn.done (by kernel_rfl) (hK' _ _ (Met.intro (hJ _ _ ⟨_, _, f3, f2, f1, f0, g3, g2, g1, g0, rfl, HF.out, HG.out, H1.set4 h6.ge _ _ _ _, h5.ge, h6.ge, (by omega), (heap_far (by omega) _ _ _ _).trans k5, heap_set4 h6.1 _ _ _ _⟩))) _

end Go.Proofs.Ythbfhfgmanafpaa
