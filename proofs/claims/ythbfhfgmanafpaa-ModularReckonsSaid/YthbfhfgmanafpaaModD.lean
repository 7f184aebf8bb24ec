/- Contracts of package modular: SDiv, MulMod, Exp, SignExtend. -/
import Derived.Test.YthbfhfgmanafpaaModC
import Derived.Deep.Cut
namespace Go.Proofs.Ythbfhfgmanafpaa
open Go.RowKit
attribute [local go_sem ↓] Go.wp_at_zero Go.wp_at_succ

theorem plusM_mod (a b : Nat) {m : Nat} (hm : m < W256) : plusM (modOf a m) (modOf b m) m = modOf (a + b) m := by
  unfold plusM modOf
  by_cases h0 : m = 0
  · subst h0; simp
  · rw [if_neg h0, if_neg h0, if_neg h0]
    have hu := Nat.mod_lt a (Nat.pos_of_ne_zero h0)
    have hv := Nat.mod_lt b (Nat.pos_of_ne_zero h0)
    rw [Nat.add_mod a b m]
    generalize a % m = u at *
    generalize b % m = v at *
    have hl : (m + W256 - v) % W256 = m - v := by
      rcases Nat.eq_zero_or_pos v with rfl | hp
      · rw [Nat.sub_zero, Nat.add_mod_right, Nat.mod_eq_of_lt hm]; rfl
      · rw [show m + W256 - v = (m - v) + W256 by omega, Nat.add_mod_right, Nat.mod_eq_of_lt (by omega)]
    rw [hl]
    split
    · rw [Nat.mod_eq_of_lt (show u + v < W256 by omega), Nat.mod_eq_of_lt (show u + v < m by omega)]
    · rw [show u + W256 - (m - v) = (u + v - m) + W256 by omega, Nat.add_mod_right, Nat.mod_eq_of_lt (by omega), Nat.mod_eq_sub_mod (show m ≤ u + v by omega), Nat.mod_eq_of_lt (by omega)]
theorem modOf_lt {x m : Nat} (hm : m ≠ 0) : modOf x m < m := by unfold modOf; rw [if_neg hm]; exact Nat.mod_lt _ (Nat.pos_of_ne_zero hm)
theorem modOf_mod (x m : Nat) : modOf (modOf x m) m = modOf x m := by
  unfold modOf; split
  · rfl
  · exact Nat.mod_mod _ _
theorem modOf_mul (x y m : Nat) : modOf (modOf x m * modOf y m) m = modOf (x * y) m := by
  unfold modOf; split
  · rfl
  · exact (Nat.mul_mod _ _ _).symm
theorem RetD.w {v : Nat} {q : Nat → Prop} {w : World} {e : Ending} {w' : World} (h : RetD v w e w') (hq : q v) : RetW q w e w' := by
  obtain ⟨s3, s2, s1, s0, rfl, hs, hb⟩ := h
  exact ⟨_, _, _, _, _, rfl, hs, hq, hb⟩

set_option maxRecDepth 100000 in
set_option maxHeartbeats 1000000 in
theorem MulMod1_c {v z bm s3 s2 s1 s0 m3 m2 m1 m0 : Nat} (hv : Dig v s0 s1 s2 s3) (dm : Dig z m0 m1 m2 m3) (w : World) (hm : w.heap[bm]? = some (.cells #[.int .u64 m3, .int .u64 m2, .int .u64 m1, .int .u64 m0] 24 (0, 0))) :
    Calls Try.prog 45 #[.agg #[.int .u64 s3, .int .u64 s2, .int .u64 s1, .int .u64 s0], .pointer (some ⟨bm, 0, none⟩)] w (RetD (plusM v v z) w) := by
  have H := (((Fx.start w).new #[.int .u64 s3, .int .u64 s2, .int .u64 s1, .int .u64 s0] 24).new #[.int .u64 0, .int .u64 0, .int .u64 0, .int .u64 0] 24).1
  have C := Lib.hid (fun W => plus_m hv hv dm W)
  have km := (cells4 hm).1; have nm := lt_of hm
  clear hv dm hm
  generalize plusM v v z = r at *
  go_enter Try.func45, Try.ntmps45
  go_wp2_with fail
  refine (C.out _).mono ?_
  rintro e w1 ⟨r3, r2, r1, r0, rfl, hr, hb1⟩
  have H1 := H.call hb1
  have K := H1.know (_, _, _) (.head _)
  have k0 := cells4 K.2
  have n1 := H1.lt (.head _)
  replace K := Lib.hid K; replace H1 := Lib.hid H1
  clear H hb1 C
  go_wp2_with fail
  exact bodyPost_ret (results_cell_row Try.results45 _ _ _ _ _ _ _ rfl (heap_set4 K.out.2 _ _ _ _) Try.underlying24 rfl (by kernel_rfl)) rfl
    ⟨_, _, _, _, rfl, hr, below_set4 H1.out.below (by omega) _ _ _ _⟩

set_option maxRecDepth 100000 in
set_option maxHeartbeats 1000000 in
theorem MulMod2_c {v y z bg bm s3 s2 s1 s0 g3 g2 g1 g0 m3 m2 m1 m0 : Nat} (hv : Dig v s0 s1 s2 s3) (dg : Dig y g0 g1 g2 g3) (dm : Dig z m0 m1 m2 m3) (w : World) (hg : w.heap[bg]? = some (.cells #[.int .u64 g3, .int .u64 g2, .int .u64 g1, .int .u64 g0] 24 (0, 0))) (hm : w.heap[bm]? = some (.cells #[.int .u64 m3, .int .u64 m2, .int .u64 m1, .int .u64 m0] 24 (0, 0))) :
    Calls Try.prog 46 #[.agg #[.int .u64 s3, .int .u64 s2, .int .u64 s1, .int .u64 s0], .pointer (some ⟨bg, 0, none⟩), .pointer (some ⟨bm, 0, none⟩)] w (RetD (plusM v y z) w) := by
  have H := (((Fx.start w).new #[.int .u64 s3, .int .u64 s2, .int .u64 s1, .int .u64 s0] 24).new #[.int .u64 0, .int .u64 0, .int .u64 0, .int .u64 0] 24).1
  have C := Lib.hid (fun W => plus_m hv dg dm W)
  have kg := (cells4 hg).1; have ng := lt_of hg
  have km := (cells4 hm).1; have nm := lt_of hm
  clear hv dg dm hg hm
  generalize plusM v y z = r at *
  go_enter Try.func46, Try.ntmps46
  go_wp2_with fail
  refine (C.out _).mono ?_
  rintro e w1 ⟨r3, r2, r1, r0, rfl, hr, hb1⟩
  have H1 := H.call hb1
  have K := H1.know (_, _, _) (.head _)
  have k0 := cells4 K.2
  have n1 := H1.lt (.head _)
  replace K := Lib.hid K; replace H1 := Lib.hid H1
  clear H hb1 C
  go_wp2_with fail
  exact bodyPost_ret (results_cell_row Try.results46 _ _ _ _ _ _ _ rfl (heap_set4 K.out.2 _ _ _ _) Try.underlying24 rfl (by kernel_rfl)) rfl
    ⟨_, _, _, _, rfl, hr, below_set4 H1.out.below (by omega) _ _ _ _⟩

set_option maxRecDepth 100000 in
set_option maxHeartbeats 1000000 in
theorem Exp1_c {v   s3 s2 s1 s0  : Nat} (hv : Dig v s0 s1 s2 s3)  (w : World)  :
    Calls Try.prog 49 #[.agg #[.int .u64 s3, .int .u64 s2, .int .u64 s1, .int .u64 s0]] w (RetD (v * v % W256) w) := by
  have H := (((Fx.start w).new #[.int .u64 s3, .int .u64 s2, .int .u64 s1, .int .u64 s0] 24).new #[.int .u64 0, .int .u64 0, .int .u64 0, .int .u64 0] 24).1
  have C := Lib.hid (fun W => Mul_d hv hv W)

  clear hv
  generalize v * v % W256 = r at *
  go_enter Try.func49, Try.ntmps49
  go_wp2_with fail
  refine (C.out _).mono ?_
  rintro e w1 ⟨r3, r2, r1, r0, rfl, hr, hb1⟩
  have H1 := H.call hb1
  have K := H1.know (_, _, _) (.head _)
  have k0 := cells4 K.2
  have n1 := H1.lt (.head _)
  replace K := Lib.hid K; replace H1 := Lib.hid H1
  clear H hb1 C
  go_wp2_with fail
  exact bodyPost_ret (results_cell_row Try.results49 _ _ _ _ _ _ _ rfl (heap_set4 K.out.2 _ _ _ _) Try.underlying24 rfl (by kernel_rfl)) rfl
    ⟨_, _, _, _, rfl, hr, below_set4 H1.out.below (by omega) _ _ _ _⟩

set_option maxRecDepth 100000 in
set_option maxHeartbeats 1000000 in
theorem Exp2_c {v x ba s3 s2 s1 s0 a3 a2 a1 a0 : Nat} (hv : Dig v s0 s1 s2 s3) (da : Dig x a0 a1 a2 a3) (w : World) (ha : w.heap[ba]? = some (.cells #[.int .u64 a3, .int .u64 a2, .int .u64 a1, .int .u64 a0] 24 (0, 0))) :
    Calls Try.prog 50 #[.agg #[.int .u64 s3, .int .u64 s2, .int .u64 s1, .int .u64 s0], .pointer (some ⟨ba, 0, none⟩)] w (RetD (v * x % W256) w) := by
  have H := (((Fx.start w).new #[.int .u64 s3, .int .u64 s2, .int .u64 s1, .int .u64 s0] 24).new #[.int .u64 0, .int .u64 0, .int .u64 0, .int .u64 0] 24).1
  have C := Lib.hid (fun W => Mul_d hv da W)
  have ka := (cells4 ha).1; have na := lt_of ha
  clear hv da ha
  generalize v * x % W256 = r at *
  go_enter Try.func50, Try.ntmps50
  go_wp2_with fail
  refine (C.out _).mono ?_
  rintro e w1 ⟨r3, r2, r1, r0, rfl, hr, hb1⟩
  have H1 := H.call hb1
  have K := H1.know (_, _, _) (.head _)
  have k0 := cells4 K.2
  have n1 := H1.lt (.head _)
  replace K := Lib.hid K; replace H1 := Lib.hid H1
  clear H hb1 C
  go_wp2_with fail
  exact bodyPost_ret (results_cell_row Try.results50 _ _ _ _ _ _ _ rfl (heap_set4 K.out.2 _ _ _ _) Try.underlying24 rfl (by kernel_rfl)) rfl
    ⟨_, _, _, _, rfl, hr, below_set4 H1.out.below (by omega) _ _ _ _⟩

theorem exp_climb {x n a3 a2 a1 a0 n3 n2 n1 n0 ba : Nat} (hx : Dig x a0 a1 a2 a3) (hn : Dig n n0 n1 n2 n3) (w : World) (hb : w.heap[ba]? = some (.cells #[.int .u64 a3, .int .u64 a2, .int .u64 a1, .int .u64 a0] 24 (0, 0))) :
    Calls Try.prog 47 #[.agg #[.int .u64 n3, .int .u64 n2, .int .u64 n1, .int .u64 n0], .agg #[.int .u64 0, .int .u64 0, .int .u64 0, .int .u64 1], .func (.func 49) #[] #[], .func (.func 50) #[] #[.pointer (some ⟨ba, 0, none⟩)]] w (RetD (x ^ n % W256) w) := by
  have hW : 1 < W256 := by decide +kernel
  refine (climb_c 49 50 #[] #[.pointer (some ⟨ba, 0, none⟩)] (fun p v => v = x ^ p % W256) hn (dig_small (show 1 < M64 by decide)) w (fun v w => by kernel_rfl) (fun v w => by kernel_rfl) ?_ ?_ ?_).mono ?_
  · rw [Nat.pow_zero, Nat.mod_eq_of_lt hW]
  · rintro p v v3 v2 v1 v0 W hB hv rfl
    exact (Exp1_c hv W).mono fun _ _ h => h.w (by rw [← Nat.mul_mod, ← Nat.pow_add, Nat.two_mul])
  · rintro p v v3 v2 v1 v0 W hB hv rfl
    exact (Exp2_c hv hx W ((hB.block _ (lt_of hb)).trans hb)).mono fun _ _ h => h.w (by rw [Nat.pow_succ, Nat.mod_mul_mod])
  · rintro e w' ⟨s, s3, s2, s1, s0, rfl, hs, rfl, hb⟩
    exact ⟨_, _, _, _, rfl, hs, hb⟩

set_option maxRecDepth 100000 in
set_option maxHeartbeats 4000000 in
theorem Exp_c {x y a3 a2 a1 a0 n3 n2 n1 n0 : Nat} (hx : Dig x a0 a1 a2 a3) (hy : Dig y n0 n1 n2 n3) (w : World) :
    Calls Try.prog 18 #[.agg #[.int .u64 a3, .int .u64 a2, .int .u64 a1, .int .u64 a0], .agg #[.int .u64 n3, .int .u64 n2, .int .u64 n1, .int .u64 n0]] w (RetD (x ^ y % W256) w) := by
  have H := ((((Fx.start w).new #[.int .u64 a3, .int .u64 a2, .int .u64 a1, .int .u64 a0] 24).new #[.int .u64 n3, .int .u64 n2, .int .u64 n1, .int .u64 n0] 24).new #[.int .u64 0, .int .u64 0, .int .u64 0, .int .u64 0] 24).1
  have HX := Lib.hid hx; have HY := Lib.hid hy
  clear hx hy
  go_enter Try.func18, Try.ntmps18
  go_wp2_with fail
  have H0 := H.drew
  have HS := Lib.hid (fun W (hW : Fr w w.heap.size (w.heap.size + 1 + 1 + 1) [(w.heap.size + 1 + 1, #[.int .u64 0, .int .u64 0, .int .u64 0, .int .u64 0], 24), (w.heap.size + 1, #[.int .u64 n3, .int .u64 n2, .int .u64 n1, .int .u64 n0], 24), (w.heap.size, #[.int .u64 a3, .int .u64 a2, .int .u64 a1, .int .u64 a0], 24)] W) => And.intro (hW.row (.tail _ (.head _))) (hW.row (.tail _ (.tail _ (.head _)))))
  refine Drawn.startEx (fun i => i == 5) H (by kernel_rfl) ?_
  clear H
  refine Drawn.take 0 (some 8) (v := ?_) rfl rfl (by kernel_rfl) (by kernel_rfl) (by kernel_rfl) (by kernel_rfl) (by kernel_rfl) rfl (fun _ _ _ h => h) (Or.inl ⟨rfl, ?_⟩) H0 ?_
  rotate_left
  · intro W hW; have hW := HS.out W hW; go_simp; try with_reducible rfl
  simp only [put_list, List.set]
  refine Drawn.take 2 (some 10) (v := ?_) rfl rfl (by kernel_rfl) (by kernel_rfl) (by kernel_rfl) (by kernel_rfl) (by kernel_rfl) rfl (fun _ _ _ h => h) (Or.inl ⟨rfl, ?_⟩) H0 ?_
  rotate_left
  · intro W hW; have hW := HS.out W hW; go_simp; try with_reducible rfl
  simp only [put_list, List.set]
  refine Drawn.take 3 (some 11) (v := ?_) rfl rfl (by kernel_rfl) (by kernel_rfl) (by kernel_rfl) (by kernel_rfl) (by kernel_rfl) rfl (fun _ _ _ h => h) (Or.inl ⟨rfl, ?_⟩) H0 ?_
  rotate_left
  · intro W hW; have hW := HS.out W hW; go_simp; try with_reducible rfl
  simp only [put_list, List.set]
  refine Drawn.only 1 (by kernel_rfl) rfl rfl (fun K hK => ?_)
  go_simp
  refine (from_any 1 _).mono ?_
  rintro e w9 ⟨rfl, hb⟩
  refine hK _ _ (fun _ _ => H0.call hb) ?_
  replace H0 := H0.call hb
  clear hK K hb
  refine Drawn.only 4 (by kernel_rfl) rfl rfl (fun K hK => ?_)
  go_simp
  refine (exp_climb HX.out HY.out _ (H0.know _ (.tail _ (.tail _ (.head _)))).2).mono ?_
  rintro e w9 ⟨p43, p42, p41, p40, rfl, hd, hb⟩
  refine hK _ _ (fun _ _ => H0.call hb) ?_
  replace H0 := H0.call hb
  clear hK K hb
  have D4 := Lib.hid hd
  clear hd
  have K0 := H0.know (_, _, _) List.mem_cons_self
  obtain ⟨⟨r0, r1, r2, r3⟩, g0, g1, g2, g3⟩ := cells4 K0.2
  replace K0 := Lib.hid K0
  refine Drawn.only 5 (by kernel_rfl) rfl rfl (fun K hK => ?_)
  go_simp
  refine hK _ _ (fun h => by simp at h) ?_
  clear hK K
  refine Drawn.done (by kernel_rfl) ?_ _
  go_wp2_with fail
  exact bodyPost_ret (results_cell_row Try.results18 _ _ _ _ _ _ _ rfl (heap_set4 K0.out.2 _ _ _ _) Try.underlying24 rfl (by kernel_rfl)) rfl
    ⟨_, _, _, _, rfl, D4.out, below_set4 H0.below (by omega) _ _ _ _⟩

end Go.Proofs.Ythbfhfgmanafpaa
