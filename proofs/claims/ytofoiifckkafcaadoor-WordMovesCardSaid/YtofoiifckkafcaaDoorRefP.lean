/- Contracts of the reference: Sar, Byte. -/
import Derived.Test.YtofoiifckkafcaaDoorRefO
namespace Go.Proofs.YtofoiifckkafcaaDoor
open Go.RowKit Go.Joins
attribute [local go_sem ↓] Go.wp_at_zero Go.wp_at_succ

set_option maxRecDepth 100000 in
set_option maxHeartbeats 2000000 in
theorem rSar_pos {n x b3 b2 b1 b0 a3 a2 a1 a0 : Nat} (hn : Dig n b0 b1 b2 b3) (hx : Dig x a0 a1 a2 a3) (hs : decide (W256 / 2 ≤ x) = false) (w : World) :
    Calls Tryd.prog 39 #[.agg #[.int .u64 b3, .int .u64 b2, .int .u64 b1, .int .u64 b0], .agg #[.int .u64 a3, .int .u64 a2, .int .u64 a1, .int .u64 a0]] w (RetD (x / 2 ^ (min n 256)) w) := by
  have H := ((((Fx.start w).new #[.int .u64 b3, .int .u64 b2, .int .u64 b1, .int .u64 b0] 24).new #[.int .u64 a3, .int .u64 a2, .int .u64 a1, .int .u64 a0] 24).new #[.int .u64 0, .int .u64 0, .int .u64 0, .int .u64 0] 24).1
  have HN := Lib.hid hn; have HX := Lib.hid hx
  have NG := Lib.hid (fun W => rNeg_c hx W)
  rw [hs] at NG
  clear hn hx hs
  obtain ⟨m, hm⟩ : ∃ m, m = min n 256 := ⟨_, rfl⟩
  have FA := Lib.hid (fun W => far_c HN.out W)
  rw [← hm] at FA ⊢
  have hm1 : 0 ≤ (m : Int) ∧ (m : Int) ≤ 256 := by omega
  clear hm
  unfold RetI at FA
  go_enter Tryd.func39, Tryd.ntmps39
  go_wp2_with fail
  refine (NG.out _).mono ?_
  rintro e w1 ⟨rfl, hb1⟩
  replace H := H.call hb1
  clear hb1 NG
  go_wp2_with fail
  have H0 := H.drew
  have HS := Lib.hid (fun W (hW : Fr w w.heap.size (w.heap.size + 1 + 1 + 1) [(w.heap.size + 1 + 1, #[.int .u64 0, .int .u64 0, .int .u64 0, .int .u64 0], 24), (w.heap.size + 1, #[.int .u64 a3, .int .u64 a2, .int .u64 a1, .int .u64 a0], 24), (w.heap.size, #[.int .u64 b3, .int .u64 b2, .int .u64 b1, .int .u64 b0], 24)] W) => And.intro (hW.row (.tail _ (.head _))) (hW.row (.tail _ (.tail _ (.head _)))))
  refine Drawn.startEx (fun i => i == 4) H (by kernel_rfl) ?_
  clear H
  refine Drawn.take 0 (some 11) (v := ?_) rfl rfl (by kernel_rfl) (by kernel_rfl) (by kernel_rfl) (by kernel_rfl) (by kernel_rfl) rfl (fun _ _ _ h => h) (Or.inl ⟨rfl, ?_⟩) H0 ?_
  rotate_left
  · intro W hW; have hW := HS.out W hW; go_simp; try with_reducible rfl
  simp only [put_list, List.set]
  refine Drawn.take 1 (some 12) (v := ?_) rfl rfl (by kernel_rfl) (by kernel_rfl) (by kernel_rfl) (by kernel_rfl) (by kernel_rfl) rfl (fun _ _ _ h => h) (Or.inl ⟨rfl, ?_⟩) H0 ?_
  rotate_left
  · intro W hW; have hW := HS.out W hW; go_simp; try with_reducible rfl
  simp only [put_list, List.set]
  refine Drawn.only 2 (by kernel_rfl) rfl rfl (fun K hK => ?_)
  go_simp
  refine (FA.out _).mono ?_
  rintro e w9 ⟨rfl, hb⟩
  refine hK _ _ (fun _ _ => H0.call hb) ?_
  replace H0 := H0.call hb
  clear hK K hb
  refine Drawn.only 3 (by kernel_rfl) rfl rfl (fun K hK => ?_)
  go_simp
  refine (moved_c (n := (m : Int)) (fill := 0) HX.out (by omega) (by omega) (by decide) _).mono ?_
  rintro e w9 ⟨p33, p32, p31, p30, rfl, hd, hb⟩
  refine hK _ _ (fun _ _ => H0.call hb) ?_
  replace H0 := H0.call hb
  clear hK K hb
  have D3 := Lib.hid hd
  clear hd
  have K0 := H0.know (_, _, _) List.mem_cons_self
  obtain ⟨⟨r0, r1, r2, r3⟩, g0, g1, g2, g3⟩ := cells4 K0.2
  replace K0 := Lib.hid K0
  refine Drawn.only 4 (by kernel_rfl) rfl rfl (fun K hK => ?_)
  go_simp
  refine hK _ _ (fun h => by simp at h) ?_
  clear hK K
  refine Drawn.done (by kernel_rfl) ?_ _
  go_wp2_with fail
  exact bodyPost_ret (results_cell_row Tryd.results39 _ _ _ _ _ _ _ rfl (heap_set4 K0.out.2 _ _ _ _) Tryd.underlying24 rfl (by kernel_rfl)) rfl
    ⟨_, _, _, _, rfl, (moved_right HX.out.lt) ▸ D3.out, below_set4 H0.below (by omega) _ _ _ _⟩

set_option maxRecDepth 100000 in
set_option maxHeartbeats 2000000 in
theorem rSar_neg {n x b3 b2 b1 b0 a3 a2 a1 a0 : Nat} (hn : Dig n b0 b1 b2 b3) (hx : Dig x a0 a1 a2 a3) (hs : decide (W256 / 2 ≤ x) = true) (w : World) :
    Calls Tryd.prog 39 #[.agg #[.int .u64 b3, .int .u64 b2, .int .u64 b1, .int .u64 b0], .agg #[.int .u64 a3, .int .u64 a2, .int .u64 a1, .int .u64 a0]] w (RetD (W256 - 1 - (W256 - 1 - x) / 2 ^ (min n 256)) w) := by
  have H := ((((Fx.start w).new #[.int .u64 b3, .int .u64 b2, .int .u64 b1, .int .u64 b0] 24).new #[.int .u64 a3, .int .u64 a2, .int .u64 a1, .int .u64 a0] 24).new #[.int .u64 0, .int .u64 0, .int .u64 0, .int .u64 0] 24).1
  have HN := Lib.hid hn; have HX := Lib.hid hx
  have NG := Lib.hid (fun W => rNeg_c hx W)
  rw [hs] at NG
  clear hn hx hs
  obtain ⟨m, hm⟩ : ∃ m, m = min n 256 := ⟨_, rfl⟩
  have FA := Lib.hid (fun W => far_c HN.out W)
  rw [← hm] at FA ⊢
  have hm1 : 0 ≤ (m : Int) ∧ (m : Int) ≤ 256 := by omega
  clear hm
  unfold RetI at FA
  go_enter Tryd.func39, Tryd.ntmps39
  go_wp2_with fail
  refine (NG.out _).mono ?_
  rintro e w1 ⟨rfl, hb1⟩
  replace H := H.call hb1
  clear hb1 NG
  go_wp2_with fail
  have H0 := H.drew
  have HS := Lib.hid (fun W (hW : Fr w w.heap.size (w.heap.size + 1 + 1 + 1) [(w.heap.size + 1 + 1, #[.int .u64 0, .int .u64 0, .int .u64 0, .int .u64 0], 24), (w.heap.size + 1, #[.int .u64 a3, .int .u64 a2, .int .u64 a1, .int .u64 a0], 24), (w.heap.size, #[.int .u64 b3, .int .u64 b2, .int .u64 b1, .int .u64 b0], 24)] W) => And.intro (hW.row (.tail _ (.head _))) (hW.row (.tail _ (.tail _ (.head _)))))
  refine Drawn.startEx (fun i => i == 4) H (by kernel_rfl) ?_
  clear H
  refine Drawn.take 0 (some 7) (v := ?_) rfl rfl (by kernel_rfl) (by kernel_rfl) (by kernel_rfl) (by kernel_rfl) (by kernel_rfl) rfl (fun _ _ _ h => h) (Or.inl ⟨rfl, ?_⟩) H0 ?_
  rotate_left
  · intro W hW; have hW := HS.out W hW; go_simp; try with_reducible rfl
  simp only [put_list, List.set]
  refine Drawn.take 1 (some 8) (v := ?_) rfl rfl (by kernel_rfl) (by kernel_rfl) (by kernel_rfl) (by kernel_rfl) (by kernel_rfl) rfl (fun _ _ _ h => h) (Or.inl ⟨rfl, ?_⟩) H0 ?_
  rotate_left
  · intro W hW; have hW := HS.out W hW; go_simp; try with_reducible rfl
  simp only [put_list, List.set]
  refine Drawn.only 2 (by kernel_rfl) rfl rfl (fun K hK => ?_)
  go_simp
  refine (FA.out _).mono ?_
  rintro e w9 ⟨rfl, hb⟩
  refine hK _ _ (fun _ _ => H0.call hb) ?_
  replace H0 := H0.call hb
  clear hK K hb
  refine Drawn.only 3 (by kernel_rfl) rfl rfl (fun K hK => ?_)
  go_simp
  refine (moved_c (n := (m : Int)) (fill := 1) HX.out (by omega) (by omega) (by decide) _).mono ?_
  rintro e w9 ⟨p33, p32, p31, p30, rfl, hd, hb⟩
  refine hK _ _ (fun _ _ => H0.call hb) ?_
  replace H0 := H0.call hb
  clear hK K hb
  have D3 := Lib.hid hd
  clear hd
  have K0 := H0.know (_, _, _) List.mem_cons_self
  obtain ⟨⟨r0, r1, r2, r3⟩, g0, g1, g2, g3⟩ := cells4 K0.2
  replace K0 := Lib.hid K0
  refine Drawn.only 4 (by kernel_rfl) rfl rfl (fun K hK => ?_)
  go_simp
  refine hK _ _ (fun h => by simp at h) ?_
  clear hK K
  refine Drawn.done (by kernel_rfl) ?_ _
  go_wp2_with fail
  exact bodyPost_ret (results_cell_row Tryd.results39 _ _ _ _ _ _ _ rfl (heap_set4 K0.out.2 _ _ _ _) Tryd.underlying24 rfl (by kernel_rfl)) rfl
    ⟨_, _, _, _, rfl, (moved_signed HX.out.lt) ▸ D3.out, below_set4 H0.below (by omega) _ _ _ _⟩

theorem rSar_d {n x b3 b2 b1 b0 a3 a2 a1 a0 : Nat} (hn : Dig n b0 b1 b2 b3) (hx : Dig x a0 a1 a2 a3) (w : World) :
    Calls Tryd.prog 39 #[.agg #[.int .u64 b3, .int .u64 b2, .int .u64 b1, .int .u64 b0], .agg #[.int .u64 a3, .int .u64 a2, .int .u64 a1, .int .u64 a0]] w (RetD (sarOf n x) w) := by
  unfold sarOf
  by_cases h : x < W256 / 2
  · rw [if_pos h]; exact rSar_pos hn hx (decide_eq_false (by omega)) w
  · rw [if_neg h]; exact rSar_neg hn hx (decide_eq_true (by omega)) w

set_option maxRecDepth 100000 in
set_option maxHeartbeats 4000000 in
theorem rByte_out {n x b3 b2 b1 b0 a3 a2 a1 a0 : Nat} (hn : Dig n b0 b1 b2 b3) (hx : Dig x a0 a1 a2 a3) (h : ¬ n < 32) (w : World) :
    Calls Tryd.prog 41 #[.agg #[.int .u64 b3, .int .u64 b2, .int .u64 b1, .int .u64 b0], .agg #[.int .u64 a3, .int .u64 a2, .int .u64 a1, .int .u64 a0]] w (RetD (0) w) := by
  have H := ((((Fx.start w).new #[.int .u64 b3, .int .u64 b2, .int .u64 b1, .int .u64 b0] 24).new #[.int .u64 a3, .int .u64 a2, .int .u64 a1, .int .u64 a0] 24).new #[.int .u64 0, .int .u64 0, .int .u64 0, .int .u64 0] 24).1
  have Le := Lib.hid (fun W => rLess_c hn (dig_small (show 32 < M64 by decide)) W)
  rw [decide_eq_false h] at Le
  have HX := Lib.hid hx
  clear hn hx h
  go_enter Tryd.func41, Tryd.ntmps41
  go_wp2_with fail
  have H0 := H.drew
  have HS := Lib.hid (fun W (hW : Fr w w.heap.size (w.heap.size + 1 + 1 + 1) [(w.heap.size + 1 + 1, #[.int .u64 0, .int .u64 0, .int .u64 0, .int .u64 0], 24), (w.heap.size + 1, #[.int .u64 a3, .int .u64 a2, .int .u64 a1, .int .u64 a0], 24), (w.heap.size, #[.int .u64 b3, .int .u64 b2, .int .u64 b1, .int .u64 b0], 24)] W) => And.intro (hW.row (.tail _ (.head _))) (hW.row (.tail _ (.tail _ (.head _)))))
  refine Drawn.startEx (fun _ => false) H (by kernel_rfl) ?_
  clear H
  refine Drawn.take 0 (some 5) (v := ?_) rfl rfl (by kernel_rfl) (by kernel_rfl) (by kernel_rfl) (by kernel_rfl) (by kernel_rfl) rfl (fun _ _ _ h => h) (Or.inl ⟨rfl, ?_⟩) H0 ?_
  rotate_left
  · intro W hW; have hW := HS.out W hW; go_simp; try with_reducible rfl
  simp only [put_list, List.set]
  refine Drawn.only 1 (by kernel_rfl) rfl rfl (fun K hK => ?_)
  go_simp
  refine (rFrom_any 32 _).mono ?_
  rintro e w9 ⟨rfl, hb⟩
  refine hK _ _ (fun _ _ => H0.call hb) ?_
  replace H0 := H0.call hb
  clear hK K hb
  refine Drawn.only 2 (by kernel_rfl) rfl rfl (fun K hK => ?_)
  go_simp
  refine (Le.out _).mono ?_
  rintro e w9 ⟨rfl, hb⟩
  refine hK _ _ (fun _ _ => H0.call hb) ?_
  replace H0 := H0.call hb
  clear hK K hb
  refine Drawn.take 3 (some 8) (v := ?_) rfl rfl (by kernel_rfl) (by kernel_rfl) (by kernel_rfl) (by kernel_rfl) (by kernel_rfl) rfl (fun _ _ _ h => h) (Or.inl ⟨rfl, ?_⟩) H0 ?_
  rotate_left
  · intro W hW; have hW := HS.out W hW; go_simp; try with_reducible rfl
  simp only [put_list, List.set]
  refine Drawn.done (by kernel_rfl) ?_ _
  have K := (H0.know _ (.head _)).2
  have k0 := cells4 K
  have n1 := H0.lt (.head _)
  replace K := Lib.hid K; replace H0 := Lib.hid H0
  go_wp2_with fail
  exact bodyPost_ret (results_cell_row Tryd.results41 _ _ _ _ _ _ _ rfl (heap_set4 K.out _ _ _ _) Tryd.underlying24 rfl (by kernel_rfl)) rfl
    ⟨_, _, _, _, rfl, dig_zero, below_set4 H0.out.below (by omega) _ _ _ _⟩

set_option maxRecDepth 100000 in
set_option maxHeartbeats 4000000 in
theorem rByte_in {n x b3 b2 b1 b0 a3 a2 a1 a0 : Nat} (hn : Dig n b0 b1 b2 b3) (hx : Dig x a0 a1 a2 a3) (h : n < 32) (w : World) :
    Calls Tryd.prog 41 #[.agg #[.int .u64 b3, .int .u64 b2, .int .u64 b1, .int .u64 b0], .agg #[.int .u64 a3, .int .u64 a2, .int .u64 a1, .int .u64 a0]] w (RetD (byteOf x (31 - n)) w) := by
  have H := ((((Fx.start w).new #[.int .u64 b3, .int .u64 b2, .int .u64 b1, .int .u64 b0] 24).new #[.int .u64 a3, .int .u64 a2, .int .u64 a1, .int .u64 a0] 24).new #[.int .u64 0, .int .u64 0, .int .u64 0, .int .u64 0] 24).1
  have Le := Lib.hid (fun W => rLess_c hn (dig_small (show 32 < M64 by decide)) W)
  rw [decide_eq_true h] at Le
  have HX := Lib.hid hx
  have e0 := low_of hn (by unfold M64; omega)
  rw [e0] at h ⊢
  have hni : (0 : Int) ≤ (b0 : Int) ∧ (b0 : Int) < 32 := by omega
  obtain ⟨d, hd⟩ : ∃ d, d = 31 - b0 := ⟨_, rfl⟩
  have hw : IntKind.i64.wrap (b0 : Int) = (b0 : Int) := IntWalk.i64_in _ (by omega)
  have hw2 : IntKind.i64.wrap (31 - (b0 : Int)) = (d : Int) := by rw [IntWalk.i64_in _ (by omega)]; omega
  have hw3 : (31 : Int) - (b0 : Int) = (d : Int) := by omega
  have hdi0 : (0 : Int) ≤ (d : Int) := by omega
  have hdi1 : (d : Int) < 32 := by omega
  have hdi2 : (d : Int).toNat = d := by omega
  have hw4 : IntKind.i64.wrap (d : Int) = (d : Int) := IntWalk.i64_in _ (by omega)
  have HDn := Lib.hid (show d < 32 by omega)
  rw [← hd]
  have hb := byteOf_lt x d
  have hwu : IntKind.u64.wrap (byteOf x d : Int) = (byteOf x d : Int) := wrap_nat _ (by unfold M64; omega)
  have HBM := Lib.hid (show byteOf x d < M64 by unfold M64; omega)
  clear hd hb e0
  clear hn hx h
  go_enter Tryd.func41, Tryd.ntmps41
  go_wp2_with fail
  have H0 := H.drew
  have HS := Lib.hid (fun W (hW : Fr w w.heap.size (w.heap.size + 1 + 1 + 1) [(w.heap.size + 1 + 1, #[.int .u64 0, .int .u64 0, .int .u64 0, .int .u64 0], 24), (w.heap.size + 1, #[.int .u64 a3, .int .u64 a2, .int .u64 a1, .int .u64 a0], 24), (w.heap.size, #[.int .u64 b3, .int .u64 b2, .int .u64 b1, .int .u64 b0], 24)] W) => And.intro (hW.row (.tail _ (.head _))) (hW.row (.tail _ (.tail _ (.head _)))))
  refine Drawn.startEx (fun _ => false) H (by kernel_rfl) ?_
  clear H
  refine Drawn.take 0 (some 5) (v := ?_) rfl rfl (by kernel_rfl) (by kernel_rfl) (by kernel_rfl) (by kernel_rfl) (by kernel_rfl) rfl (fun _ _ _ h => h) (Or.inl ⟨rfl, ?_⟩) H0 ?_
  rotate_left
  · intro W hW; have hW := HS.out W hW; go_simp; try with_reducible rfl
  simp only [put_list, List.set]
  refine Drawn.only 1 (by kernel_rfl) rfl rfl (fun K hK => ?_)
  go_simp
  refine (rFrom_any 32 _).mono ?_
  rintro e w9 ⟨rfl, hb⟩
  refine hK _ _ (fun _ _ => H0.call hb) ?_
  replace H0 := H0.call hb
  clear hK K hb
  refine Drawn.only 2 (by kernel_rfl) rfl rfl (fun K hK => ?_)
  go_simp
  refine (Le.out _).mono ?_
  rintro e w9 ⟨rfl, hb⟩
  refine hK _ _ (fun _ _ => H0.call hb) ?_
  replace H0 := H0.call hb
  clear hK K hb
  refine Drawn.take 3 (some 8) (v := ?_) rfl rfl (by kernel_rfl) (by kernel_rfl) (by kernel_rfl) (by kernel_rfl) (by kernel_rfl) rfl (fun _ _ _ h => h) (Or.inl ⟨rfl, ?_⟩) H0 ?_
  rotate_left
  · intro W hW; have hW := HS.out W hW; go_simp; try with_reducible rfl
  simp only [put_list, List.set]
  refine Drawn.done (by kernel_rfl) ?_ _
  go_wp2_with fail
  have H := H0
  replace H0 := H0.drew
  refine Drawn.startEx (fun i => i == 10) H (by kernel_rfl) ?_
  clear H
  refine Drawn.take 0 (some 10) (v := ?_) rfl rfl (by kernel_rfl) (by kernel_rfl) (by kernel_rfl) (by kernel_rfl) (by kernel_rfl) rfl (fun _ _ _ h => h) (Or.inl ⟨rfl, ?_⟩) H0 ?_
  rotate_left
  · intro W hW; have hW := HS.out W hW; go_simp; try with_reducible rfl
  simp only [put_list, List.set]
  refine Drawn.take 2 (some 12) (v := ?_) rfl rfl (by kernel_rfl) (by kernel_rfl) (by kernel_rfl) (by kernel_rfl) (by kernel_rfl) rfl (fun _ _ _ h => h) (Or.inl ⟨rfl, ?_⟩) H0 ?_
  rotate_left
  · intro W hW; have hW := HS.out W hW; go_simp; try with_reducible rfl
  simp only [put_list, List.set]
  refine Drawn.take 3 (some 13) (v := ?_) rfl rfl (by kernel_rfl) (by kernel_rfl) (by kernel_rfl) (by kernel_rfl) (by kernel_rfl) rfl (fun _ _ _ h => h) (Or.inl ⟨rfl, ?_⟩) H0 ?_
  rotate_left
  · intro W hW; have hW := HS.out W hW; go_simp; try with_reducible rfl
  simp only [put_list, List.set]
  refine Drawn.take 4 (some 14) (v := ?_) rfl rfl (by kernel_rfl) (by kernel_rfl) (by kernel_rfl) (by kernel_rfl) (by kernel_rfl) rfl (fun _ _ _ h => h) (Or.inl ⟨rfl, ?_⟩) H0 ?_
  rotate_left
  · intro W hW; have hW := HS.out W hW; go_simp; try with_reducible rfl
  simp only [put_list, List.set]
  refine Drawn.take 5 (some 15) (v := ?_) rfl rfl (by kernel_rfl) (by kernel_rfl) (by kernel_rfl) (by kernel_rfl) (by kernel_rfl) rfl (fun _ _ _ h => h) (Or.inl ⟨rfl, ?_⟩) H0 ?_
  rotate_left
  · intro W hW; have hW := HS.out W hW; go_simp; try with_reducible rfl
  simp only [put_list, List.set]
  refine Drawn.only 1 (by kernel_rfl) rfl rfl (fun K hK => ?_)
  go_simp
  refine (Digits_b HX.out _).mono ?_
  rintro e w9 ⟨v, rfl, hv, hb⟩
  refine hK _ _ (fun _ _ => H0.call hb) ?_
  replace H0 := H0.call hb
  clear hK K hb
  obtain ⟨g, cap, rfl, hg, hc⟩ := hv
  have hcd := hc d HDn.out
  clear hc
  generalize byteOf x d = y at *
  refine Drawn.only 6 (by kernel_rfl) rfl rfl (fun K hK => ?_)
  go_simp
  refine hK _ _ (fun _ _ => H0) ?_
  clear hK K
  refine Drawn.only 7 (by kernel_rfl) rfl rfl (fun K hK => ?_)
  go_simp
  refine hK _ _ (fun _ _ => H0) ?_
  clear hK K
  refine Drawn.only 8 (by kernel_rfl) rfl rfl (fun K hK => ?_)
  go_simp
  refine hK _ _ (fun _ _ => H0) ?_
  clear hK K
  clear hcd hg
  refine Drawn.only 9 (by kernel_rfl) rfl rfl (fun K hK => ?_)
  go_simp
  refine (rFrom_any y _).mono ?_
  rintro e w9 ⟨rfl, hb⟩
  refine hK _ _ (fun _ _ => H0.call hb) ?_
  replace H0 := H0.call hb
  clear hK K hb
  have K0 := H0.know (_, _, _) List.mem_cons_self
  obtain ⟨⟨r0, r1, r2, r3⟩, g0, g1, g2, g3⟩ := cells4 K0.2
  replace K0 := Lib.hid K0
  refine Drawn.only 10 (by kernel_rfl) rfl rfl (fun K hK => ?_)
  go_simp
  refine hK _ _ (fun h => by simp at h) ?_
  clear hK K
  refine Drawn.done (by kernel_rfl) ?_ _
  go_wp2_with fail
  exact bodyPost_ret (results_cell_row Tryd.results41 _ _ _ _ _ _ _ rfl (heap_set4 K0.out.2 _ _ _ _) Tryd.underlying24 rfl (by kernel_rfl)) rfl
    ⟨_, _, _, _, rfl, dig_small HBM.out, below_set4 H0.below (by omega) _ _ _ _⟩

theorem rByte_d {n x b3 b2 b1 b0 a3 a2 a1 a0 : Nat} (hn : Dig n b0 b1 b2 b3) (hx : Dig x a0 a1 a2 a3) (w : World) :
    Calls Tryd.prog 41 #[.agg #[.int .u64 b3, .int .u64 b2, .int .u64 b1, .int .u64 b0], .agg #[.int .u64 a3, .int .u64 a2, .int .u64 a1, .int .u64 a0]] w (RetD (if n < 32 then byteOf x (31 - n) else 0) w) := by
  by_cases h : n < 32
  · rw [if_pos h]; exact rByte_in hn hx h w
  · rw [if_neg h]; exact rByte_out hn hx h w

end Go.Proofs.YtofoiifckkafcaaDoor
