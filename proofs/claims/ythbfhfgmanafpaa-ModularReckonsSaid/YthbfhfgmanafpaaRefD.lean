/- Contracts of the reference: Not, Add, Sub, Less, Negative, Below. -/
import Derived.Test.YthbfhfgmanafpaaRefC
import Derived.Test.YthbfhfgmanafpaaMoveC
namespace Go.Proofs.Ythbfhfgmanafpaa
open Go.RowKit Go.Joins
attribute [local go_sem ↓] Go.wp_at_zero Go.wp_at_succ

theorem byteOf_lt (x j : Nat) : byteOf x j < 256 := Nat.mod_lt _ (by decide)
theorem W256_bytes : W256 = 256 ^ 32 := by decide +kernel
theorem lowB_congr {a b : Nat → Nat} {n : Nat} (h : ∀ j, j < n → a j = b j) : lowB a n = lowB b n := by
  induction n with
  | zero => rfl
  | succ n ih => simp only [lowB]; rw [ih fun j hj => h j (by omega), h n (by omega)]
theorem lowB_lt {b : Nat → Nat} (hb : ∀ j, b j < 256) (n : Nat) : lowB b n < 256 ^ n := by
  induction n with
  | zero => simp [lowB]
  | succ n ih =>
    simp only [lowB]
    have h := Nat.mul_le_mul_right (256 ^ n) (show b n ≤ 255 by have := hb n; omega)
    rw [Nat.pow_succ]
    omega
theorem lowB_all {x : Nat} (hx : x < W256) : lowB (byteOf x) 32 = x := by
  rw [lowB_byte, Nat.mod_eq_of_lt (by rw [← W256_bytes]; exact hx)]
theorem ref_sum {x y : Nat} (hx : x < W256) (hy : y < W256) : lowB (sumAt (byteOf x) (upTo 32 (byteOf y))) 32 = (x + y) % W256 := by
  have h := sum_low (byteOf x) (upTo 32 (byteOf y)) 32
  rw [lowB_congr (a := upTo 32 (byteOf y)) (b := byteOf y) (fun j hj => if_pos hj), lowB_all hx, lowB_all hy] at h
  have hl := lowB_lt (sumAt_lt (byteOf x) (upTo 32 (byteOf y))) 32
  rw [← h, W256_bytes, Nat.add_mul_mod_self_right, Nat.mod_eq_of_lt hl]

set_option maxRecDepth 100000 in
set_option maxHeartbeats 1000000 in
theorem rNot_d {x a3 a2 a1 a0 : Nat} (hx : Dig x a0 a1 a2 a3) (w : World) :
    Calls Try.prog 88 #[.agg #[.int .u64 a3, .int .u64 a2, .int .u64 a1, .int .u64 a0]] w (RetD (W256 - 1 - x) w) := by
  have e0 := not64 a0 hx.h0; have e1 := not64 a1 hx.h1; have e2 := not64 a2 hx.h2; have e3 := not64 a3 hx.h3
  have HD := Lib.hid (show Dig (W256 - 1 - x) (M64 - 1 - a0) (M64 - 1 - a1) (M64 - 1 - a2) (M64 - 1 - a3) by
    obtain ⟨h0, h1, h2, h3, rfl⟩ := hx
    unfold W256 M64 at *
    refine ⟨?_, ?_, ?_, ?_, ?_⟩ <;> unfold M64 <;> omega)
  clear hx
  generalize M64 - 1 - a0 = n0 at *
  generalize M64 - 1 - a1 = n1 at *
  generalize M64 - 1 - a2 = n2 at *
  generalize M64 - 1 - a3 = n3 at *
  go_enter Try.func88, Try.ntmps88
  go_wp2_with fail
  exact bodyPost_ret (v := .agg #[.int .u64 n3, .int .u64 n2, .int .u64 n1, .int .u64 n0]) (by simp [results, Try.results88, go_sem]) rfl
    ⟨_, _, _, _, rfl, HD.out, ((Below.refl _ _).alloc (Nat.le_refl _) _).alloc (by simp) _⟩

set_option maxHeartbeats 400000 in
theorem rFrom_any (d : Nat) (w : World) :
    Calls Try.prog 51 #[.int .u64 d] w fun e w' => e = .returned (.agg #[.int .u64 0, .int .u64 0, .int .u64 0, .int .u64 d]) ∧ Below w.heap.size w w' := by
  go_enter Try.func51, Try.ntmps51
  go_wp2
  exact bodyPost_ret (v := .agg #[.int .u64 0, .int .u64 0, .int .u64 0, .int .u64 d]) (by simp [results, Try.results51, go_sem]) rfl ⟨rfl, ((Below.refl _ _).alloc (Nat.le_refl _) _)⟩

set_option maxHeartbeats 400000 in
theorem rNeg_c {x a3 a2 a1 a0 : Nat} (hx : Dig x a0 a1 a2 a3) (w : World) :
    Calls Try.prog 38 #[.agg #[.int .u64 a3, .int .u64 a2, .int .u64 a1, .int .u64 a0]] w fun e w' => e = .returned (.bool (decide (W256 / 2 ≤ x))) ∧ Below w.heap.size w w' := by
  have hh : W256 / 2 ≤ x ↔ M64 / 2 ≤ a3 := by
    obtain ⟨h0, h1, h2, h3, rfl⟩ := hx
    unfold W256 M64 at *
    omega
  have h3 := hx.h3
  rw [show decide (W256 / 2 ≤ x) = ((a3 : Int) / 9223372036854775808 == 1) by
    rw [Bool.eq_iff_iff, decide_eq_true_eq, hh, beq_iff_eq]; unfold M64 at *; omega]
  clear hh hx h3
  go_enter Try.func38, Try.ntmps38
  go_wp2
  go_ret
  exact ⟨rfl, ((Below.refl _ _).alloc (Nat.le_refl _) _)⟩

set_option maxRecDepth 100000 in
set_option maxHeartbeats 4000000 in
theorem rAdd_d {x y a3 a2 a1 a0 b3 b2 b1 b0 : Nat} (hx : Dig x a0 a1 a2 a3) (hy : Dig y b0 b1 b2 b3) (w : World) :
    Calls Try.prog 87 #[.agg #[.int .u64 a3, .int .u64 a2, .int .u64 a1, .int .u64 a0], .agg #[.int .u64 b3, .int .u64 b2, .int .u64 b1, .int .u64 b0]] w (RetD ((x + y) % W256) w) := by
  have H := ((((Fx.start w).new #[.int .u64 a3, .int .u64 a2, .int .u64 a1, .int .u64 a0] 24).new #[.int .u64 b3, .int .u64 b2, .int .u64 b1, .int .u64 b0] 24).new #[.int .u64 0, .int .u64 0, .int .u64 0, .int .u64 0] 24).1
  have HX := Lib.hid hx; have HY := Lib.hid hy
  clear hx hy
  go_enter Try.func87, Try.ntmps87
  go_wp2_with fail
  have H0 := H.drew
  have HS := Lib.hid (fun W (hW : Fr w w.heap.size (w.heap.size + 1 + 1 + 1) [(w.heap.size + 1 + 1, #[.int .u64 0, .int .u64 0, .int .u64 0, .int .u64 0], 24), (w.heap.size + 1, #[.int .u64 b3, .int .u64 b2, .int .u64 b1, .int .u64 b0], 24), (w.heap.size, #[.int .u64 a3, .int .u64 a2, .int .u64 a1, .int .u64 a0], 24)] W) => And.intro (hW.row (.tail _ (.head _))) (hW.row (.tail _ (.tail _ (.head _)))))
  refine Drawn.startEx (fun i => i == 6) H (by kernel_rfl) ?_
  clear H
  refine Drawn.take 0 (some 5) (v := ?_) rfl rfl (by kernel_rfl) (by kernel_rfl) (by kernel_rfl) (by kernel_rfl) (by kernel_rfl) rfl (fun _ _ _ h => h) (Or.inl ⟨rfl, ?_⟩) H0 ?_
  rotate_left
  · intro W hW; have hW := HS.out W hW; go_simp; try with_reducible rfl
  simp only [put_list, List.set]
  refine Drawn.take 2 (some 7) (v := ?_) rfl rfl (by kernel_rfl) (by kernel_rfl) (by kernel_rfl) (by kernel_rfl) (by kernel_rfl) rfl (fun _ _ _ h => h) (Or.inl ⟨rfl, ?_⟩) H0 ?_
  rotate_left
  · intro W hW; have hW := HS.out W hW; go_simp; try with_reducible rfl
  simp only [put_list, List.set]
  refine Drawn.only 1 (by kernel_rfl) rfl rfl (fun K hK => ?_)
  go_simp
  refine (Digits_b HX.out _).mono ?_
  rintro e w9 ⟨v1, rfl, r1, hb⟩
  refine hK _ _ (fun _ _ => H0.call hb) ?_
  replace H0 := H0.call hb
  clear hK K hb
  refine Drawn.only 3 (by kernel_rfl) rfl rfl (fun K hK => ?_)
  go_simp
  refine (Digits_b HY.out _).mono ?_
  rintro e w9 ⟨v3, rfl, r3, hb⟩
  refine hK _ _ (fun _ _ => H0.call hb) ?_
  replace H0 := H0.call hb
  replace r1 := r1.call hb
  clear hK K hb
  refine Drawn.only 4 (by kernel_rfl) rfl rfl (fun K hK => ?_)
  go_simp
  refine (Sum_c (by decide) (by decide) (byteOf_lt x) (byteOf_lt y) _ r1 r3).mono ?_
  rintro e w9 ⟨v4, rfl, r4, hb⟩
  refine hK _ _ (fun _ _ => H0.call hb) ?_
  replace H0 := H0.call hb
  clear hK K hb
  refine Drawn.only 5 (by kernel_rfl) rfl rfl (fun K hK => ?_)
  go_simp
  refine (Join_b (by decide) (by decide) _ r4 (sumAt_lt _ _)).mono ?_
  rintro e w9 ⟨p53, p52, p51, p50, rfl, hd, hb⟩
  refine hK _ _ (fun _ _ => H0.call hb) ?_
  replace H0 := H0.call hb
  clear hK K hb
  have D5 := Lib.hid hd
  clear hd
  have K0 := H0.know (_, _, _) List.mem_cons_self
  obtain ⟨⟨r0, r1, r2, r3⟩, g0, g1, g2, g3⟩ := cells4 K0.2
  replace K0 := Lib.hid K0
  refine Drawn.only 6 (by kernel_rfl) rfl rfl (fun K hK => ?_)
  go_simp
  refine hK _ _ (fun h => by simp at h) ?_
  clear hK K
  refine Drawn.done (by kernel_rfl) ?_ _
  go_wp2_with fail
  exact bodyPost_ret (results_cell_row Try.results87 _ _ _ _ _ _ _ rfl (heap_set4 K0.out.2 _ _ _ _) Try.underlying24 rfl (by kernel_rfl)) rfl
    ⟨_, _, _, _, rfl, (ref_sum HX.out.lt HY.out.lt) ▸ D5.out, below_set4 H0.below (by omega) _ _ _ _⟩

theorem ref_less {x y : Nat} (hy : y < W256) : (x + (W256 - 1 - y + 1) % W256) % W256 = (x + W256 - y) % W256 := by
  rw [Nat.add_mod_mod]
  congr 1
  omega

set_option maxRecDepth 100000 in
set_option maxHeartbeats 4000000 in
theorem rSub_d {x y a3 a2 a1 a0 b3 b2 b1 b0 : Nat} (hx : Dig x a0 a1 a2 a3) (hy : Dig y b0 b1 b2 b3) (w : World) :
    Calls Try.prog 68 #[.agg #[.int .u64 a3, .int .u64 a2, .int .u64 a1, .int .u64 a0], .agg #[.int .u64 b3, .int .u64 b2, .int .u64 b1, .int .u64 b0]] w (RetD ((x + W256 - y) % W256) w) := by
  have H := ((((Fx.start w).new #[.int .u64 a3, .int .u64 a2, .int .u64 a1, .int .u64 a0] 24).new #[.int .u64 b3, .int .u64 b2, .int .u64 b1, .int .u64 b0] 24).new #[.int .u64 0, .int .u64 0, .int .u64 0, .int .u64 0] 24).1
  have HX := Lib.hid hx; have HY := Lib.hid hy
  clear hx hy
  go_enter Try.func68, Try.ntmps68
  go_wp2_with fail
  have H0 := H.drew
  have HS := Lib.hid (fun W (hW : Fr w w.heap.size (w.heap.size + 1 + 1 + 1) [(w.heap.size + 1 + 1, #[.int .u64 0, .int .u64 0, .int .u64 0, .int .u64 0], 24), (w.heap.size + 1, #[.int .u64 b3, .int .u64 b2, .int .u64 b1, .int .u64 b0], 24), (w.heap.size, #[.int .u64 a3, .int .u64 a2, .int .u64 a1, .int .u64 a0], 24)] W) => And.intro (hW.row (.tail _ (.head _))) (hW.row (.tail _ (.tail _ (.head _)))))
  refine Drawn.startEx (fun i => i == 6) H (by kernel_rfl) ?_
  clear H
  refine Drawn.take 0 (some 5) (v := ?_) rfl rfl (by kernel_rfl) (by kernel_rfl) (by kernel_rfl) (by kernel_rfl) (by kernel_rfl) rfl (fun _ _ _ h => h) (Or.inl ⟨rfl, ?_⟩) H0 ?_
  rotate_left
  · intro W hW; have hW := HS.out W hW; go_simp; try with_reducible rfl
  simp only [put_list, List.set]
  refine Drawn.take 1 (some 6) (v := ?_) rfl rfl (by kernel_rfl) (by kernel_rfl) (by kernel_rfl) (by kernel_rfl) (by kernel_rfl) rfl (fun _ _ _ h => h) (Or.inl ⟨rfl, ?_⟩) H0 ?_
  rotate_left
  · intro W hW; have hW := HS.out W hW; go_simp; try with_reducible rfl
  simp only [put_list, List.set]
  refine Drawn.only 2 (by kernel_rfl) rfl rfl (fun K hK => ?_)
  go_simp
  refine (rNot_d HY.out _).mono ?_
  rintro e w9 ⟨p23, p22, p21, p20, rfl, hd, hb⟩
  refine hK _ _ (fun _ _ => H0.call hb) ?_
  replace H0 := H0.call hb
  clear hK K hb
  have D2 := Lib.hid hd
  clear hd
  refine Drawn.only 3 (by kernel_rfl) rfl rfl (fun K hK => ?_)
  go_simp
  refine (rFrom_any 1 _).mono ?_
  rintro e w9 ⟨rfl, hb⟩
  refine hK _ _ (fun _ _ => H0.call hb) ?_
  replace H0 := H0.call hb
  clear hK K hb
  refine Drawn.only 4 (by kernel_rfl) rfl rfl (fun K hK => ?_)
  go_simp
  refine (rAdd_d D2.out (dig_small (show 1 < M64 by decide)) _).mono ?_
  rintro e w9 ⟨p43, p42, p41, p40, rfl, hd, hb⟩
  refine hK _ _ (fun _ _ => H0.call hb) ?_
  replace H0 := H0.call hb
  clear hK K hb
  have D4 := Lib.hid hd
  clear hd
  refine Drawn.only 5 (by kernel_rfl) rfl rfl (fun K hK => ?_)
  go_simp
  refine (rAdd_d HX.out D4.out _).mono ?_
  rintro e w9 ⟨p53, p52, p51, p50, rfl, hd, hb⟩
  refine hK _ _ (fun _ _ => H0.call hb) ?_
  replace H0 := H0.call hb
  clear hK K hb
  have D5 := Lib.hid hd
  clear hd
  have K0 := H0.know (_, _, _) List.mem_cons_self
  obtain ⟨⟨r0, r1, r2, r3⟩, g0, g1, g2, g3⟩ := cells4 K0.2
  replace K0 := Lib.hid K0
  refine Drawn.only 6 (by kernel_rfl) rfl rfl (fun K hK => ?_)
  go_simp
  refine hK _ _ (fun h => by simp at h) ?_
  clear hK K
  refine Drawn.done (by kernel_rfl) ?_ _
  go_wp2_with fail
  exact bodyPost_ret (results_cell_row Try.results68 _ _ _ _ _ _ _ rfl (heap_set4 K0.out.2 _ _ _ _) Try.underlying24 rfl (by kernel_rfl)) rfl
    ⟨_, _, _, _, rfl, (ref_less HY.out.lt) ▸ D5.out, below_set4 H0.below (by omega) _ _ _ _⟩

end Go.Proofs.Ythbfhfgmanafpaa
