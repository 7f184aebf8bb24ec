/- Contracts of the reference: And, Or, Xor, far, Shl, Shr, Sar, Byte. -/
import Derived.Test.YtofoiifckkafcaaDoorRefN
import Derived.Test.YtofoiifckkafcaaDoorBitN
import Derived.Test.YtofoiifckkafcaaDoorSar
namespace Go.Proofs.YtofoiifckkafcaaDoor
open Go.RowKit Go.Joins
attribute [local go_sem ↓] Go.wp_at_zero Go.wp_at_succ

theorem bitsTo_eq {f : Nat → Nat} {r : Nat} (h : ∀ i, i < 256 → f i = r / 2 ^ i % 2) : ∀ k, k ≤ 256 → bitsTo f k = r % 2 ^ k := by
  intro k
  induction k with
  | zero => intro _; simp [bitsTo, Nat.mod_one]
  | succ k ih =>
    intro hk
    simp only [bitsTo]
    rw [ih (by omega), h k (by omega), Nat.mod_pow_succ, Nat.mul_comm]
theorem bitsTo_all {f : Nat → Nat} {r : Nat} (hr : r < W256) (h : ∀ i, i < 256 → f i = r / 2 ^ i % 2) : bitsTo f 256 = r := by
  rw [bitsTo_eq h 256 (Nat.le_refl _)]
  exact Nat.mod_eq_of_lt hr

theorem moved_right {x m : Nat} (hx : x < W256) : bitsTo (movedBit x (m : Int) 0) 256 = x / 2 ^ m := by
  refine bitsTo_all (Nat.lt_of_le_of_lt (Nat.div_le_self _ _) hx) fun i hi => ?_
  rw [Nat.div_div_eq_div_mul, ← Nat.pow_add]
  unfold movedBit
  by_cases h : i + m < 256
  · rw [if_pos (by omega), show ((i : Int) + (m : Int)).toNat = m + i by omega]
  · rw [if_neg (by omega)]
    have h2 : 2 ^ 256 ≤ 2 ^ (m + i) := Nat.pow_le_pow_right (by decide) (by omega)
    rw [Nat.div_eq_of_lt (Nat.lt_of_lt_of_le (show x < 2 ^ 256 from hx) h2)]
theorem low_bit (y : Nat) {i : Nat} (hi : i < 256) : y % W256 / 2 ^ i % 2 = y / 2 ^ i % 2 := by
  have e : W256 = 2 ^ i * 2 ^ (256 - i) := by rw [← Nat.pow_add, show i + (256 - i) = 256 by omega]; rfl
  rw [e, Nat.mod_mul_right_div_self]
  have d : (2 : Nat) ∣ 2 ^ (256 - i) := by
    rw [show 256 - i = (255 - i) + 1 by omega, Nat.pow_succ]; exact Nat.dvd_mul_left _ _
  exact Nat.mod_mod_of_dvd _ d
theorem moved_left {x m : Nat} : bitsTo (movedBit x (-(m : Int)) 0) 256 = x * 2 ^ m % W256 := by
  refine bitsTo_all (Nat.mod_lt _ (by decide +kernel)) fun i hi => ?_
  rw [low_bit _ hi]
  unfold movedBit
  by_cases h : m ≤ i
  · rw [if_pos (by omega), show ((i : Int) + -(m : Int)).toNat = i - m by omega]
    have e : 2 ^ i = 2 ^ (i - m) * 2 ^ m := by rw [← Nat.pow_add, show i - m + m = i by omega]
    rw [e, Nat.mul_div_mul_right _ _ (Nat.pow_pos (by decide))]
  · rw [if_neg (by omega)]
    have e : x * 2 ^ m = x * 2 ^ (m - i - 1) * 2 * 2 ^ i := by
      rw [Nat.mul_assoc, Nat.mul_assoc, ← Nat.pow_succ', ← Nat.pow_add, show m - i - 1 + (i + 1) = m by omega]
    rw [e, Nat.mul_div_cancel _ (Nat.pow_pos (by decide)), Nat.mul_mod_left]
theorem not_bit {z i : Nat} (hz : z < W256) (hi : i < 256) : (W256 - 1 - z) / 2 ^ i % 2 = 1 - z / 2 ^ i % 2 := by
  have e : W256 = 2 ^ i * (2 ^ (255 - i) * 2) := by rw [← Nat.pow_succ, ← Nat.pow_add, show i + (255 - i + 1) = 256 by omega]; rfl
  have hp : 0 < 2 ^ i := Nat.pow_pos (by decide)
  have h1 := Nat.div_add_mod z (2 ^ i)
  have h2 := Nat.mod_lt z hp
  have hq : z / 2 ^ i < 2 ^ (255 - i) * 2 := (Nat.div_lt_iff_lt_mul hp).2 (by rw [Nat.mul_comm, ← e]; exact hz)
  generalize z / 2 ^ i = q at *
  generalize z % 2 ^ i = s at *
  generalize 2 ^ (255 - i) = T at *
  generalize 2 ^ i = P at *
  have e2 : W256 - 1 - z = (P - 1 - s) + P * (T * 2 - 1 - q) := by
    rw [e, ← h1, Nat.mul_sub, Nat.mul_sub, Nat.mul_one]
    have h3 : P * q + P ≤ P * (T * 2) := by
      have := Nat.mul_le_mul_left P (show q + 1 ≤ T * 2 by omega)
      rwa [Nat.mul_add, Nat.mul_one] at this
    omega
  rw [e2, Nat.add_mul_div_left _ _ hp, Nat.div_eq_of_lt (by omega)]
  omega
theorem moved_signed {x m : Nat} (hx : x < W256) : bitsTo (movedBit x (m : Int) 1) 256 = W256 - 1 - (W256 - 1 - x) / 2 ^ m := by
  have hz : (W256 - 1 - x) / 2 ^ m < W256 := Nat.lt_of_le_of_lt (Nat.div_le_self _ _) (by omega)
  refine bitsTo_all (Nat.lt_of_le_of_lt (Nat.sub_le _ _) (show W256 - 1 < W256 by decide +kernel)) fun i hi => ?_
  rw [not_bit hz hi, Nat.div_div_eq_div_mul, ← Nat.pow_add]
  unfold movedBit
  by_cases h : i + m < 256
  · rw [if_pos (by omega), show ((i : Int) + (m : Int)).toNat = m + i by omega, not_bit hx (by omega)]
    have := Nat.mod_lt (x / 2 ^ (m + i)) (show 0 < 2 by decide)
    omega
  · rw [if_neg (by omega)]
    have h2 : 2 ^ 256 ≤ 2 ^ (m + i) := Nat.pow_le_pow_right (by decide) (by omega)
    rw [Nat.div_eq_of_lt (Nat.lt_of_lt_of_le (show W256 - 1 - x < 2 ^ 256 by have : W256 = 2 ^ 256 := rfl; omega) h2)]

set_option maxRecDepth 100000 in
set_option maxHeartbeats 1000000 in
theorem rAnd_d {x y b3 b2 b1 b0 a3 a2 a1 a0 : Nat} (hx : Dig x a0 a1 a2 a3) (hy : Dig y b0 b1 b2 b3) (w : World) :
    Calls Tryd.prog 27 #[.agg #[.int .u64 a3, .int .u64 a2, .int .u64 a1, .int .u64 a0], .agg #[.int .u64 b3, .int .u64 b2, .int .u64 b1, .int .u64 b0]] w (RetD (x &&& y) w) := by
  have e0 := and64 a0 b0 hx.h0 hy.h0; have e1 := and64 a1 b1 hx.h1 hy.h1; have e2 := and64 a2 b2 hx.h2 hy.h2; have e3 := and64 a3 b3 hx.h3 hy.h3
  have HD := Lib.hid (hx.and hy)
  clear hx hy
  generalize a0 &&& b0 = n0 at *
  generalize a1 &&& b1 = n1 at *
  generalize a2 &&& b2 = n2 at *
  generalize a3 &&& b3 = n3 at *
  go_enter Tryd.func27, Tryd.ntmps27
  go_wp2_with fail
  exact bodyPost_ret (v := .agg #[.int .u64 n3, .int .u64 n2, .int .u64 n1, .int .u64 n0]) (by simp [results, Tryd.results27, go_sem]) rfl
    ⟨_, _, _, _, rfl, HD.out, (((Below.refl _ _).alloc (Nat.le_refl _) _).alloc (by simp) _).alloc (by simp; omega) _⟩

theorem ref_or {x y : Nat} (hx : x < W256) (hy : y < W256) : W256 - 1 - ((W256 - 1 - x) &&& (W256 - 1 - y)) = x ||| y := by
  rw [not_and (show W256 - 1 - x < W256 by omega) (show W256 - 1 - y < W256 by omega), show W256 - 1 - (W256 - 1 - x) = x by omega, show W256 - 1 - (W256 - 1 - y) = y by omega]
theorem ref_xor {x y : Nat} (hx : x < W256) (hy : y < W256) : (x ||| y) &&& (W256 - 1 - (x &&& y)) = x ^^^ y := by
  have e : W256 = 2 ^ 256 := rfl
  rw [e] at *
  have hl : x &&& y < 2 ^ 256 := Nat.and_lt_two_pow _ hy
  apply Nat.eq_of_testBit_eq
  intro i
  rw [Nat.testBit_and, Nat.testBit_or, Nat.testBit_xor, show 2 ^ 256 - 1 - (x &&& y) = 2 ^ 256 - ((x &&& y) + 1) by omega, Nat.testBit_two_pow_sub_succ hl, Nat.testBit_and]
  by_cases hi : i < 256
  · simp [hi]; cases x.testBit i <;> cases y.testBit i <;> rfl
  · have p : 2 ^ 256 ≤ 2 ^ i := Nat.pow_le_pow_right (by decide) (by omega)
    rw [Nat.testBit_lt_two_pow (Nat.lt_of_lt_of_le hx p), Nat.testBit_lt_two_pow (Nat.lt_of_lt_of_le hy p)]
    simp

set_option maxRecDepth 100000 in
set_option maxHeartbeats 4000000 in
theorem rOr_d {x y a3 a2 a1 a0 b3 b2 b1 b0 : Nat} (hx : Dig x a0 a1 a2 a3) (hy : Dig y b0 b1 b2 b3) (w : World) :
    Calls Tryd.prog 29 #[.agg #[.int .u64 a3, .int .u64 a2, .int .u64 a1, .int .u64 a0], .agg #[.int .u64 b3, .int .u64 b2, .int .u64 b1, .int .u64 b0]] w (RetD (x ||| y) w) := by
  have H := ((((Fx.start w).new #[.int .u64 a3, .int .u64 a2, .int .u64 a1, .int .u64 a0] 24).new #[.int .u64 b3, .int .u64 b2, .int .u64 b1, .int .u64 b0] 24).new #[.int .u64 0, .int .u64 0, .int .u64 0, .int .u64 0] 24).1
  have HX := Lib.hid hx; have HY := Lib.hid hy
  clear hx hy
  go_enter Tryd.func29, Tryd.ntmps29
  go_wp2_with fail
  have H0 := H.drew
  have HS := Lib.hid (fun W (hW : Fr w w.heap.size (w.heap.size + 1 + 1 + 1) [(w.heap.size + 1 + 1, #[.int .u64 0, .int .u64 0, .int .u64 0, .int .u64 0], 24), (w.heap.size + 1, #[.int .u64 b3, .int .u64 b2, .int .u64 b1, .int .u64 b0], 24), (w.heap.size, #[.int .u64 a3, .int .u64 a2, .int .u64 a1, .int .u64 a0], 24)] W) => And.intro (hW.row (.tail _ (.head _))) (hW.row (.tail _ (.tail _ (.head _)))))
  refine Drawn.startEx (fun i => i == 6) H (by kernel_rfl) ?_
  clear H
  refine Drawn.take 0 (some 5) (v := ?_) rfl rfl (by kernel_rfl) (by kernel_rfl) (by kernel_rfl) (by kernel_rfl) (by kernel_rfl) rfl (fun _ _ _ h => h) (Or.inl ⟨rfl, ?_⟩) H0 ?_
  rotate_left
  · intro W hW; have hW := HS.out W hW; go_simp; try with_reducible rfl
  simp only [put_list, List.set]
  refine Drawn.take 2 (some 7) (v := ?_) rfl rfl (by kernel_rfl) (by kernel_rfl) (by kernel_rfl) (by kernel_rfl) (by kernel_rfl) rfl (fun _ _ _ h => h) (Or.inl ⟨rfl, ?_⟩) H0 ?_
  rotate_left
  · intro W hW; have hW := HS.out W hW; go_simp; try with_reducible rfl
  simp only [put_list, List.set]
  refine Drawn.only 1 (by kernel_rfl) rfl rfl (fun K hK => ?_)
  go_simp
  refine (rNot_d HX.out _).mono ?_
  rintro e w9 ⟨p13, p12, p11, p10, rfl, hd, hb⟩
  refine hK _ _ (fun _ _ => H0.call hb) ?_
  replace H0 := H0.call hb
  clear hK K hb
  have D1 := Lib.hid hd
  clear hd
  refine Drawn.only 3 (by kernel_rfl) rfl rfl (fun K hK => ?_)
  go_simp
  refine (rNot_d HY.out _).mono ?_
  rintro e w9 ⟨p33, p32, p31, p30, rfl, hd, hb⟩
  refine hK _ _ (fun _ _ => H0.call hb) ?_
  replace H0 := H0.call hb
  clear hK K hb
  have D3 := Lib.hid hd
  clear hd
  refine Drawn.only 4 (by kernel_rfl) rfl rfl (fun K hK => ?_)
  go_simp
  refine (rAnd_d D1.out D3.out _).mono ?_
  rintro e w9 ⟨p43, p42, p41, p40, rfl, hd, hb⟩
  refine hK _ _ (fun _ _ => H0.call hb) ?_
  replace H0 := H0.call hb
  clear hK K hb
  have D4 := Lib.hid hd
  clear hd
  refine Drawn.only 5 (by kernel_rfl) rfl rfl (fun K hK => ?_)
  go_simp
  refine (rNot_d D4.out _).mono ?_
  rintro e w9 ⟨p53, p52, p51, p50, rfl, hd, hb⟩
  refine hK _ _ (fun _ _ => H0.call hb) ?_
  replace H0 := H0.call hb
  clear hK K hb
  have D5 := Lib.hid hd
  clear hd
  have K0 := H0.know (_, _, _) List.mem_cons_self
  obtain ⟨⟨r0, r1, r2, r3⟩, g0, g1, g2, g3⟩ := cells4 K0.2
  replace K0 := Lib.hid K0
  refine Drawn.only 6 (by kernel_rfl) rfl rfl (fun K hK => ?_)
  go_simp
  refine hK _ _ (fun h => by simp at h) ?_
  clear hK K
  refine Drawn.done (by kernel_rfl) ?_ _
  go_wp2_with fail
  exact bodyPost_ret (results_cell_row Tryd.results29 _ _ _ _ _ _ _ rfl (heap_set4 K0.out.2 _ _ _ _) Tryd.underlying24 rfl (by kernel_rfl)) rfl
    ⟨_, _, _, _, rfl, (ref_or HX.out.lt HY.out.lt) ▸ D5.out, below_set4 H0.below (by omega) _ _ _ _⟩

set_option maxRecDepth 100000 in
set_option maxHeartbeats 4000000 in
theorem rXor_d {x y a3 a2 a1 a0 b3 b2 b1 b0 : Nat} (hx : Dig x a0 a1 a2 a3) (hy : Dig y b0 b1 b2 b3) (w : World) :
    Calls Tryd.prog 31 #[.agg #[.int .u64 a3, .int .u64 a2, .int .u64 a1, .int .u64 a0], .agg #[.int .u64 b3, .int .u64 b2, .int .u64 b1, .int .u64 b0]] w (RetD (x ^^^ y) w) := by
  have H := ((((Fx.start w).new #[.int .u64 a3, .int .u64 a2, .int .u64 a1, .int .u64 a0] 24).new #[.int .u64 b3, .int .u64 b2, .int .u64 b1, .int .u64 b0] 24).new #[.int .u64 0, .int .u64 0, .int .u64 0, .int .u64 0] 24).1
  have HX := Lib.hid hx; have HY := Lib.hid hy
  clear hx hy
  go_enter Tryd.func31, Tryd.ntmps31
  go_wp2_with fail
  have H0 := H.drew
  have HS := Lib.hid (fun W (hW : Fr w w.heap.size (w.heap.size + 1 + 1 + 1) [(w.heap.size + 1 + 1, #[.int .u64 0, .int .u64 0, .int .u64 0, .int .u64 0], 24), (w.heap.size + 1, #[.int .u64 b3, .int .u64 b2, .int .u64 b1, .int .u64 b0], 24), (w.heap.size, #[.int .u64 a3, .int .u64 a2, .int .u64 a1, .int .u64 a0], 24)] W) => And.intro (hW.row (.tail _ (.head _))) (hW.row (.tail _ (.tail _ (.head _)))))
  refine Drawn.startEx (fun i => i == 8) H (by kernel_rfl) ?_
  clear H
  refine Drawn.take 0 (some 5) (v := ?_) rfl rfl (by kernel_rfl) (by kernel_rfl) (by kernel_rfl) (by kernel_rfl) (by kernel_rfl) rfl (fun _ _ _ h => h) (Or.inl ⟨rfl, ?_⟩) H0 ?_
  rotate_left
  · intro W hW; have hW := HS.out W hW; go_simp; try with_reducible rfl
  simp only [put_list, List.set]
  refine Drawn.take 1 (some 6) (v := ?_) rfl rfl (by kernel_rfl) (by kernel_rfl) (by kernel_rfl) (by kernel_rfl) (by kernel_rfl) rfl (fun _ _ _ h => h) (Or.inl ⟨rfl, ?_⟩) H0 ?_
  rotate_left
  · intro W hW; have hW := HS.out W hW; go_simp; try with_reducible rfl
  simp only [put_list, List.set]
  refine Drawn.take 3 (some 8) (v := ?_) rfl rfl (by kernel_rfl) (by kernel_rfl) (by kernel_rfl) (by kernel_rfl) (by kernel_rfl) rfl (fun _ _ _ h => h) (Or.inl ⟨rfl, ?_⟩) H0 ?_
  rotate_left
  · intro W hW; have hW := HS.out W hW; go_simp; try with_reducible rfl
  simp only [put_list, List.set]
  refine Drawn.take 4 (some 9) (v := ?_) rfl rfl (by kernel_rfl) (by kernel_rfl) (by kernel_rfl) (by kernel_rfl) (by kernel_rfl) rfl (fun _ _ _ h => h) (Or.inl ⟨rfl, ?_⟩) H0 ?_
  rotate_left
  · intro W hW; have hW := HS.out W hW; go_simp; try with_reducible rfl
  simp only [put_list, List.set]
  refine Drawn.only 2 (by kernel_rfl) rfl rfl (fun K hK => ?_)
  go_simp
  refine (rOr_d HX.out HY.out _).mono ?_
  rintro e w9 ⟨p23, p22, p21, p20, rfl, hd, hb⟩
  refine hK _ _ (fun _ _ => H0.call hb) ?_
  replace H0 := H0.call hb
  clear hK K hb
  have D2 := Lib.hid hd
  clear hd
  refine Drawn.only 5 (by kernel_rfl) rfl rfl (fun K hK => ?_)
  go_simp
  refine (rAnd_d HX.out HY.out _).mono ?_
  rintro e w9 ⟨p53, p52, p51, p50, rfl, hd, hb⟩
  refine hK _ _ (fun _ _ => H0.call hb) ?_
  replace H0 := H0.call hb
  clear hK K hb
  have D5 := Lib.hid hd
  clear hd
  refine Drawn.only 6 (by kernel_rfl) rfl rfl (fun K hK => ?_)
  go_simp
  refine (rNot_d D5.out _).mono ?_
  rintro e w9 ⟨p63, p62, p61, p60, rfl, hd, hb⟩
  refine hK _ _ (fun _ _ => H0.call hb) ?_
  replace H0 := H0.call hb
  clear hK K hb
  have D6 := Lib.hid hd
  clear hd
  refine Drawn.only 7 (by kernel_rfl) rfl rfl (fun K hK => ?_)
  go_simp
  refine (rAnd_d D2.out D6.out _).mono ?_
  rintro e w9 ⟨p73, p72, p71, p70, rfl, hd, hb⟩
  refine hK _ _ (fun _ _ => H0.call hb) ?_
  replace H0 := H0.call hb
  clear hK K hb
  have D7 := Lib.hid hd
  clear hd
  have K0 := H0.know (_, _, _) List.mem_cons_self
  obtain ⟨⟨r0, r1, r2, r3⟩, g0, g1, g2, g3⟩ := cells4 K0.2
  replace K0 := Lib.hid K0
  refine Drawn.only 8 (by kernel_rfl) rfl rfl (fun K hK => ?_)
  go_simp
  refine hK _ _ (fun h => by simp at h) ?_
  clear hK K
  refine Drawn.done (by kernel_rfl) ?_ _
  go_wp2_with fail
  exact bodyPost_ret (results_cell_row Tryd.results31 _ _ _ _ _ _ _ rfl (heap_set4 K0.out.2 _ _ _ _) Tryd.underlying24 rfl (by kernel_rfl)) rfl
    ⟨_, _, _, _, rfl, (ref_xor HX.out.lt HY.out.lt) ▸ D7.out, below_set4 H0.below (by omega) _ _ _ _⟩

set_option maxRecDepth 100000 in
set_option maxHeartbeats 1000000 in
theorem far_in {x a3 a2 a1 a0 : Nat} (hx : Dig x a0 a1 a2 a3) (h : x < 256) (w : World) :
    Calls Tryd.prog 68 #[.agg #[.int .u64 a3, .int .u64 a2, .int .u64 a1, .int .u64 a0]] w fun e w' => e = .returned (.int .i64 (min x 256 : Nat)) ∧ Below w.heap.size w w' := by
  have H := ((Fx.start w).new #[.int .u64 a3, .int .u64 a2, .int .u64 a1, .int .u64 a0] 24).1
  have Le := Lib.hid (fun W => rLess_c hx (dig_small (show 256 < M64 by decide)) W)
  rw [decide_eq_true h] at Le
  have HM := Lib.hid (show min x 256 = a0 by rw [Nat.min_eq_left (by omega)]; exact (low_of hx (by unfold M64; omega)))
  have ha : (a0 : Int) < 256 := by have := low_of hx (by unfold M64; omega); omega
  have hw : IntKind.i64.wrap (a0 : Int) = (a0 : Int) := IntWalk.i64_in _ (by omega)
  rw [HM.out]
  clear hx h
  go_enter Tryd.func68, Tryd.ntmps68
  go_wp2_with fail
  have H0 := H.drew
  have HS := Lib.hid (fun W (hW : Fr w w.heap.size (w.heap.size + 1) [(w.heap.size, #[.int .u64 a3, .int .u64 a2, .int .u64 a1, .int .u64 a0], 24)] W) => hW.row (.head _))
  refine Drawn.start (Fr w w.heap.size (w.heap.size + 1) [(w.heap.size, #[.int .u64 a3, .int .u64 a2, .int .u64 a1, .int .u64 a0], 24)]) (fun _ => false) (by kernel_rfl) ?_
  clear H
  refine Drawn.take 0 (some 3) (v := ?_) rfl rfl (by kernel_rfl) (by kernel_rfl) (by kernel_rfl) (by kernel_rfl) (by kernel_rfl) rfl (fun _ _ _ h => h) (Or.inl ⟨rfl, ?_⟩) H0 ?_
  rotate_left
  · intro W hW; have hW := HS.out W hW; go_simp; try with_reducible rfl
  simp only [put_list, List.set]
  refine Drawn.only 1 (by kernel_rfl) rfl rfl (fun K hK => ?_)
  go_simp
  refine (rFrom_any 256 _).mono ?_
  rintro e w9 ⟨rfl, hb⟩
  refine hK _ _ (fun _ _ => H0.call hb) ?_
  replace H0 := H0.call hb
  clear hK K hb
  refine Drawn.only 2 (by kernel_rfl) rfl rfl (fun K hK => ?_)
  go_simp
  refine (Le.out _).mono ?_
  rintro e w9 ⟨rfl, hb⟩
  refine hK _ _ (fun _ _ => H0.call hb) ?_
  replace H0 := H0.call hb
  clear hK K hb
  refine Drawn.done (by kernel_rfl) ?_ _
  have kA := H0.row (.head _)
  replace H0 := Lib.hid H0
  go_wp2_with fail
  go_ret
  exact ⟨rfl, H0.out.below⟩

set_option maxRecDepth 100000 in
set_option maxHeartbeats 1000000 in
theorem far_out {x a3 a2 a1 a0 : Nat} (hx : Dig x a0 a1 a2 a3) (h : ¬ x < 256) (w : World) :
    Calls Tryd.prog 68 #[.agg #[.int .u64 a3, .int .u64 a2, .int .u64 a1, .int .u64 a0]] w fun e w' => e = .returned (.int .i64 (min x 256 : Nat)) ∧ Below w.heap.size w w' := by
  have H := ((Fx.start w).new #[.int .u64 a3, .int .u64 a2, .int .u64 a1, .int .u64 a0] 24).1
  have Le := Lib.hid (fun W => rLess_c hx (dig_small (show 256 < M64 by decide)) W)
  rw [decide_eq_false h] at Le
  have HM := Lib.hid (show min x 256 = 256 by exact Nat.min_eq_right (by omega))
  skip
  skip
  rw [HM.out]
  clear hx h
  go_enter Tryd.func68, Tryd.ntmps68
  go_wp2_with fail
  have H0 := H.drew
  have HS := Lib.hid (fun W (hW : Fr w w.heap.size (w.heap.size + 1) [(w.heap.size, #[.int .u64 a3, .int .u64 a2, .int .u64 a1, .int .u64 a0], 24)] W) => hW.row (.head _))
  refine Drawn.start (Fr w w.heap.size (w.heap.size + 1) [(w.heap.size, #[.int .u64 a3, .int .u64 a2, .int .u64 a1, .int .u64 a0], 24)]) (fun _ => false) (by kernel_rfl) ?_
  clear H
  refine Drawn.take 0 (some 3) (v := ?_) rfl rfl (by kernel_rfl) (by kernel_rfl) (by kernel_rfl) (by kernel_rfl) (by kernel_rfl) rfl (fun _ _ _ h => h) (Or.inl ⟨rfl, ?_⟩) H0 ?_
  rotate_left
  · intro W hW; have hW := HS.out W hW; go_simp; try with_reducible rfl
  simp only [put_list, List.set]
  refine Drawn.only 1 (by kernel_rfl) rfl rfl (fun K hK => ?_)
  go_simp
  refine (rFrom_any 256 _).mono ?_
  rintro e w9 ⟨rfl, hb⟩
  refine hK _ _ (fun _ _ => H0.call hb) ?_
  replace H0 := H0.call hb
  clear hK K hb
  refine Drawn.only 2 (by kernel_rfl) rfl rfl (fun K hK => ?_)
  go_simp
  refine (Le.out _).mono ?_
  rintro e w9 ⟨rfl, hb⟩
  refine hK _ _ (fun _ _ => H0.call hb) ?_
  replace H0 := H0.call hb
  clear hK K hb
  refine Drawn.done (by kernel_rfl) ?_ _
  have kA := H0.row (.head _)
  replace H0 := Lib.hid H0
  go_wp2_with fail
  go_ret
  exact ⟨rfl, H0.out.below⟩

def RetI (n : Nat) (w : World) (e : Ending) (w' : World) : Prop := e = .returned (.int .i64 n) ∧ Below w.heap.size w w'
theorem far_c {x a3 a2 a1 a0 : Nat} (hx : Dig x a0 a1 a2 a3) (w : World) :
    Calls Tryd.prog 68 #[.agg #[.int .u64 a3, .int .u64 a2, .int .u64 a1, .int .u64 a0]] w (RetI (min x 256) w) := by
  by_cases h : x < 256
  · exact far_in hx h w
  · exact far_out hx h w

set_option maxRecDepth 100000 in
set_option maxHeartbeats 4000000 in
theorem rShl_d {n x b3 b2 b1 b0 a3 a2 a1 a0 : Nat} (hn : Dig n b0 b1 b2 b3) (hx : Dig x a0 a1 a2 a3) (w : World) :
    Calls Tryd.prog 35 #[.agg #[.int .u64 b3, .int .u64 b2, .int .u64 b1, .int .u64 b0], .agg #[.int .u64 a3, .int .u64 a2, .int .u64 a1, .int .u64 a0]] w (RetD (x * 2 ^ (min n 256) % W256) w) := by
  have H := ((((Fx.start w).new #[.int .u64 b3, .int .u64 b2, .int .u64 b1, .int .u64 b0] 24).new #[.int .u64 a3, .int .u64 a2, .int .u64 a1, .int .u64 a0] 24).new #[.int .u64 0, .int .u64 0, .int .u64 0, .int .u64 0] 24).1
  have HN := Lib.hid hn; have HX := Lib.hid hx
  clear hn hx
  obtain ⟨m, hm⟩ : ∃ m, m = min n 256 := ⟨_, rfl⟩
  have FA := Lib.hid (fun W => far_c HN.out W)
  rw [← hm] at FA ⊢
  have hm1 : 0 ≤ (m : Int) ∧ (m : Int) ≤ 256 := by omega
  have hneg : IntKind.i64.wrap (-(m : Int)) = -(m : Int) := IntWalk.i64_in _ (by omega)
  clear hm
  unfold RetI at FA
  go_enter Tryd.func35, Tryd.ntmps35
  go_wp2_with fail
  have H0 := H.drew
  have HS := Lib.hid (fun W (hW : Fr w w.heap.size (w.heap.size + 1 + 1 + 1) [(w.heap.size + 1 + 1, #[.int .u64 0, .int .u64 0, .int .u64 0, .int .u64 0], 24), (w.heap.size + 1, #[.int .u64 a3, .int .u64 a2, .int .u64 a1, .int .u64 a0], 24), (w.heap.size, #[.int .u64 b3, .int .u64 b2, .int .u64 b1, .int .u64 b0], 24)] W) => And.intro (hW.row (.tail _ (.head _))) (hW.row (.tail _ (.tail _ (.head _)))))
  refine Drawn.startEx (fun i => i == 5) H (by kernel_rfl) ?_
  clear H
  refine Drawn.take 0 (some 5) (v := ?_) rfl rfl (by kernel_rfl) (by kernel_rfl) (by kernel_rfl) (by kernel_rfl) (by kernel_rfl) rfl (fun _ _ _ h => h) (Or.inl ⟨rfl, ?_⟩) H0 ?_
  rotate_left
  · intro W hW; have hW := HS.out W hW; go_simp; try with_reducible rfl
  simp only [put_list, List.set]
  refine Drawn.take 1 (some 6) (v := ?_) rfl rfl (by kernel_rfl) (by kernel_rfl) (by kernel_rfl) (by kernel_rfl) (by kernel_rfl) rfl (fun _ _ _ h => h) (Or.inl ⟨rfl, ?_⟩) H0 ?_
  rotate_left
  · intro W hW; have hW := HS.out W hW; go_simp; try with_reducible rfl
  simp only [put_list, List.set]
  refine Drawn.only 2 (by kernel_rfl) rfl rfl (fun K hK => ?_)
  go_simp
  refine (FA.out _).mono ?_
  rintro e w9 ⟨rfl, hb⟩
  refine hK _ _ (fun _ _ => H0.call hb) ?_
  replace H0 := H0.call hb
  clear hK K hb
  refine Drawn.take 3 (some 8) (v := ?_) rfl rfl (by kernel_rfl) (by kernel_rfl) (by kernel_rfl) (by kernel_rfl) (by kernel_rfl) rfl (fun _ _ _ h => h) (Or.inl ⟨rfl, ?_⟩) H0 ?_
  rotate_left
  · intro W hW; have hW := HS.out W hW; go_simp; try with_reducible rfl
  simp only [put_list, List.set]
  refine Drawn.only 4 (by kernel_rfl) rfl rfl (fun K hK => ?_)
  go_simp
  refine (moved_c (n := -(m : Int)) (fill := 0) HX.out (by omega) (by omega) (by decide) _).mono ?_
  rintro e w9 ⟨p43, p42, p41, p40, rfl, hd, hb⟩
  refine hK _ _ (fun _ _ => H0.call hb) ?_
  replace H0 := H0.call hb
  clear hK K hb
  have D4 := Lib.hid hd
  clear hd
  have K0 := H0.know (_, _, _) List.mem_cons_self
  obtain ⟨⟨r0, r1, r2, r3⟩, g0, g1, g2, g3⟩ := cells4 K0.2
  replace K0 := Lib.hid K0
  refine Drawn.only 5 (by kernel_rfl) rfl rfl (fun K hK => ?_)
  go_simp
  refine hK _ _ (fun h => by simp at h) ?_
  clear hK K
  refine Drawn.done (by kernel_rfl) ?_ _
  go_wp2_with fail
  exact bodyPost_ret (results_cell_row Tryd.results35 _ _ _ _ _ _ _ rfl (heap_set4 K0.out.2 _ _ _ _) Tryd.underlying24 rfl (by kernel_rfl)) rfl
    ⟨_, _, _, _, rfl, moved_left ▸ D4.out, below_set4 H0.below (by omega) _ _ _ _⟩

set_option maxRecDepth 100000 in
set_option maxHeartbeats 4000000 in
theorem rShr_d {n x b3 b2 b1 b0 a3 a2 a1 a0 : Nat} (hn : Dig n b0 b1 b2 b3) (hx : Dig x a0 a1 a2 a3) (w : World) :
    Calls Tryd.prog 37 #[.agg #[.int .u64 b3, .int .u64 b2, .int .u64 b1, .int .u64 b0], .agg #[.int .u64 a3, .int .u64 a2, .int .u64 a1, .int .u64 a0]] w (RetD (x / 2 ^ (min n 256)) w) := by
  have H := ((((Fx.start w).new #[.int .u64 b3, .int .u64 b2, .int .u64 b1, .int .u64 b0] 24).new #[.int .u64 a3, .int .u64 a2, .int .u64 a1, .int .u64 a0] 24).new #[.int .u64 0, .int .u64 0, .int .u64 0, .int .u64 0] 24).1
  have HN := Lib.hid hn; have HX := Lib.hid hx
  clear hn hx
  obtain ⟨m, hm⟩ : ∃ m, m = min n 256 := ⟨_, rfl⟩
  have FA := Lib.hid (fun W => far_c HN.out W)
  rw [← hm] at FA ⊢
  have hm1 : 0 ≤ (m : Int) ∧ (m : Int) ≤ 256 := by omega
  clear hm
  unfold RetI at FA
  go_enter Tryd.func37, Tryd.ntmps37
  go_wp2_with fail
  have H0 := H.drew
  have HS := Lib.hid (fun W (hW : Fr w w.heap.size (w.heap.size + 1 + 1 + 1) [(w.heap.size + 1 + 1, #[.int .u64 0, .int .u64 0, .int .u64 0, .int .u64 0], 24), (w.heap.size + 1, #[.int .u64 a3, .int .u64 a2, .int .u64 a1, .int .u64 a0], 24), (w.heap.size, #[.int .u64 b3, .int .u64 b2, .int .u64 b1, .int .u64 b0], 24)] W) => And.intro (hW.row (.tail _ (.head _))) (hW.row (.tail _ (.tail _ (.head _)))))
  refine Drawn.startEx (fun i => i == 4) H (by kernel_rfl) ?_
  clear H
  refine Drawn.take 0 (some 5) (v := ?_) rfl rfl (by kernel_rfl) (by kernel_rfl) (by kernel_rfl) (by kernel_rfl) (by kernel_rfl) rfl (fun _ _ _ h => h) (Or.inl ⟨rfl, ?_⟩) H0 ?_
  rotate_left
  · intro W hW; have hW := HS.out W hW; go_simp; try with_reducible rfl
  simp only [put_list, List.set]
  refine Drawn.take 1 (some 6) (v := ?_) rfl rfl (by kernel_rfl) (by kernel_rfl) (by kernel_rfl) (by kernel_rfl) (by kernel_rfl) rfl (fun _ _ _ h => h) (Or.inl ⟨rfl, ?_⟩) H0 ?_
  rotate_left
  · intro W hW; have hW := HS.out W hW; go_simp; try with_reducible rfl
  simp only [put_list, List.set]
  refine Drawn.only 2 (by kernel_rfl) rfl rfl (fun K hK => ?_)
  go_simp
  refine (FA.out _).mono ?_
  rintro e w9 ⟨rfl, hb⟩
  refine hK _ _ (fun _ _ => H0.call hb) ?_
  replace H0 := H0.call hb
  clear hK K hb
  refine Drawn.only 3 (by kernel_rfl) rfl rfl (fun K hK => ?_)
  go_simp
  refine (moved_c (n := (m : Int)) (fill := 0) HX.out (by omega) (by omega) (by decide) _).mono ?_
  rintro e w9 ⟨p33, p32, p31, p30, rfl, hd, hb⟩
  refine hK _ _ (fun _ _ => H0.call hb) ?_
  replace H0 := H0.call hb
  clear hK K hb
  have D3 := Lib.hid hd
  clear hd
  have K0 := H0.know (_, _, _) List.mem_cons_self
  obtain ⟨⟨r0, r1, r2, r3⟩, g0, g1, g2, g3⟩ := cells4 K0.2
  replace K0 := Lib.hid K0
  refine Drawn.only 4 (by kernel_rfl) rfl rfl (fun K hK => ?_)
  go_simp
  refine hK _ _ (fun h => by simp at h) ?_
  clear hK K
  refine Drawn.done (by kernel_rfl) ?_ _
  go_wp2_with fail
  exact bodyPost_ret (results_cell_row Tryd.results37 _ _ _ _ _ _ _ rfl (heap_set4 K0.out.2 _ _ _ _) Tryd.underlying24 rfl (by kernel_rfl)) rfl
    ⟨_, _, _, _, rfl, (moved_right HX.out.lt) ▸ D3.out, below_set4 H0.below (by omega) _ _ _ _⟩

end Go.Proofs.YtofoiifckkafcaaDoor
