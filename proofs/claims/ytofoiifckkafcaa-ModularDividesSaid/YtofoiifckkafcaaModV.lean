/- The contract of ModularDivides. -/
import Derived.Test.YtofoiifckkafcaaModL
namespace Go.Proofs.Ytofoiifckkafcaa
open Go.RowKit
attribute [local go_sem ↓] Go.wp_at_zero Go.wp_at_succ

theorem sgn_zero (t : Bool) : sgn 0 t = 0 := by unfold sgn; split <;> simp
theorem mag_zero : mag 0 = 0 := sgn_zero _
theorem mag_pos {x : Nat} (hx : x < W256) (h : x ≠ 0) : 0 < mag x := by
  unfold mag sgn neg
  split
  · rw [show 0 + W256 - x = W256 - x by omega, Nat.mod_eq_of_lt (by omega)]; omega
  · omega
theorem mag_le {x : Nat} (hx : x < W256) : mag x ≤ W256 / 2 := by
  unfold mag sgn neg
  split
  · rename_i h
    have h' := of_decide_eq_true h
    unfold W256 M64 at *
    omega
  · rename_i h
    have h' : ¬ W256 / 2 ≤ x := fun k => h (decide_eq_true k)
    omega
theorem sgn_int {z : Nat} (hz : z < W256) (t : Bool) : ∃ k : Int, ((sgn z t : Nat) : Int) = (if t then -1 else 1) * (z : Int) + (W256 : Int) * k := by
  unfold sgn
  cases t
  · exact ⟨0, by simp⟩
  · rcases Nat.eq_zero_or_pos z with rfl | hp
    · exact ⟨0, by simp⟩
    · refine ⟨1, ?_⟩
      simp only [if_true]
      rw [show 0 + W256 - z = W256 - z by omega, Nat.mod_eq_of_lt (by omega)]
      omega
theorem mag_int {x : Nat} (hx : x < W256) : ∃ k : Int, (x : Int) = (if neg x then -1 else 1) * (mag x : Int) + (W256 : Int) * k := by
  unfold mag
  cases h : neg x
  · exact ⟨0, by simp [sgn]⟩
  · have h' := of_decide_eq_true h
    refine ⟨1, ?_⟩
    simp only [sgn, if_true]
    have hW : 0 < W256 / 2 := by decide +kernel
    rw [show 0 + W256 - x = W256 - x by omega, Nat.mod_eq_of_lt (by omega)]
    omega

theorem sdiv_back {x y : Nat} (hx : x < W256) (hy : y < W256) (h0 : y ≠ 0) :
    (sgn (mag x / mag y) (neg x != neg y) * y % W256 + sgn (modOf (mag x) (mag y)) (neg x)) % W256 = x := by
  have hY := mag_pos hy h0
  have hX := mag_le hx
  have hW : W256 / 2 < W256 := by decide +kernel
  have hm : modOf (mag x) (mag y) = mag x % mag y := if_neg (by omega)
  rw [hm]
  have e := Nat.div_add_mod (mag x) (mag y)
  have hQ : mag x / mag y < W256 := by have := Nat.div_le_self (mag x) (mag y); omega
  have hR : mag x % mag y < W256 := by have := Nat.mod_le (mag x) (mag y); omega
  obtain ⟨k1, e1⟩ := sgn_int hQ (neg x != neg y)
  obtain ⟨k2, e2⟩ := mag_int hy
  obtain ⟨k3, e3⟩ := sgn_int hR (neg x)
  obtain ⟨k4, e4⟩ := mag_int hx
  have hr : sgn (mag x % mag y) (neg x) < W256 := by
    unfold sgn; split
    · exact Nat.mod_lt _ (by omega)
    · exact hR
  generalize sgn (mag x / mag y) (neg x != neg y) = q at *
  generalize sgn (mag x % mag y) (neg x) = r at *
  generalize mag x % mag y = R at *
  generalize mag x / mag y = Q at *
  generalize mag x = X at *
  generalize mag y = Y at *
  have f1 : (q : Int) * (y : Int) = (if neg y then -1 else 1) * ((q : Int) * (Y : Int)) + (W256 : Int) * ((q : Int) * k2) := by
    rw [e2, Int.mul_add, Int.mul_left_comm (q : Int) (if neg y then -1 else 1 : Int), Int.mul_left_comm (q : Int) (W256 : Int)]
  have f2 : (q : Int) * (Y : Int) = (if (neg x != neg y) then -1 else 1) * ((Y : Int) * (Q : Int)) + (W256 : Int) * (k1 * (Y : Int)) := by
    rw [e1, Int.add_mul, Int.mul_assoc, Int.mul_assoc, Int.mul_comm (Q : Int)]
  have f3 : (Y : Int) * (Q : Int) + (R : Int) = (X : Int) := by rw [← e]; simp
  rw [f2] at f1
  have f4 : ((q * y : Nat) : Int) = (q : Int) * (y : Int) := by simp
  rw [f1] at f4
  generalize q * y = E at *
  generalize (Y : Int) * (Q : Int) = A at *
  generalize k1 * (Y : Int) = B at *
  generalize (q : Int) * k2 = C at *
  clear e e1 e2 f1 f2 hQ hR hX hY hm h0
  generalize neg x = s at *
  generalize neg y = t at *
  cases s <;> cases t <;> simp at e3 e4 f4 <;> unfold W256 M64 at * <;> omega

theorem smod_sign {x y : Nat} (hx : x < W256) (hy : y < W256) (h0 : y ≠ 0) (hr : sgn (modOf (mag x) (mag y)) (neg x) ≠ 0) : neg (sgn (modOf (mag x) (mag y)) (neg x)) = neg x := by
  have hY := mag_pos hy h0
  have hX := mag_le hx
  have hm : modOf (mag x) (mag y) = mag x % mag y := if_neg (by omega)
  rw [hm] at hr ⊢
  have hR := Nat.mod_le (mag x) (mag y)
  have hp : mag x % mag y ≠ 0 := fun h => hr (by rw [h]; exact sgn_zero _)
  cases hs : neg x
  · have hlt : mag x = x := by unfold mag sgn; rw [hs]; simp
    rw [hlt] at hR
    have h' : ¬ W256 / 2 ≤ x := of_decide_eq_false hs
    rw [hlt]
    simp only [sgn]
    exact decide_eq_false (by simp; omega)
  · generalize mag x % mag y = R at *
    simp only [sgn, if_true]
    rw [show 0 + W256 - R = W256 - R by omega, Nat.mod_eq_of_lt (by unfold W256 M64 at *; omega)]
    exact decide_eq_true (by unfold W256 M64 at *; omega)

set_option maxRecDepth 100000 in
set_option maxHeartbeats 16000000 in
theorem sdivides_zero {x a3 a2 a1 a0 : Nat} (hx : Dig x a0 a1 a2 a3) (w : World) :
    Calls Try.prog 4 #[.agg #[.int .u64 a3, .int .u64 a2, .int .u64 a1, .int .u64 a0], .agg #[.int .u64 (0 : Nat), .int .u64 (0 : Nat), .int .u64 (0 : Nat), .int .u64 (0 : Nat)]] w fun e w' => e = .returned (.bool true) ∧ Below w.heap.size w w' := by
  have H := (((Fx.start w).new #[.int .u64 a3, .int .u64 a2, .int .u64 a1, .int .u64 a0] 24).new #[.int .u64 0, .int .u64 0, .int .u64 0, .int .u64 0] 24).1
  have HA := Lib.hid hx
  have HE := Lib.hid (fun w => eq_words 0 0 0 0 0 0 0 0 w)
  clear hx
  go_enter Try.func4, Try.ntmps4
  go_wp2_with fail
  refine (examples2_c _).mono ?_
  rintro e w1 ⟨rfl, hb1⟩
  have H1 := H.call hb1
  have kA := H1.row (.tail _ (.head _)); have kB := H1.row (.head _)
  replace H1 := Lib.hid H1
  clear hb1 H
  go_wp2_with fail
  refine (SDiv_c HA.out dig_zero _).mono ?_
  rintro e w2 ⟨q3, q2, q1, q0, rfl, hq, hb2⟩
  obtain ⟨rfl, rfl, rfl, rfl⟩ := Dig.same hq dig_zero (by rw [mag_zero, Nat.div_zero, sgn_zero])
  have H2 := ((H1.out.call hb2).up).new #[.int .u64 0, .int .u64 0, .int .u64 0, .int .u64 0] 24
  have kA := (H1.out.call hb2).row (.tail _ (.head _)); have kB := (H1.out.call hb2).row (.head _)
  have nA := (H1.out.call hb2).lt (.tail _ (.head _)); have nB := (H1.out.call hb2).lt (.head _)
  replace H2 := Lib.hid H2; have HQ := Lib.hid hq
  clear hb2 H1 hq
  go_wp2_with fail
  refine (SMod_c HA.out dig_zero _).mono ?_
  rintro e w3 ⟨r3, r2, r1, r0, rfl, hr, hb3⟩
  obtain ⟨rfl, rfl, rfl, rfl⟩ := Dig.same hr dig_zero (by rw [mag_zero, show modOf (mag x) 0 = 0 from if_pos rfl, sgn_zero])
  have HX3 : Fx w w.heap.size w3.heap.size _ w3 := ⟨(H2.out.call hb3).up, rfl⟩
  have H3 := ((HX3.new #[.int .u64 0, .int .u64 0, .int .u64 0, .int .u64 0] 24).new #[.int .u64 0, .int .u64 0, .int .u64 0, .int .u64 0] 24).1
  replace H3 := Lib.hid H3; have HR := Lib.hid hr
  clear hb3 H2 hr kA nA kB nB HX3
  go_upto_region 7 with fail
  replace H3 := H3.out
  generalize World.alloc _ _ = WZ at H3 ⊢
  have kZ := H3.row (.head _); have kR := H3.row (.tail _ (.head _)); have kQ := H3.row (.tail _ (.tail _ (.head _))); have kB := H3.row (.tail _ (.tail _ (.tail _ (.head _))))
  replace H3 := Lib.hid H3
  have hE := HE.out
  try simp only [Int.natCast_zero] at hE
  go_wp2_with fail
  go_ret
  exact ⟨rfl, H3.out.below⟩

set_option maxRecDepth 100000 in
set_option maxHeartbeats 16000000 in
theorem sdivides_some {x y a3 a2 a1 a0 b3 b2 b1 b0 : Nat} (hx : Dig x a0 a1 a2 a3) (hy : Dig y b0 b1 b2 b3) (h0 : y ≠ 0) (w : World) :
    Calls Try.prog 4 #[.agg #[.int .u64 a3, .int .u64 a2, .int .u64 a1, .int .u64 a0], .agg #[.int .u64 b3, .int .u64 b2, .int .u64 b1, .int .u64 b0]] w fun e w' => e = .returned (.bool true) ∧ Below w.heap.size w w' := by
  have H := (((Fx.start w).new #[.int .u64 a3, .int .u64 a2, .int .u64 a1, .int .u64 a0] 24).new #[.int .u64 b3, .int .u64 b2, .int .u64 b1, .int .u64 b0] 24).1
  have HA := Lib.hid hx
  have HB := Lib.hid hy; have H0y := Lib.hid h0; have HE := Lib.hid (fun w => eq_word_not hy dig_zero h0 w)
  clear hx hy h0
  go_enter Try.func4, Try.ntmps4
  go_wp2_with fail
  refine (examples2_c _).mono ?_
  rintro e w1 ⟨rfl, hb1⟩
  have H1 := H.call hb1
  have kA := H1.row (.tail _ (.head _)); have kB := H1.row (.head _)
  replace H1 := Lib.hid H1
  clear hb1 H
  go_wp2_with fail
  refine (SDiv_c HA.out HB.out _).mono ?_
  rintro e w2 ⟨q3, q2, q1, q0, rfl, hq, hb2⟩
  have H2 := ((H1.out.call hb2).up).new #[.int .u64 q3, .int .u64 q2, .int .u64 q1, .int .u64 q0] 24
  have kA := (H1.out.call hb2).row (.tail _ (.head _)); have kB := (H1.out.call hb2).row (.head _)
  have nA := (H1.out.call hb2).lt (.tail _ (.head _)); have nB := (H1.out.call hb2).lt (.head _)
  replace H2 := Lib.hid H2; have HQ := Lib.hid hq
  clear hb2 H1 hq
  go_wp2_with fail
  refine (SMod_c HA.out HB.out _).mono ?_
  rintro e w3 ⟨r3, r2, r1, r0, rfl, hr, hb3⟩
  have HX3 : Fx w w.heap.size w3.heap.size _ w3 := ⟨(H2.out.call hb3).up, rfl⟩
  have H3 := ((HX3.new #[.int .u64 r3, .int .u64 r2, .int .u64 r1, .int .u64 r0] 24).new #[.int .u64 0, .int .u64 0, .int .u64 0, .int .u64 0] 24).1
  replace H3 := Lib.hid H3; have HR := Lib.hid hr
  clear hb3 H2 hr kA nA kB nB HX3
  go_upto_region 7 with fail
  replace H3 := H3.out
  generalize World.alloc _ _ = WZ at H3 ⊢
  have kZ := H3.row (.head _); have kR := H3.row (.tail _ (.head _)); have kQ := H3.row (.tail _ (.tail _ (.head _))); have kB := H3.row (.tail _ (.tail _ (.tail _ (.head _))))
  replace H3 := Lib.hid H3
  have hE := HE.out
  try simp only [Int.natCast_zero] at hE
  go_wp2_with fail
  clear kB kQ kR kZ hE HE
  have H0 := H3.out.drew
  by_cases hr0 : sgn (modOf (mag x) (mag y)) (neg x) = 0
  · skip
    obtain ⟨rfl, rfl, rfl, rfl⟩ := Dig.same HR.out dig_zero hr0
    clear hr0
    have HS := Lib.hid (fun W (hW : Fr w w.heap.size (w3.heap.size + 1 + 1) [(w3.heap.size + 1, #[.int .u64 0, .int .u64 0, .int .u64 0, .int .u64 0], 24), (w3.heap.size, #[.int .u64 0, .int .u64 0, .int .u64 0, .int .u64 0], 24), (w2.heap.size, #[.int .u64 q3, .int .u64 q2, .int .u64 q1, .int .u64 q0], 24), (w.heap.size + 1, #[.int .u64 b3, .int .u64 b2, .int .u64 b1, .int .u64 b0], 24), (w.heap.size, #[.int .u64 a3, .int .u64 a2, .int .u64 a1, .int .u64 a0], 24)] W) => And.intro (hW.row (.head _)) (And.intro (hW.row (.tail _ (.head _))) (And.intro (hW.row (.tail _ (.tail _ (.head _)))) (And.intro (hW.row (.tail _ (.tail _ (.tail _ (.head _))))) (hW.row (.tail _ (.tail _ (.tail _ (.tail _ (.head _))))))))))
    refine Drawn.start (Fr w w.heap.size (w3.heap.size + 1 + 1) [(w3.heap.size + 1, #[.int .u64 0, .int .u64 0, .int .u64 0, .int .u64 0], 24), (w3.heap.size, #[.int .u64 0, .int .u64 0, .int .u64 0, .int .u64 0], 24), (w2.heap.size, #[.int .u64 q3, .int .u64 q2, .int .u64 q1, .int .u64 q0], 24), (w.heap.size + 1, #[.int .u64 b3, .int .u64 b2, .int .u64 b1, .int .u64 b0], 24), (w.heap.size, #[.int .u64 a3, .int .u64 a2, .int .u64 a1, .int .u64 a0], 24)]) (fun _ => false) (by kernel_rfl) ?_
    refine Drawn.take 0 (some 33) (v := ?_) rfl rfl (by kernel_rfl) (by kernel_rfl) (by kernel_rfl) (by kernel_rfl) (by kernel_rfl) rfl (fun _ _ _ h => h) (Or.inl ⟨rfl, ?_⟩) H0 ?_
    rotate_left
    · intro W hW; have hW := HS.out W hW; go_simp; try with_reducible rfl
    simp only [put_list, List.set]
    refine Drawn.take 1 (some 34) (v := ?_) rfl rfl (by kernel_rfl) (by kernel_rfl) (by kernel_rfl) (by kernel_rfl) (by kernel_rfl) rfl (fun _ _ _ h => h) (Or.inl ⟨rfl, ?_⟩) H0 ?_
    rotate_left
    · intro W hW; have hW := HS.out W hW; go_simp; try with_reducible rfl
    simp only [put_list, List.set]
    refine Drawn.take 2 (some 35) (v := ?_) rfl rfl (by kernel_rfl) (by kernel_rfl) (by kernel_rfl) (by kernel_rfl) (by kernel_rfl) rfl (fun _ _ _ h => h) (Or.inl ⟨rfl, ?_⟩) H0 ?_
    rotate_left
    · intro W hW; have hW := HS.out W hW; go_simp; try with_reducible rfl
    simp only [put_list, List.set]
    refine Drawn.take 3 (some 36) (v := ?_) rfl rfl (by kernel_rfl) (by kernel_rfl) (by kernel_rfl) (by kernel_rfl) (by kernel_rfl) rfl (fun _ _ _ h => h) (Or.inl ⟨rfl, ?_⟩) H0 ?_
    rotate_left
    · intro W hW; have hW := HS.out W hW; go_simp; try with_reducible rfl
    simp only [put_list, List.set]
    refine Drawn.take 5 (some 38) (v := ?_) rfl rfl (by kernel_rfl) (by kernel_rfl) (by kernel_rfl) (by kernel_rfl) (by kernel_rfl) rfl (fun _ _ _ h => h) (Or.inl ⟨rfl, ?_⟩) H0 ?_
    rotate_left
    · intro W hW; have hW := HS.out W hW; go_simp; try with_reducible rfl
    simp only [put_list, List.set]
    refine Drawn.take 7 (some 40) (v := ?_) rfl rfl (by kernel_rfl) (by kernel_rfl) (by kernel_rfl) (by kernel_rfl) (by kernel_rfl) rfl (fun _ _ _ h => h) (Or.inl ⟨rfl, ?_⟩) H0 ?_
    rotate_left
    · intro W hW; have hW := HS.out W hW; go_simp; try with_reducible rfl
    simp only [put_list, List.set]
    refine Drawn.only 4 (by kernel_rfl) rfl rfl (fun K hK => ?_)
    go_simp
    refine (Mul_d HQ.out HB.out _).mono ?_
    rintro e w9 ⟨p43, p42, p41, p40, rfl, hd, hb⟩
    refine hK _ _ (fun _ _ => H0.call hb) ?_
    replace H0 := H0.call hb
    clear hK K hb
    have D4 := Lib.hid hd
    clear hd
    refine Drawn.only 6 (by kernel_rfl) rfl rfl (fun K hK => ?_)
    go_simp
    refine (Add_d D4.out HR.out _).mono ?_
    rintro e w9 ⟨p63, p62, p61, p60, rfl, hd, hb⟩
    refine hK _ _ (fun _ _ => H0.call hb) ?_
    replace H0 := H0.call hb
    clear hK K hb
    have D6 := Lib.hid hd
    clear hd
    obtain ⟨rfl, rfl, rfl, rfl⟩ := Dig.same D6.out HA.out (sdiv_back HA.out.lt HB.out.lt H0y.out)
    refine Drawn.take 8 (some 41) (v := ?_) rfl rfl (by kernel_rfl) (by kernel_rfl) (by kernel_rfl) (by kernel_rfl) (by kernel_rfl) rfl (fun _ _ _ h => h) (Or.inl ⟨rfl, ?_⟩) H0 ?_
    rotate_left
    · intro W hW; have hW := HS.out W hW; go_simp; try with_reducible rfl
    simp only [put_list, List.set]
    refine Drawn.take 9 (some 42) (v := ?_) rfl rfl (by kernel_rfl) (by kernel_rfl) (by kernel_rfl) (by kernel_rfl) (by kernel_rfl) rfl (fun _ _ _ h => h) (Or.inl ⟨rfl, ?_⟩) H0 ?_
    rotate_left
    · intro W hW; have hW := HS.out W hW; go_simp; try with_reducible rfl
    simp only [put_list, List.set]
    refine Drawn.take 10 (some 43) (v := ?_) rfl rfl (by kernel_rfl) (by kernel_rfl) (by kernel_rfl) (by kernel_rfl) (by kernel_rfl) rfl (fun _ _ _ h => h) (Or.inl ⟨rfl, ?_⟩) H0 ?_
    rotate_left
    · intro W hW; have hW := HS.out W hW; go_simp; try with_reducible rfl
    simp only [put_list, List.set]
    refine Drawn.take 11 (some 44) (v := ?_) rfl rfl (by kernel_rfl) (by kernel_rfl) (by kernel_rfl) (by kernel_rfl) (by kernel_rfl) rfl (fun _ _ _ h => h) (Or.inl ⟨rfl, ?_⟩) H0 ?_
    rotate_left
    · intro W hW; have hW := HS.out W hW; go_simp; try with_reducible rfl
    simp only [put_list, List.set]
    refine Drawn.take 12 (some 45) (v := ?_) rfl rfl (by kernel_rfl) (by kernel_rfl) (by kernel_rfl) (by kernel_rfl) (by kernel_rfl) rfl (fun _ _ _ h => h) (Or.inl ⟨rfl, ?_⟩) H0 ?_
    rotate_left
    · intro W hW; have hW := HS.out W hW; go_simp; try with_reducible rfl
    simp only [put_list, List.set]
    refine Drawn.take 13 (some 46) (v := ?_) rfl rfl (by kernel_rfl) (by kernel_rfl) (by kernel_rfl) (by kernel_rfl) (by kernel_rfl) rfl (fun _ _ _ h => h) (Or.inl ⟨rfl, ?_⟩) H0 ?_
    rotate_left
    · intro W hW; have hW := HS.out W hW; go_simp; try with_reducible rfl
    simp only [put_list, List.set]
    refine Drawn.take 14 (some 47) (v := ?_) rfl rfl (by kernel_rfl) (by kernel_rfl) (by kernel_rfl) (by kernel_rfl) (by kernel_rfl) rfl (fun _ _ _ h => h) (Or.inl ⟨rfl, ?_⟩) H0 ?_
    rotate_left
    · intro W hW; have hW := HS.out W hW; go_simp; try with_reducible rfl
    simp only [put_list, List.set]
    refine Drawn.take 15 (some 48) (v := undef) rfl rfl (by kernel_rfl) (by kernel_rfl) (by kernel_rfl) (by kernel_rfl) (by kernel_rfl) rfl (fun _ _ _ h => h) (Or.inr ⟨rfl, rfl⟩) H0 ?_
    simp only [put_list, List.set]
    refine Drawn.take 16 (some 49) (v := undef) rfl rfl (by kernel_rfl) (by kernel_rfl) (by kernel_rfl) (by kernel_rfl) (by kernel_rfl) rfl (fun _ _ _ h => h) (Or.inr ⟨rfl, rfl⟩) H0 ?_
    simp only [put_list, List.set]
    refine Drawn.take 17 (some 50) (v := undef) rfl rfl (by kernel_rfl) (by kernel_rfl) (by kernel_rfl) (by kernel_rfl) (by kernel_rfl) rfl (fun _ _ _ h => h) (Or.inr ⟨rfl, rfl⟩) H0 ?_
    simp only [put_list, List.set]
    refine Drawn.take 18 (some 51) (v := undef) rfl rfl (by kernel_rfl) (by kernel_rfl) (by kernel_rfl) (by kernel_rfl) (by kernel_rfl) rfl (fun _ _ _ h => h) (Or.inr ⟨rfl, rfl⟩) H0 ?_
    simp only [put_list, List.set]
    refine Drawn.take 19 (some 52) (v := undef) rfl rfl (by kernel_rfl) (by kernel_rfl) (by kernel_rfl) (by kernel_rfl) (by kernel_rfl) rfl (fun _ _ _ h => h) (Or.inr ⟨rfl, rfl⟩) H0 ?_
    simp only [put_list, List.set]
    refine Drawn.take 20 (some 53) (v := undef) rfl rfl (by kernel_rfl) (by kernel_rfl) (by kernel_rfl) (by kernel_rfl) (by kernel_rfl) rfl (fun _ _ _ h => h) (Or.inr ⟨rfl, rfl⟩) H0 ?_
    simp only [put_list, List.set]
    refine Drawn.take 21 (some 54) (v := undef) rfl rfl (by kernel_rfl) (by kernel_rfl) (by kernel_rfl) (by kernel_rfl) (by kernel_rfl) rfl (fun _ _ _ h => h) (Or.inr ⟨rfl, rfl⟩) H0 ?_
    simp only [put_list, List.set]
    refine Drawn.take 22 (some 55) (v := ?_) rfl rfl (by kernel_rfl) (by kernel_rfl) (by kernel_rfl) (by kernel_rfl) (by kernel_rfl) rfl (fun _ _ _ h => h) (Or.inl ⟨rfl, ?_⟩) H0 ?_
    rotate_left
    · intro W hW; have hW := HS.out W hW; go_simp; try with_reducible rfl
    simp only [put_list, List.set]
    refine Drawn.take 23 (some 56) (v := ?_) rfl rfl (by kernel_rfl) (by kernel_rfl) (by kernel_rfl) (by kernel_rfl) (by kernel_rfl) rfl (fun _ _ _ h => h) (Or.inl ⟨rfl, ?_⟩) H0 ?_
    rotate_left
    · intro W hW; have hW := HS.out W hW; go_simp; try with_reducible rfl
    simp only [put_list, List.set]
    refine Drawn.take 24 (some 4) (v := ?_) rfl rfl (by kernel_rfl) (by kernel_rfl) (by kernel_rfl) (by kernel_rfl) (by kernel_rfl) rfl (fun _ _ _ h => h) (Or.inl ⟨rfl, ?_⟩) H0 ?_
    rotate_left
    · intro W hW; have hW := HS.out W hW; go_simp; try with_reducible rfl
    simp only [put_list, List.set]
    refine Drawn.done (by kernel_rfl) ?_ _
    go_wp2
    go_ret
    exact ⟨rfl, H0.below⟩
  · skip
    have HSg := Lib.hid (smod_sign HA.out.lt HB.out.lt H0y.out hr0)
    have hE := fun W => eq_word_not HR.out dig_zero hr0 W
    simp only [Int.natCast_zero] at hE
    clear hr0
    have HS := Lib.hid (fun W (hW : Fr w w.heap.size (w3.heap.size + 1 + 1) [(w3.heap.size + 1, #[.int .u64 0, .int .u64 0, .int .u64 0, .int .u64 0], 24), (w3.heap.size, #[.int .u64 r3, .int .u64 r2, .int .u64 r1, .int .u64 r0], 24), (w2.heap.size, #[.int .u64 q3, .int .u64 q2, .int .u64 q1, .int .u64 q0], 24), (w.heap.size + 1, #[.int .u64 b3, .int .u64 b2, .int .u64 b1, .int .u64 b0], 24), (w.heap.size, #[.int .u64 a3, .int .u64 a2, .int .u64 a1, .int .u64 a0], 24)] W) => And.intro (hW.row (.head _)) (And.intro (hW.row (.tail _ (.head _))) (And.intro (hW.row (.tail _ (.tail _ (.head _)))) (And.intro (hW.row (.tail _ (.tail _ (.tail _ (.head _))))) (hW.row (.tail _ (.tail _ (.tail _ (.tail _ (.head _))))))))))
    refine Drawn.start (Fr w w.heap.size (w3.heap.size + 1 + 1) [(w3.heap.size + 1, #[.int .u64 0, .int .u64 0, .int .u64 0, .int .u64 0], 24), (w3.heap.size, #[.int .u64 r3, .int .u64 r2, .int .u64 r1, .int .u64 r0], 24), (w2.heap.size, #[.int .u64 q3, .int .u64 q2, .int .u64 q1, .int .u64 q0], 24), (w.heap.size + 1, #[.int .u64 b3, .int .u64 b2, .int .u64 b1, .int .u64 b0], 24), (w.heap.size, #[.int .u64 a3, .int .u64 a2, .int .u64 a1, .int .u64 a0], 24)]) (fun _ => false) (by kernel_rfl) ?_
    refine Drawn.take 0 (some 33) (v := ?_) rfl rfl (by kernel_rfl) (by kernel_rfl) (by kernel_rfl) (by kernel_rfl) (by kernel_rfl) rfl (fun _ _ _ h => h) (Or.inl ⟨rfl, ?_⟩) H0 ?_
    rotate_left
    · intro W hW; have hW := HS.out W hW; go_simp; try with_reducible rfl
    simp only [put_list, List.set]
    refine Drawn.take 1 (some 34) (v := ?_) rfl rfl (by kernel_rfl) (by kernel_rfl) (by kernel_rfl) (by kernel_rfl) (by kernel_rfl) rfl (fun _ _ _ h => h) (Or.inl ⟨rfl, ?_⟩) H0 ?_
    rotate_left
    · intro W hW; have hW := HS.out W hW; go_simp; try with_reducible rfl
    simp only [put_list, List.set]
    refine Drawn.take 2 (some 35) (v := ?_) rfl rfl (by kernel_rfl) (by kernel_rfl) (by kernel_rfl) (by kernel_rfl) (by kernel_rfl) rfl (fun _ _ _ h => h) (Or.inl ⟨rfl, ?_⟩) H0 ?_
    rotate_left
    · intro W hW; have hW := HS.out W hW; go_simp; try with_reducible rfl
    simp only [put_list, List.set]
    refine Drawn.take 3 (some 36) (v := ?_) rfl rfl (by kernel_rfl) (by kernel_rfl) (by kernel_rfl) (by kernel_rfl) (by kernel_rfl) rfl (fun _ _ _ h => h) (Or.inl ⟨rfl, ?_⟩) H0 ?_
    rotate_left
    · intro W hW; have hW := HS.out W hW; go_simp; try with_reducible rfl
    simp only [put_list, List.set]
    refine Drawn.take 5 (some 38) (v := ?_) rfl rfl (by kernel_rfl) (by kernel_rfl) (by kernel_rfl) (by kernel_rfl) (by kernel_rfl) rfl (fun _ _ _ h => h) (Or.inl ⟨rfl, ?_⟩) H0 ?_
    rotate_left
    · intro W hW; have hW := HS.out W hW; go_simp; try with_reducible rfl
    simp only [put_list, List.set]
    refine Drawn.take 7 (some 40) (v := ?_) rfl rfl (by kernel_rfl) (by kernel_rfl) (by kernel_rfl) (by kernel_rfl) (by kernel_rfl) rfl (fun _ _ _ h => h) (Or.inl ⟨rfl, ?_⟩) H0 ?_
    rotate_left
    · intro W hW; have hW := HS.out W hW; go_simp; try with_reducible rfl
    simp only [put_list, List.set]
    refine Drawn.only 4 (by kernel_rfl) rfl rfl (fun K hK => ?_)
    go_simp
    refine (Mul_d HQ.out HB.out _).mono ?_
    rintro e w9 ⟨p43, p42, p41, p40, rfl, hd, hb⟩
    refine hK _ _ (fun _ _ => H0.call hb) ?_
    replace H0 := H0.call hb
    clear hK K hb
    have D4 := Lib.hid hd
    clear hd
    refine Drawn.only 6 (by kernel_rfl) rfl rfl (fun K hK => ?_)
    go_simp
    refine (Add_d D4.out HR.out _).mono ?_
    rintro e w9 ⟨p63, p62, p61, p60, rfl, hd, hb⟩
    refine hK _ _ (fun _ _ => H0.call hb) ?_
    replace H0 := H0.call hb
    clear hK K hb
    have D6 := Lib.hid hd
    clear hd
    obtain ⟨rfl, rfl, rfl, rfl⟩ := Dig.same D6.out HA.out (sdiv_back HA.out.lt HB.out.lt H0y.out)
    refine Drawn.take 8 (some 41) (v := ?_) rfl rfl (by kernel_rfl) (by kernel_rfl) (by kernel_rfl) (by kernel_rfl) (by kernel_rfl) rfl (fun _ _ _ h => h) (Or.inl ⟨rfl, ?_⟩) H0 ?_
    rotate_left
    · intro W hW; have hW := HS.out W hW; go_simp; try with_reducible rfl
    simp only [put_list, List.set]
    refine Drawn.take 9 (some 42) (v := ?_) rfl rfl (by kernel_rfl) (by kernel_rfl) (by kernel_rfl) (by kernel_rfl) (by kernel_rfl) rfl (fun _ _ _ h => h) (Or.inl ⟨rfl, ?_⟩) H0 ?_
    rotate_left
    · intro W hW; have hW := HS.out W hW; go_simp; try with_reducible rfl
    simp only [put_list, List.set]
    refine Drawn.take 10 (some 43) (v := ?_) rfl rfl (by kernel_rfl) (by kernel_rfl) (by kernel_rfl) (by kernel_rfl) (by kernel_rfl) rfl (fun _ _ _ h => h) (Or.inl ⟨rfl, ?_⟩) H0 ?_
    rotate_left
    · intro W hW; have hW := HS.out W hW; go_simp; try with_reducible rfl
    simp only [put_list, List.set]
    refine Drawn.take 11 (some 44) (v := ?_) rfl rfl (by kernel_rfl) (by kernel_rfl) (by kernel_rfl) (by kernel_rfl) (by kernel_rfl) rfl (fun _ _ _ h => h) (Or.inl ⟨rfl, ?_⟩) H0 ?_
    rotate_left
    · intro W hW; have hW := HS.out W hW; go_simp; try with_reducible rfl
    simp only [put_list, List.set]
    refine Drawn.take 12 (some 45) (v := ?_) rfl rfl (by kernel_rfl) (by kernel_rfl) (by kernel_rfl) (by kernel_rfl) (by kernel_rfl) rfl (fun _ _ _ h => h) (Or.inl ⟨rfl, ?_⟩) H0 ?_
    rotate_left
    · intro W hW; have hW := HS.out W hW; go_simp; try with_reducible rfl
    simp only [put_list, List.set]
    refine Drawn.take 13 (some 46) (v := ?_) rfl rfl (by kernel_rfl) (by kernel_rfl) (by kernel_rfl) (by kernel_rfl) (by kernel_rfl) rfl (fun _ _ _ h => h) (Or.inl ⟨rfl, ?_⟩) H0 ?_
    rotate_left
    · intro W hW; have hW := HS.out W hW; go_simp; try with_reducible rfl
    simp only [put_list, List.set]
    clear hE
    refine Drawn.take 14 (some 47) (v := ?_) rfl rfl (by kernel_rfl) (by kernel_rfl) (by kernel_rfl) (by kernel_rfl) (by kernel_rfl) rfl (fun _ _ _ h => h) (Or.inl ⟨rfl, ?_⟩) H0 ?_
    rotate_left
    · intro W hW; have hW := HS.out W hW; go_simp; try with_reducible rfl
    simp only [put_list, List.set]
    refine Drawn.take 15 (some 48) (v := ?_) rfl rfl (by kernel_rfl) (by kernel_rfl) (by kernel_rfl) (by kernel_rfl) (by kernel_rfl) rfl (fun _ _ _ h => h) (Or.inl ⟨rfl, ?_⟩) H0 ?_
    rotate_left
    · intro W hW; have hW := HS.out W hW; go_simp; try with_reducible rfl
    simp only [put_list, List.set]
    refine Drawn.take 16 (some 49) (v := ?_) rfl rfl (by kernel_rfl) (by kernel_rfl) (by kernel_rfl) (by kernel_rfl) (by kernel_rfl) rfl (fun _ _ _ h => h) (Or.inl ⟨rfl, ?_⟩) H0 ?_
    rotate_left
    · intro W hW; have hW := HS.out W hW; go_simp; try with_reducible rfl
    simp only [put_list, List.set]
    refine Drawn.take 18 (some 51) (v := ?_) rfl rfl (by kernel_rfl) (by kernel_rfl) (by kernel_rfl) (by kernel_rfl) (by kernel_rfl) rfl (fun _ _ _ h => h) (Or.inl ⟨rfl, ?_⟩) H0 ?_
    rotate_left
    · intro W hW; have hW := HS.out W hW; go_simp; try with_reducible rfl
    simp only [put_list, List.set]
    refine Drawn.take 19 (some 52) (v := ?_) rfl rfl (by kernel_rfl) (by kernel_rfl) (by kernel_rfl) (by kernel_rfl) (by kernel_rfl) rfl (fun _ _ _ h => h) (Or.inl ⟨rfl, ?_⟩) H0 ?_
    rotate_left
    · intro W hW; have hW := HS.out W hW; go_simp; try with_reducible rfl
    simp only [put_list, List.set]
    refine Drawn.only 17 (by kernel_rfl) rfl rfl (fun K hK => ?_)
    go_simp
    refine (Below_neg HR.out _ HSg.out _).mono ?_
    rintro e w9 ⟨rfl, hb⟩
    refine hK _ _ (fun _ _ => H0.call hb) ?_
    replace H0 := H0.call hb
    clear hK K hb
    refine Drawn.only 20 (by kernel_rfl) rfl rfl (fun K hK => ?_)
    go_simp
    refine (Below_neg HA.out _ rfl _).mono ?_
    rintro e w9 ⟨rfl, hb⟩
    refine hK _ _ (fun _ _ => H0.call hb) ?_
    replace H0 := H0.call hb
    clear hK K hb
    refine Drawn.take 21 (some 54) (v := ?_) rfl rfl (by kernel_rfl) (by kernel_rfl) (by kernel_rfl) (by kernel_rfl) (by kernel_rfl) rfl (fun _ _ _ h => h) (Or.inl ⟨rfl, ?_⟩) H0 ?_
    rotate_left
    · intro W hW; have hW := HS.out W hW; go_simp; try with_reducible rfl
    simp only [put_list, List.set]
    refine Drawn.take 22 (some 55) (v := ?_) rfl rfl (by kernel_rfl) (by kernel_rfl) (by kernel_rfl) (by kernel_rfl) (by kernel_rfl) rfl (fun _ _ _ h => h) (Or.inl ⟨rfl, ?_⟩) H0 ?_
    rotate_left
    · intro W hW; have hW := HS.out W hW; go_simp; try with_reducible rfl
    simp only [put_list, List.set]
    refine Drawn.take 23 (some 56) (v := ?_) rfl rfl (by kernel_rfl) (by kernel_rfl) (by kernel_rfl) (by kernel_rfl) (by kernel_rfl) rfl (fun _ _ _ h => h) (Or.inl ⟨rfl, ?_⟩) H0 ?_
    rotate_left
    · intro W hW; have hW := HS.out W hW; go_simp; try with_reducible rfl
    simp only [put_list, List.set]
    refine Drawn.take 24 (some 4) (v := ?_) rfl rfl (by kernel_rfl) (by kernel_rfl) (by kernel_rfl) (by kernel_rfl) (by kernel_rfl) rfl (fun _ _ _ h => h) (Or.inl ⟨rfl, ?_⟩) H0 ?_
    rotate_left
    · intro W hW; have hW := HS.out W hW; go_simp; try with_reducible rfl
    simp only [put_list, List.set]
    refine Drawn.done (by kernel_rfl) ?_ _
    go_wp2
    go_ret
    exact ⟨rfl, H0.below⟩

theorem sdivides_c {x y a3 a2 a1 a0 b3 b2 b1 b0 : Nat} (hx : Dig x a0 a1 a2 a3) (hy : Dig y b0 b1 b2 b3) (w : World) :
    Calls Try.prog 4 #[.agg #[.int .u64 a3, .int .u64 a2, .int .u64 a1, .int .u64 a0], .agg #[.int .u64 b3, .int .u64 b2, .int .u64 b1, .int .u64 b0]] w fun e w' => e = .returned (.bool true) ∧ Below w.heap.size w w' := by
  by_cases h0 : y = 0
  · subst h0
    obtain ⟨rfl, rfl, rfl, rfl⟩ := hy.inj dig_zero
    exact sdivides_zero hx w
  · exact sdivides_some hx hy h0 w

end Go.Proofs.Ytofoiifckkafcaa
