/- The contracts of ModularRests, ModularDivides. -/
import Derived.Test.YthbfhfgmanafpaaModH
namespace Go.Proofs.Ythbfhfgmanafpaa
open Go.RowKit
attribute [local go_sem ↓] Go.wp_at_zero Go.wp_at_succ

theorem AddMod_m {x y z a3 a2 a1 a0 b3 b2 b1 b0 m3 m2 m1 m0 : Nat} (hx : Dig x a0 a1 a2 a3) (hy : Dig y b0 b1 b2 b3) (hz : Dig z m0 m1 m2 m3) (w : World) :
    Calls Try.prog 14 #[.agg #[.int .u64 a3, .int .u64 a2, .int .u64 a1, .int .u64 a0], .agg #[.int .u64 b3, .int .u64 b2, .int .u64 b1, .int .u64 b0], .agg #[.int .u64 m3, .int .u64 m2, .int .u64 m1, .int .u64 m0]] w (RetD (modOf (x + y) z) w) := by
  rw [← plusM_mod x y hz.lt]
  exact AddMod_c hx hy hz w
theorem Less_true {x y a3 a2 a1 a0 b3 b2 b1 b0 : Nat} (hx : Dig x a0 a1 a2 a3) (hy : Dig y b0 b1 b2 b3) (h : x < y) (w : World) :
    Calls Try.prog 27 #[.agg #[.int .u64 a3, .int .u64 a2, .int .u64 a1, .int .u64 a0], .agg #[.int .u64 b3, .int .u64 b2, .int .u64 b1, .int .u64 b0]] w fun e w' => e = .returned (.bool true) ∧ Below w.heap.size w w' := by
  refine (Less_c hx hy w).mono ?_
  rintro e w' ⟨rfl, hb⟩
  exact ⟨by rw [decide_eq_true h], hb⟩
theorem Below_neg {x a3 a2 a1 a0 : Nat} (hx : Dig x a0 a1 a2 a3) (b : Bool) (h : neg x = b) (w : World) :
    Calls Try.prog 26 #[.agg #[.int .u64 a3, .int .u64 a2, .int .u64 a1, .int .u64 a0], .agg #[.int .u64 0, .int .u64 0, .int .u64 0, .int .u64 0]] w fun e w' => e = .returned (.bool b) ∧ Below w.heap.size w w' := by
  have e : decide (flip255 x < flip255 0) = b := by
    rw [← h]
    have := hx.lt
    unfold neg flip255 W256 M64 at *
    simp only [decide_eq_decide]
    omega
  refine (Below_c hx dig_zero w).mono ?_
  rintro e' w' ⟨rfl, hb⟩
  exact ⟨by rw [e], hb⟩

theorem modOf_comm_add (x y z : Nat) : modOf (modOf y z + x) z = modOf (x + y) z := by
  unfold modOf; split
  · rfl
  · rw [Nat.add_comm x y, Nat.mod_add_mod]
theorem modOf_comm_mul (x y z : Nat) : modOf (modOf y z * x) z = modOf (x * y) z := by
  unfold modOf; split
  · rfl
  · rw [Nat.mul_comm x y, Nat.mod_mul_mod]

set_option maxRecDepth 100000 in
set_option maxHeartbeats 8000000 in
theorem rests_zero {x y a3 a2 a1 a0 b3 b2 b1 b0 : Nat} (hx : Dig x a0 a1 a2 a3) (hy : Dig y b0 b1 b2 b3) (w : World) :
    Calls Try.prog 5 #[.agg #[.int .u64 a3, .int .u64 a2, .int .u64 a1, .int .u64 a0], .agg #[.int .u64 b3, .int .u64 b2, .int .u64 b1, .int .u64 b0], .agg #[.int .u64 (0 : Nat), .int .u64 (0 : Nat), .int .u64 (0 : Nat), .int .u64 (0 : Nat)]] w fun e w' => e = .returned (.bool true) ∧ Below w.heap.size w w' := by
  have H := ((((Fx.start w).new #[.int .u64 a3, .int .u64 a2, .int .u64 a1, .int .u64 a0] 24).new #[.int .u64 b3, .int .u64 b2, .int .u64 b1, .int .u64 b0] 24).new #[.int .u64 0, .int .u64 0, .int .u64 0, .int .u64 0] 24).1
  have HX := Lib.hid hx; have HY := Lib.hid hy
  have HE := Lib.hid (fun w => eq_words 0 0 0 0 0 0 0 0 w)
  clear hx hy
  go_enter Try.func5, Try.ntmps5
  go_wp2_with fail
  refine (examples2_c _).mono ?_
  rintro e w1 ⟨rfl, hb1⟩
  have H1 := H.call hb1
  have kA := H1.row (.tail _ (.tail _ (.head _))); have kB := H1.row (.tail _ (.head _)); have kM := H1.row (.head _)
  replace H1 := Lib.hid H1
  clear hb1 H
  go_wp2_with fail
  refine (AddMod_m HX.out HY.out dig_zero _).mono ?_
  rintro e w2 ⟨s3, s2, s1, s0, rfl, hs, hb2⟩
  obtain ⟨rfl, rfl, rfl, rfl⟩ := Dig.same hs dig_zero (show modOf (x + y) 0 = 0 from if_pos rfl)
  have H2 := ((H1.out.call hb2).up).new #[.int .u64 0, .int .u64 0, .int .u64 0, .int .u64 0] 24
  have kA := (H1.out.call hb2).row (.tail _ (.tail _ (.head _))); have kB := (H1.out.call hb2).row (.tail _ (.head _)); have kM := (H1.out.call hb2).row (.head _)
  have nA := (H1.out.call hb2).lt (.tail _ (.tail _ (.head _))); have nB := (H1.out.call hb2).lt (.tail _ (.head _)); have nM := (H1.out.call hb2).lt (.head _)
  replace H2 := Lib.hid H2; have HSm := Lib.hid hs
  clear hb2 H1 hs
  go_wp2_with fail
  refine (MulMod_c HX.out HY.out dig_zero _).mono ?_
  rintro e w3 ⟨p3, p2, p1, p0, rfl, hp, hb3⟩
  obtain ⟨rfl, rfl, rfl, rfl⟩ := Dig.same hp dig_zero (show modOf (x * y) 0 = 0 from if_pos rfl)
  have H3 := ((H2.out.call hb3).up).new #[.int .u64 0, .int .u64 0, .int .u64 0, .int .u64 0] 24
  have kM := (H2.out.call hb3).row (.tail _ (.head _)); have nM := (H2.out.call hb3).lt (.tail _ (.head _))
  have kS := (H2.out.call hb3).row (.head _); have nS := (H2.out.call hb3).lt (.head _)
  replace H3 := Lib.hid H3; have HPm := Lib.hid hp
  clear hb3 H2 hp kA kB nA nB
  have hE := HE.out
  try simp only [Int.natCast_zero] at hE
  go_wp2_with fail
  go_ret
  exact ⟨rfl, H3.out.below⟩

set_option maxRecDepth 100000 in
set_option maxHeartbeats 8000000 in
theorem rests_some {x y z a3 a2 a1 a0 b3 b2 b1 b0 m3 m2 m1 m0 : Nat} (hx : Dig x a0 a1 a2 a3) (hy : Dig y b0 b1 b2 b3) (hz : Dig z m0 m1 m2 m3) (h0 : z ≠ 0) (w : World) :
    Calls Try.prog 5 #[.agg #[.int .u64 a3, .int .u64 a2, .int .u64 a1, .int .u64 a0], .agg #[.int .u64 b3, .int .u64 b2, .int .u64 b1, .int .u64 b0], .agg #[.int .u64 m3, .int .u64 m2, .int .u64 m1, .int .u64 m0]] w fun e w' => e = .returned (.bool true) ∧ Below w.heap.size w w' := by
  have H := ((((Fx.start w).new #[.int .u64 a3, .int .u64 a2, .int .u64 a1, .int .u64 a0] 24).new #[.int .u64 b3, .int .u64 b2, .int .u64 b1, .int .u64 b0] 24).new #[.int .u64 m3, .int .u64 m2, .int .u64 m1, .int .u64 m0] 24).1
  have HX := Lib.hid hx; have HY := Lib.hid hy
  have HZ := Lib.hid hz; have H0z := Lib.hid h0; have HE := Lib.hid (fun w => eq_word_not hz dig_zero h0 w)
  clear hx hy hz h0
  go_enter Try.func5, Try.ntmps5
  go_wp2_with fail
  refine (examples2_c _).mono ?_
  rintro e w1 ⟨rfl, hb1⟩
  have H1 := H.call hb1
  have kA := H1.row (.tail _ (.tail _ (.head _))); have kB := H1.row (.tail _ (.head _)); have kM := H1.row (.head _)
  replace H1 := Lib.hid H1
  clear hb1 H
  go_wp2_with fail
  refine (AddMod_m HX.out HY.out HZ.out _).mono ?_
  rintro e w2 ⟨s3, s2, s1, s0, rfl, hs, hb2⟩
  have H2 := ((H1.out.call hb2).up).new #[.int .u64 s3, .int .u64 s2, .int .u64 s1, .int .u64 s0] 24
  have kA := (H1.out.call hb2).row (.tail _ (.tail _ (.head _))); have kB := (H1.out.call hb2).row (.tail _ (.head _)); have kM := (H1.out.call hb2).row (.head _)
  have nA := (H1.out.call hb2).lt (.tail _ (.tail _ (.head _))); have nB := (H1.out.call hb2).lt (.tail _ (.head _)); have nM := (H1.out.call hb2).lt (.head _)
  replace H2 := Lib.hid H2; have HSm := Lib.hid hs
  clear hb2 H1 hs
  go_wp2_with fail
  refine (MulMod_c HX.out HY.out HZ.out _).mono ?_
  rintro e w3 ⟨p3, p2, p1, p0, rfl, hp, hb3⟩
  have H3 := ((H2.out.call hb3).up).new #[.int .u64 p3, .int .u64 p2, .int .u64 p1, .int .u64 p0] 24
  have kM := (H2.out.call hb3).row (.tail _ (.head _)); have nM := (H2.out.call hb3).lt (.tail _ (.head _))
  have kS := (H2.out.call hb3).row (.head _); have nS := (H2.out.call hb3).lt (.head _)
  replace H3 := Lib.hid H3; have HPm := Lib.hid hp
  clear hb3 H2 hp kA kB nA nB
  have hE := HE.out
  try simp only [Int.natCast_zero] at hE
  go_wp2_with fail
  clear kM kS nM nS hE HE
  have H0 := H3.out.drew
  have HS := Lib.hid (fun W (hW : Fr w w.heap.size (w3.heap.size + 1) [(w3.heap.size, #[.int .u64 p3, .int .u64 p2, .int .u64 p1, .int .u64 p0], 24), (w2.heap.size, #[.int .u64 s3, .int .u64 s2, .int .u64 s1, .int .u64 s0], 24), (w.heap.size + 1 + 1, #[.int .u64 m3, .int .u64 m2, .int .u64 m1, .int .u64 m0], 24), (w.heap.size + 1, #[.int .u64 b3, .int .u64 b2, .int .u64 b1, .int .u64 b0], 24), (w.heap.size, #[.int .u64 a3, .int .u64 a2, .int .u64 a1, .int .u64 a0], 24)] W) => And.intro (hW.row (.head _)) (And.intro (hW.row (.tail _ (.head _))) (And.intro (hW.row (.tail _ (.tail _ (.head _)))) (And.intro (hW.row (.tail _ (.tail _ (.tail _ (.head _))))) (hW.row (.tail _ (.tail _ (.tail _ (.tail _ (.head _))))))))))
  refine Drawn.start (Fr w w.heap.size (w3.heap.size + 1) [(w3.heap.size, #[.int .u64 p3, .int .u64 p2, .int .u64 p1, .int .u64 p0], 24), (w2.heap.size, #[.int .u64 s3, .int .u64 s2, .int .u64 s1, .int .u64 s0], 24), (w.heap.size + 1 + 1, #[.int .u64 m3, .int .u64 m2, .int .u64 m1, .int .u64 m0], 24), (w.heap.size + 1, #[.int .u64 b3, .int .u64 b2, .int .u64 b1, .int .u64 b0], 24), (w.heap.size, #[.int .u64 a3, .int .u64 a2, .int .u64 a1, .int .u64 a0], 24)]) (fun _ => false) (by kernel_rfl) ?_
  refine Drawn.take 0 (some 35) (v := ?_) rfl rfl (by kernel_rfl) (by kernel_rfl) (by kernel_rfl) (by kernel_rfl) (by kernel_rfl) rfl (fun _ _ _ h => h) (Or.inl ⟨rfl, ?_⟩) H0 ?_
  rotate_left
  · intro W hW; have hW := HS.out W hW; go_simp; try with_reducible rfl
  simp only [put_list, List.set]
  refine Drawn.take 1 (some 36) (v := ?_) rfl rfl (by kernel_rfl) (by kernel_rfl) (by kernel_rfl) (by kernel_rfl) (by kernel_rfl) rfl (fun _ _ _ h => h) (Or.inl ⟨rfl, ?_⟩) H0 ?_
  rotate_left
  · intro W hW; have hW := HS.out W hW; go_simp; try with_reducible rfl
  simp only [put_list, List.set]
  refine Drawn.take 2 (some 37) (v := ?_) rfl rfl (by kernel_rfl) (by kernel_rfl) (by kernel_rfl) (by kernel_rfl) (by kernel_rfl) rfl (fun _ _ _ h => h) (Or.inl ⟨rfl, ?_⟩) H0 ?_
  rotate_left
  · intro W hW; have hW := HS.out W hW; go_simp; try with_reducible rfl
  simp only [put_list, List.set]
  refine Drawn.take 3 (some 38) (v := ?_) rfl rfl (by kernel_rfl) (by kernel_rfl) (by kernel_rfl) (by kernel_rfl) (by kernel_rfl) rfl (fun _ _ _ h => h) (Or.inl ⟨rfl, ?_⟩) H0 ?_
  rotate_left
  · intro W hW; have hW := HS.out W hW; go_simp; try with_reducible rfl
  simp only [put_list, List.set]
  refine Drawn.only 4 (by kernel_rfl) rfl rfl (fun K hK => ?_)
  go_simp
  refine (Less_true HSm.out HZ.out (modOf_lt H0z.out) _).mono ?_
  rintro e w9 ⟨rfl, hb⟩
  refine hK _ _ (fun _ _ => H0.call hb) ?_
  replace H0 := H0.call hb
  clear hK K hb
  refine Drawn.take 5 (some 40) (v := ?_) rfl rfl (by kernel_rfl) (by kernel_rfl) (by kernel_rfl) (by kernel_rfl) (by kernel_rfl) rfl (fun _ _ _ h => h) (Or.inl ⟨rfl, ?_⟩) H0 ?_
  rotate_left
  · intro W hW; have hW := HS.out W hW; go_simp; try with_reducible rfl
  simp only [put_list, List.set]
  refine Drawn.take 6 (some 41) (v := ?_) rfl rfl (by kernel_rfl) (by kernel_rfl) (by kernel_rfl) (by kernel_rfl) (by kernel_rfl) rfl (fun _ _ _ h => h) (Or.inl ⟨rfl, ?_⟩) H0 ?_
  rotate_left
  · intro W hW; have hW := HS.out W hW; go_simp; try with_reducible rfl
  simp only [put_list, List.set]
  refine Drawn.take 7 (some 42) (v := ?_) rfl rfl (by kernel_rfl) (by kernel_rfl) (by kernel_rfl) (by kernel_rfl) (by kernel_rfl) rfl (fun _ _ _ h => h) (Or.inl ⟨rfl, ?_⟩) H0 ?_
  rotate_left
  · intro W hW; have hW := HS.out W hW; go_simp; try with_reducible rfl
  simp only [put_list, List.set]
  refine Drawn.take 8 (some 43) (v := ?_) rfl rfl (by kernel_rfl) (by kernel_rfl) (by kernel_rfl) (by kernel_rfl) (by kernel_rfl) rfl (fun _ _ _ h => h) (Or.inl ⟨rfl, ?_⟩) H0 ?_
  rotate_left
  · intro W hW; have hW := HS.out W hW; go_simp; try with_reducible rfl
  simp only [put_list, List.set]
  refine Drawn.only 9 (by kernel_rfl) rfl rfl (fun K hK => ?_)
  go_simp
  refine (Less_true HPm.out HZ.out (modOf_lt H0z.out) _).mono ?_
  rintro e w9 ⟨rfl, hb⟩
  refine hK _ _ (fun _ _ => H0.call hb) ?_
  replace H0 := H0.call hb
  clear hK K hb
  refine Drawn.take 10 (some 45) (v := ?_) rfl rfl (by kernel_rfl) (by kernel_rfl) (by kernel_rfl) (by kernel_rfl) (by kernel_rfl) rfl (fun _ _ _ h => h) (Or.inl ⟨rfl, ?_⟩) H0 ?_
  rotate_left
  · intro W hW; have hW := HS.out W hW; go_simp; try with_reducible rfl
  simp only [put_list, List.set]
  refine Drawn.take 11 (some 46) (v := ?_) rfl rfl (by kernel_rfl) (by kernel_rfl) (by kernel_rfl) (by kernel_rfl) (by kernel_rfl) rfl (fun _ _ _ h => h) (Or.inl ⟨rfl, ?_⟩) H0 ?_
  rotate_left
  · intro W hW; have hW := HS.out W hW; go_simp; try with_reducible rfl
  simp only [put_list, List.set]
  refine Drawn.take 12 (some 47) (v := ?_) rfl rfl (by kernel_rfl) (by kernel_rfl) (by kernel_rfl) (by kernel_rfl) (by kernel_rfl) rfl (fun _ _ _ h => h) (Or.inl ⟨rfl, ?_⟩) H0 ?_
  rotate_left
  · intro W hW; have hW := HS.out W hW; go_simp; try with_reducible rfl
  simp only [put_list, List.set]
  refine Drawn.take 13 (some 48) (v := ?_) rfl rfl (by kernel_rfl) (by kernel_rfl) (by kernel_rfl) (by kernel_rfl) (by kernel_rfl) rfl (fun _ _ _ h => h) (Or.inl ⟨rfl, ?_⟩) H0 ?_
  rotate_left
  · intro W hW; have hW := HS.out W hW; go_simp; try with_reducible rfl
  simp only [put_list, List.set]
  refine Drawn.take 14 (some 49) (v := ?_) rfl rfl (by kernel_rfl) (by kernel_rfl) (by kernel_rfl) (by kernel_rfl) (by kernel_rfl) rfl (fun _ _ _ h => h) (Or.inl ⟨rfl, ?_⟩) H0 ?_
  rotate_left
  · intro W hW; have hW := HS.out W hW; go_simp; try with_reducible rfl
  simp only [put_list, List.set]
  refine Drawn.take 16 (some 51) (v := ?_) rfl rfl (by kernel_rfl) (by kernel_rfl) (by kernel_rfl) (by kernel_rfl) (by kernel_rfl) rfl (fun _ _ _ h => h) (Or.inl ⟨rfl, ?_⟩) H0 ?_
  rotate_left
  · intro W hW; have hW := HS.out W hW; go_simp; try with_reducible rfl
  simp only [put_list, List.set]
  refine Drawn.take 17 (some 52) (v := ?_) rfl rfl (by kernel_rfl) (by kernel_rfl) (by kernel_rfl) (by kernel_rfl) (by kernel_rfl) rfl (fun _ _ _ h => h) (Or.inl ⟨rfl, ?_⟩) H0 ?_
  rotate_left
  · intro W hW; have hW := HS.out W hW; go_simp; try with_reducible rfl
  simp only [put_list, List.set]
  refine Drawn.only 15 (by kernel_rfl) rfl rfl (fun K hK => ?_)
  go_simp
  refine (Mod_m HY.out HZ.out _).mono ?_
  rintro e w9 ⟨p153, p152, p151, p150, rfl, hd, hb⟩
  refine hK _ _ (fun _ _ => H0.call hb) ?_
  replace H0 := H0.call hb
  clear hK K hb
  have D15 := Lib.hid hd
  clear hd
  refine Drawn.only 18 (by kernel_rfl) rfl rfl (fun K hK => ?_)
  go_simp
  refine (AddMod_m D15.out HX.out HZ.out _).mono ?_
  rintro e w9 ⟨p183, p182, p181, p180, rfl, hd, hb⟩
  refine hK _ _ (fun _ _ => H0.call hb) ?_
  replace H0 := H0.call hb
  clear hK K hb
  have D18 := Lib.hid hd
  clear hd
  obtain ⟨rfl, rfl, rfl, rfl⟩ := Dig.same D18.out HSm.out (modOf_comm_add _ _ _)
  refine Drawn.take 19 (some 54) (v := ?_) rfl rfl (by kernel_rfl) (by kernel_rfl) (by kernel_rfl) (by kernel_rfl) (by kernel_rfl) rfl (fun _ _ _ h => h) (Or.inl ⟨rfl, ?_⟩) H0 ?_
  rotate_left
  · intro W hW; have hW := HS.out W hW; go_simp; try with_reducible rfl
  simp only [put_list, List.set]
  refine Drawn.take 20 (some 55) (v := ?_) rfl rfl (by kernel_rfl) (by kernel_rfl) (by kernel_rfl) (by kernel_rfl) (by kernel_rfl) rfl (fun _ _ _ h => h) (Or.inl ⟨rfl, ?_⟩) H0 ?_
  rotate_left
  · intro W hW; have hW := HS.out W hW; go_simp; try with_reducible rfl
  simp only [put_list, List.set]
  refine Drawn.take 21 (some 56) (v := ?_) rfl rfl (by kernel_rfl) (by kernel_rfl) (by kernel_rfl) (by kernel_rfl) (by kernel_rfl) rfl (fun _ _ _ h => h) (Or.inl ⟨rfl, ?_⟩) H0 ?_
  rotate_left
  · intro W hW; have hW := HS.out W hW; go_simp; try with_reducible rfl
  simp only [put_list, List.set]
  refine Drawn.take 22 (some 57) (v := ?_) rfl rfl (by kernel_rfl) (by kernel_rfl) (by kernel_rfl) (by kernel_rfl) (by kernel_rfl) rfl (fun _ _ _ h => h) (Or.inl ⟨rfl, ?_⟩) H0 ?_
  rotate_left
  · intro W hW; have hW := HS.out W hW; go_simp; try with_reducible rfl
  simp only [put_list, List.set]
  refine Drawn.take 23 (some 58) (v := ?_) rfl rfl (by kernel_rfl) (by kernel_rfl) (by kernel_rfl) (by kernel_rfl) (by kernel_rfl) rfl (fun _ _ _ h => h) (Or.inl ⟨rfl, ?_⟩) H0 ?_
  rotate_left
  · intro W hW; have hW := HS.out W hW; go_simp; try with_reducible rfl
  simp only [put_list, List.set]
  refine Drawn.take 24 (some 59) (v := ?_) rfl rfl (by kernel_rfl) (by kernel_rfl) (by kernel_rfl) (by kernel_rfl) (by kernel_rfl) rfl (fun _ _ _ h => h) (Or.inl ⟨rfl, ?_⟩) H0 ?_
  rotate_left
  · intro W hW; have hW := HS.out W hW; go_simp; try with_reducible rfl
  simp only [put_list, List.set]
  refine Drawn.take 26 (some 61) (v := ?_) rfl rfl (by kernel_rfl) (by kernel_rfl) (by kernel_rfl) (by kernel_rfl) (by kernel_rfl) rfl (fun _ _ _ h => h) (Or.inl ⟨rfl, ?_⟩) H0 ?_
  rotate_left
  · intro W hW; have hW := HS.out W hW; go_simp; try with_reducible rfl
  simp only [put_list, List.set]
  refine Drawn.take 27 (some 62) (v := ?_) rfl rfl (by kernel_rfl) (by kernel_rfl) (by kernel_rfl) (by kernel_rfl) (by kernel_rfl) rfl (fun _ _ _ h => h) (Or.inl ⟨rfl, ?_⟩) H0 ?_
  rotate_left
  · intro W hW; have hW := HS.out W hW; go_simp; try with_reducible rfl
  simp only [put_list, List.set]
  refine Drawn.only 25 (by kernel_rfl) rfl rfl (fun K hK => ?_)
  go_simp
  refine (Mod_m HY.out HZ.out _).mono ?_
  rintro e w9 ⟨p253, p252, p251, p250, rfl, hd, hb⟩
  refine hK _ _ (fun _ _ => H0.call hb) ?_
  replace H0 := H0.call hb
  clear hK K hb
  have D25 := Lib.hid hd
  clear hd
  refine Drawn.only 28 (by kernel_rfl) rfl rfl (fun K hK => ?_)
  go_simp
  refine (MulMod_c D25.out HX.out HZ.out _).mono ?_
  rintro e w9 ⟨p283, p282, p281, p280, rfl, hd, hb⟩
  refine hK _ _ (fun _ _ => H0.call hb) ?_
  replace H0 := H0.call hb
  clear hK K hb
  have D28 := Lib.hid hd
  clear hd
  obtain ⟨rfl, rfl, rfl, rfl⟩ := Dig.same D28.out HPm.out (modOf_comm_mul _ _ _)
  refine Drawn.take 29 (some 64) (v := ?_) rfl rfl (by kernel_rfl) (by kernel_rfl) (by kernel_rfl) (by kernel_rfl) (by kernel_rfl) rfl (fun _ _ _ h => h) (Or.inl ⟨rfl, ?_⟩) H0 ?_
  rotate_left
  · intro W hW; have hW := HS.out W hW; go_simp; try with_reducible rfl
  simp only [put_list, List.set]
  refine Drawn.take 30 (some 65) (v := ?_) rfl rfl (by kernel_rfl) (by kernel_rfl) (by kernel_rfl) (by kernel_rfl) (by kernel_rfl) rfl (fun _ _ _ h => h) (Or.inl ⟨rfl, ?_⟩) H0 ?_
  rotate_left
  · intro W hW; have hW := HS.out W hW; go_simp; try with_reducible rfl
  simp only [put_list, List.set]
  refine Drawn.take 31 (some 66) (v := ?_) rfl rfl (by kernel_rfl) (by kernel_rfl) (by kernel_rfl) (by kernel_rfl) (by kernel_rfl) rfl (fun _ _ _ h => h) (Or.inl ⟨rfl, ?_⟩) H0 ?_
  rotate_left
  · intro W hW; have hW := HS.out W hW; go_simp; try with_reducible rfl
  simp only [put_list, List.set]
  refine Drawn.take 32 (some 67) (v := ?_) rfl rfl (by kernel_rfl) (by kernel_rfl) (by kernel_rfl) (by kernel_rfl) (by kernel_rfl) rfl (fun _ _ _ h => h) (Or.inl ⟨rfl, ?_⟩) H0 ?_
  rotate_left
  · intro W hW; have hW := HS.out W hW; go_simp; try with_reducible rfl
  simp only [put_list, List.set]
  refine Drawn.take 34 (some 69) (v := ?_) rfl rfl (by kernel_rfl) (by kernel_rfl) (by kernel_rfl) (by kernel_rfl) (by kernel_rfl) rfl (fun _ _ _ h => h) (Or.inl ⟨rfl, ?_⟩) H0 ?_
  rotate_left
  · intro W hW; have hW := HS.out W hW; go_simp; try with_reducible rfl
  simp only [put_list, List.set]
  refine Drawn.take 36 (some 71) (v := ?_) rfl rfl (by kernel_rfl) (by kernel_rfl) (by kernel_rfl) (by kernel_rfl) (by kernel_rfl) rfl (fun _ _ _ h => h) (Or.inl ⟨rfl, ?_⟩) H0 ?_
  rotate_left
  · intro W hW; have hW := HS.out W hW; go_simp; try with_reducible rfl
  simp only [put_list, List.set]
  refine Drawn.take 37 (some 72) (v := ?_) rfl rfl (by kernel_rfl) (by kernel_rfl) (by kernel_rfl) (by kernel_rfl) (by kernel_rfl) rfl (fun _ _ _ h => h) (Or.inl ⟨rfl, ?_⟩) H0 ?_
  rotate_left
  · intro W hW; have hW := HS.out W hW; go_simp; try with_reducible rfl
  simp only [put_list, List.set]
  refine Drawn.take 38 (some 73) (v := ?_) rfl rfl (by kernel_rfl) (by kernel_rfl) (by kernel_rfl) (by kernel_rfl) (by kernel_rfl) rfl (fun _ _ _ h => h) (Or.inl ⟨rfl, ?_⟩) H0 ?_
  rotate_left
  · intro W hW; have hW := HS.out W hW; go_simp; try with_reducible rfl
  simp only [put_list, List.set]
  refine Drawn.only 33 (by kernel_rfl) rfl rfl (fun K hK => ?_)
  go_simp
  refine (from_any 2 _).mono ?_
  rintro e w9 ⟨rfl, hb⟩
  refine hK _ _ (fun _ _ => H0.call hb) ?_
  replace H0 := H0.call hb
  clear hK K hb
  refine Drawn.only 35 (by kernel_rfl) rfl rfl (fun K hK => ?_)
  go_simp
  refine (MulMod_c HX.out (dig_small (show 2 < M64 by decide)) HZ.out _).mono ?_
  rintro e w9 ⟨p353, p352, p351, p350, rfl, hd, hb⟩
  refine hK _ _ (fun _ _ => H0.call hb) ?_
  replace H0 := H0.call hb
  clear hK K hb
  have D35 := Lib.hid hd
  clear hd
  refine Drawn.only 39 (by kernel_rfl) rfl rfl (fun K hK => ?_)
  go_simp
  refine (AddMod_m HX.out HX.out HZ.out _).mono ?_
  rintro e w9 ⟨p393, p392, p391, p390, rfl, hd, hb⟩
  refine hK _ _ (fun _ _ => H0.call hb) ?_
  replace H0 := H0.call hb
  clear hK K hb
  have D39 := Lib.hid hd
  clear hd
  obtain ⟨rfl, rfl, rfl, rfl⟩ := Dig.same D39.out D35.out (by rw [Nat.mul_two])
  refine Drawn.take 40 (some 75) (v := ?_) rfl rfl (by kernel_rfl) (by kernel_rfl) (by kernel_rfl) (by kernel_rfl) (by kernel_rfl) rfl (fun _ _ _ h => h) (Or.inl ⟨rfl, ?_⟩) H0 ?_
  rotate_left
  · intro W hW; have hW := HS.out W hW; go_simp; try with_reducible rfl
  simp only [put_list, List.set]
  refine Drawn.take 41 (some 76) (v := ?_) rfl rfl (by kernel_rfl) (by kernel_rfl) (by kernel_rfl) (by kernel_rfl) (by kernel_rfl) rfl (fun _ _ _ h => h) (Or.inl ⟨rfl, ?_⟩) H0 ?_
  rotate_left
  · intro W hW; have hW := HS.out W hW; go_simp; try with_reducible rfl
  simp only [put_list, List.set]
  refine Drawn.take 42 (some 6) (v := ?_) rfl rfl (by kernel_rfl) (by kernel_rfl) (by kernel_rfl) (by kernel_rfl) (by kernel_rfl) rfl (fun _ _ _ h => h) (Or.inl ⟨rfl, ?_⟩) H0 ?_
  rotate_left
  · intro W hW; have hW := HS.out W hW; go_simp; try with_reducible rfl
  simp only [put_list, List.set]
  refine Drawn.done (by kernel_rfl) ?_ _
  go_wp2
  go_ret
  exact ⟨rfl, H0.below⟩

theorem rests_c {x y z a3 a2 a1 a0 b3 b2 b1 b0 m3 m2 m1 m0 : Nat} (hx : Dig x a0 a1 a2 a3) (hy : Dig y b0 b1 b2 b3) (hz : Dig z m0 m1 m2 m3) (w : World) :
    Calls Try.prog 5 #[.agg #[.int .u64 a3, .int .u64 a2, .int .u64 a1, .int .u64 a0], .agg #[.int .u64 b3, .int .u64 b2, .int .u64 b1, .int .u64 b0], .agg #[.int .u64 m3, .int .u64 m2, .int .u64 m1, .int .u64 m0]] w fun e w' => e = .returned (.bool true) ∧ Below w.heap.size w w' := by
  by_cases h0 : z = 0
  · subst h0
    obtain ⟨rfl, rfl, rfl, rfl⟩ := hz.inj dig_zero
    exact rests_zero hx hy w
  · exact rests_some hx hy hz h0 w

end Go.Proofs.Ythbfhfgmanafpaa
