/- The contract of WordDivides. -/
import Derived.Test.YtofoiifckkafcaaDoorDivE
import Derived.Test.YtofoiifckkafcaaDoorExam
namespace Go.Proofs.YtofoiifckkafcaaDoor
open Go.RowKit
attribute [local go_sem ↓] Go.wp_at_zero Go.wp_at_succ

theorem eq_words (a0 a1 a2 a3 b0 b1 b2 b3 : Int) (w : World) :
    (binOp .eql 24 (.agg #[.int .u64 a0, .int .u64 a1, .int .u64 a2, .int .u64 a3]) (.agg #[.int .u64 b0, .int .u64 b1, .int .u64 b2, .int .u64 b3])).run Tryd.prog w =
      .ok (.bool (a0 == b0 && (a1 == b1 && (a2 == b2 && a3 == b3)))) w := by
  have u3 := Tryd.underlying22
  have a3' := Tryd.isAgg22
  have z3 := Tryd.sizeOf22
  have hS : Tryd.prog.underlying 24 = some (.struct (Tryd.prog.fieldsOf 24)) := by kernel_rfl
  have hp : Tryd.prog.stoodInHeld 24 = false := by kernel_rfl
  rw [run_eql_struct, show (10000 : Nat) = 9999 + 1 from rfl, run_equalIn_agg w 9999 24 _ _ hS hp]
  simp only [Program.fieldsOf, Tryd.underlying24]
  go_simp
  by_cases h0 : a0 = b0 <;> by_cases h1 : a1 = b1 <;> by_cases h2 : a2 = b2 <;> by_cases h3 : a3 = b3 <;> simp [h0, h1, h2, h3]
theorem eq_word_not {a b a0 a1 a2 a3 b0 b1 b2 b3 : Nat} (ha : Dig a a0 a1 a2 a3) (hb : Dig b b0 b1 b2 b3) (h : a ≠ b) (w : World) :
    (binOp .eql 24 (.agg #[.int .u64 a3, .int .u64 a2, .int .u64 a1, .int .u64 a0]) (.agg #[.int .u64 b3, .int .u64 b2, .int .u64 b1, .int .u64 b0])).run Tryd.prog w = .ok (.bool false) w := by
  rw [eq_words]
  congr 2
  simp only [Bool.and_eq_false_iff, beq_eq_false_iff_ne, ne_eq, Int.natCast_inj]
  by_cases h3 : a3 = b3
  · by_cases h2 : a2 = b2
    · by_cases h1 : a1 = b1
      · by_cases h0 : a0 = b0
        · exact absurd (by rw [ha.eq, hb.eq, h0, h1, h2, h3]) h
        · exact .inr (.inr (.inr h0))
      · exact .inr (.inr (.inl h1))
    · exact .inr (.inl h2)
  · exact .inl h3

theorem div_back {a b : Nat} (ha : a < W256) : (a / b * b % W256 + if b = 0 then 0 else a % b) % W256 = if b = 0 then 0 else a := by
  split
  · rename_i h; subst h; simp
  · have e := Nat.div_add_mod a b
    rw [Nat.mul_comm] at e
    have : a / b * b < W256 := by omega
    rw [Nat.mod_eq_of_lt this, e, Nat.mod_eq_of_lt ha]
theorem div_back' {a b : Nat} (ha : a < W256) (h0 : b ≠ 0) : (a / b * b % W256 + a % b) % W256 = a := by
  have := div_back (b := b) ha
  rwa [if_neg h0, if_neg h0] at this

set_option maxRecDepth 100000 in
set_option maxHeartbeats 4000000 in
theorem divides_zero {x a3 a2 a1 a0 : Nat} (hx : Dig x a0 a1 a2 a3) (w : World) :
    Calls Tryd.prog 5 #[.agg #[.int .u64 a3, .int .u64 a2, .int .u64 a1, .int .u64 a0], .agg #[.int .u64 (0 : Nat), .int .u64 (0 : Nat), .int .u64 (0 : Nat), .int .u64 (0 : Nat)]] w fun e w' =>
      e = .returned (.bool true) ∧ Below w.heap.size w w' := by
  have H := (((Fx.start w).new #[.int .u64 a3, .int .u64 a2, .int .u64 a1, .int .u64 a0] 24).new #[.int .u64 0, .int .u64 0, .int .u64 0, .int .u64 0] 24).1
  have D := Lib.hid (fun W => Div_d hx dig_nil W); have M := Lib.hid (fun W => Mod_d hx dig_nil W)
  rw [Nat.div_zero] at D
  rw [if_pos rfl] at M
  have hE := fun w => eq_words 0 0 0 0 0 0 0 0 w
  have HE := Lib.hid hE
  clear hx hE
  go_enter Tryd.func5, Tryd.ntmps5
  go_wp2_with fail
  refine (examples_c _).mono ?_
  rintro e w1 ⟨rfl, hb1⟩
  have H1 := H.call hb1
  have kA := H1.row (.tail _ (.head _)); have kB := H1.row (.head _)
  replace H1 := Lib.hid H1
  clear hb1 H
  go_wp2_with fail
  refine (D.out _).mono ?_
  rintro e w2 ⟨q3, q2, q1, q0, rfl, hq, hb2⟩
  obtain ⟨rfl, rfl, rfl, rfl⟩ := hq.inj dig_nil
  have H2 := ((H1.out.call hb2).up).new #[.int .u64 0, .int .u64 0, .int .u64 0, .int .u64 0] 24
  have kA := (H1.out.call hb2).row (.tail _ (.head _)); have kB := (H1.out.call hb2).row (.head _)
  have nA := (H1.out.call hb2).lt (.tail _ (.head _)); have nB := (H1.out.call hb2).lt (.head _)
  replace H2 := Lib.hid H2
  clear hb2 H1 hq D
  go_wp2_with fail
  refine (M.out _).mono ?_
  rintro e w3 ⟨r3, r2, r1, r0, rfl, hr, hb3⟩
  obtain ⟨rfl, rfl, rfl, rfl⟩ := hr.inj dig_nil
  have H3 := (H2.out.call hb3).alloc (.cells #[.int .u64 0, .int .u64 0, .int .u64 0, .int .u64 0] 24)
  have kB := (H2.out.call hb3).row (.tail _ (.head _)); have kQ := (H2.out.call hb3).row (.head _)
  have nB := (H2.out.call hb3).lt (.tail _ (.head _)); have nQ := (H2.out.call hb3).lt (.head _)
  replace H3 := Lib.hid H3
  clear hb3 H2 hr M
  have hE := HE.out
  go_wp2_with fail
  go_ret
  exact ⟨rfl, H3.out.below⟩

set_option maxRecDepth 100000 in
set_option maxHeartbeats 4000000 in
theorem divides_some {x y a3 a2 a1 a0 b3 b2 b1 b0 : Nat} (hx : Dig x a0 a1 a2 a3) (hy : Dig y b0 b1 b2 b3) (h0 : y ≠ 0) (w : World) :
    Calls Tryd.prog 5 #[.agg #[.int .u64 a3, .int .u64 a2, .int .u64 a1, .int .u64 a0], .agg #[.int .u64 b3, .int .u64 b2, .int .u64 b1, .int .u64 b0]] w fun e w' =>
      e = .returned (.bool true) ∧ Below w.heap.size w w' := by
  have H := (((Fx.start w).new #[.int .u64 a3, .int .u64 a2, .int .u64 a1, .int .u64 a0] 24).new #[.int .u64 b3, .int .u64 b2, .int .u64 b1, .int .u64 b0] 24).1
  have D := Lib.hid (fun W => Div_d hx hy W); have M := Lib.hid (fun W => Mod_d hx hy W)
  rw [if_neg h0] at M
  have hE := fun w => eq_word_not hy dig_nil h0 w
  have HE := Lib.hid hE
  have HA := Lib.hid hx; have HB := Lib.hid hy; have HZ := Lib.hid h0
  clear hx hy hE h0
  go_enter Tryd.func5, Tryd.ntmps5
  go_wp2_with fail
  refine (examples_c _).mono ?_
  rintro e w1 ⟨rfl, hb1⟩
  have H1 := H.call hb1
  have kA := H1.row (.tail _ (.head _)); have kB := H1.row (.head _)
  replace H1 := Lib.hid H1
  clear hb1 H
  go_wp2_with fail
  refine (D.out _).mono ?_
  rintro e w2 ⟨q3, q2, q1, q0, rfl, hq, hb2⟩
  have H2 := ((H1.out.call hb2).up).new #[.int .u64 q3, .int .u64 q2, .int .u64 q1, .int .u64 q0] 24
  have kA := (H1.out.call hb2).row (.tail _ (.head _)); have kB := (H1.out.call hb2).row (.head _)
  have nA := (H1.out.call hb2).lt (.tail _ (.head _)); have nB := (H1.out.call hb2).lt (.head _)
  replace H2 := Lib.hid H2; have HQ := Lib.hid hq
  clear hb2 H1 hq D
  go_wp2_with fail
  refine (M.out _).mono ?_
  rintro e w3 ⟨r3, r2, r1, r0, rfl, hr, hb3⟩
  have H0 := (((H2.out.call hb3).up).new #[.int .u64 r3, .int .u64 r2, .int .u64 r1, .int .u64 r0] 24).drew
  have kB := (H2.out.call hb3).row (.tail _ (.head _))
  have nB := (H2.out.call hb3).lt (.tail _ (.head _))
  replace H0 := Lib.hid H0; have HR := Lib.hid hr
  clear hb3 H2 hr M kA nA
  have hE := HE.out
  simp only [Int.natCast_zero] at hE
  go_wp2_with fail
  clear kB nB hE HE
  replace H0 := H0.out
  have hL := Lib.hid (fun W => Less_c HR.out HB.out W)
  rw [show RetB (x % y < y) = fun w e w' => e = .returned (.bool true) ∧ Below w.heap.size w w' by
    funext w e w'; unfold RetB; rw [decide_eq_true (Nat.mod_lt x (Nat.pos_of_ne_zero HZ.out))]] at hL
  have HS := Lib.hid (fun W (hW : Fr w w.heap.size (w3.heap.size + 1) [(w3.heap.size, #[.int .u64 r3, .int .u64 r2, .int .u64 r1, .int .u64 r0], 24), (w2.heap.size, #[.int .u64 q3, .int .u64 q2, .int .u64 q1, .int .u64 q0], 24), (w.heap.size + 1, #[.int .u64 b3, .int .u64 b2, .int .u64 b1, .int .u64 b0], 24), (w.heap.size, #[.int .u64 a3, .int .u64 a2, .int .u64 a1, .int .u64 a0], 24)] W) => And.intro (hW.row (.head _)) (And.intro (hW.row (.tail _ (.head _))) (And.intro (hW.row (.tail _ (.tail _ (.head _)))) (hW.row (.tail _ (.tail _ (.tail _ (.head _))))))))
  refine Drawn.start (Fr w w.heap.size (w3.heap.size + 1) [(w3.heap.size, #[.int .u64 r3, .int .u64 r2, .int .u64 r1, .int .u64 r0], 24), (w2.heap.size, #[.int .u64 q3, .int .u64 q2, .int .u64 q1, .int .u64 q0], 24), (w.heap.size + 1, #[.int .u64 b3, .int .u64 b2, .int .u64 b1, .int .u64 b0], 24), (w.heap.size, #[.int .u64 a3, .int .u64 a2, .int .u64 a1, .int .u64 a0], 24)]) (fun _ => false) (by kernel_rfl) ?_
  refine Drawn.take 0 (some 31) (v := ?_) rfl rfl (by kernel_rfl) (by kernel_rfl) (by kernel_rfl) (by kernel_rfl) (by kernel_rfl) rfl (fun _ _ _ h => h) (Or.inl ⟨rfl, ?_⟩) H0 ?_
  rotate_left
  · intro W hW; have hW := HS.out W hW; go_simp; try with_reducible rfl
  simp only [put_list, List.set]
  refine Drawn.take 1 (some 32) (v := ?_) rfl rfl (by kernel_rfl) (by kernel_rfl) (by kernel_rfl) (by kernel_rfl) (by kernel_rfl) rfl (fun _ _ _ h => h) (Or.inl ⟨rfl, ?_⟩) H0 ?_
  rotate_left
  · intro W hW; have hW := HS.out W hW; go_simp; try with_reducible rfl
  simp only [put_list, List.set]
  refine Drawn.take 2 (some 33) (v := ?_) rfl rfl (by kernel_rfl) (by kernel_rfl) (by kernel_rfl) (by kernel_rfl) (by kernel_rfl) rfl (fun _ _ _ h => h) (Or.inl ⟨rfl, ?_⟩) H0 ?_
  rotate_left
  · intro W hW; have hW := HS.out W hW; go_simp; try with_reducible rfl
  simp only [put_list, List.set]
  refine Drawn.take 3 (some 34) (v := ?_) rfl rfl (by kernel_rfl) (by kernel_rfl) (by kernel_rfl) (by kernel_rfl) (by kernel_rfl) rfl (fun _ _ _ h => h) (Or.inl ⟨rfl, ?_⟩) H0 ?_
  rotate_left
  · intro W hW; have hW := HS.out W hW; go_simp; try with_reducible rfl
  simp only [put_list, List.set]
  refine Drawn.take 5 (some 36) (v := ?_) rfl rfl (by kernel_rfl) (by kernel_rfl) (by kernel_rfl) (by kernel_rfl) (by kernel_rfl) rfl (fun _ _ _ h => h) (Or.inl ⟨rfl, ?_⟩) H0 ?_
  rotate_left
  · intro W hW; have hW := HS.out W hW; go_simp; try with_reducible rfl
  simp only [put_list, List.set]
  refine Drawn.take 7 (some 38) (v := ?_) rfl rfl (by kernel_rfl) (by kernel_rfl) (by kernel_rfl) (by kernel_rfl) (by kernel_rfl) rfl (fun _ _ _ h => h) (Or.inl ⟨rfl, ?_⟩) H0 ?_
  rotate_left
  · intro W hW; have hW := HS.out W hW; go_simp; try with_reducible rfl
  simp only [put_list, List.set]
  refine Drawn.only 4 (by kernel_rfl) rfl rfl (fun K hK => ?_)
  go_simp
  refine (Mul_d HQ.out HB.out _).mono ?_
  rintro e w9 ⟨p43, p42, p41, p40, rfl, hd, hb⟩
  refine hK _ _ (fun _ _ => H0.call hb) ?_
  replace H0 := H0.call hb
  clear hK K hb
  have D4 := Lib.hid hd
  clear hd
  refine Drawn.only 6 (by kernel_rfl) rfl rfl (fun K hK => ?_)
  go_simp
  refine (Add_d D4.out HR.out _).mono ?_
  rintro e w9 ⟨p63, p62, p61, p60, rfl, hd, hb⟩
  refine hK _ _ (fun _ _ => H0.call hb) ?_
  replace H0 := H0.call hb
  clear hK K hb
  have D6 := Lib.hid hd
  clear hd
  obtain ⟨rfl, rfl, rfl, rfl⟩ := Dig.same D6.out HA.out (div_back' HA.out.lt HZ.out)
  refine Drawn.take 8 (some 39) (v := ?_) rfl rfl (by kernel_rfl) (by kernel_rfl) (by kernel_rfl) (by kernel_rfl) (by kernel_rfl) rfl (fun _ _ _ h => h) (Or.inl ⟨rfl, ?_⟩) H0 ?_
  rotate_left
  · intro W hW; have hW := HS.out W hW; go_simp; try with_reducible rfl
  simp only [put_list, List.set]
  refine Drawn.take 9 (some 40) (v := ?_) rfl rfl (by kernel_rfl) (by kernel_rfl) (by kernel_rfl) (by kernel_rfl) (by kernel_rfl) rfl (fun _ _ _ h => h) (Or.inl ⟨rfl, ?_⟩) H0 ?_
  rotate_left
  · intro W hW; have hW := HS.out W hW; go_simp; try with_reducible rfl
  simp only [put_list, List.set]
  refine Drawn.take 10 (some 41) (v := ?_) rfl rfl (by kernel_rfl) (by kernel_rfl) (by kernel_rfl) (by kernel_rfl) (by kernel_rfl) rfl (fun _ _ _ h => h) (Or.inl ⟨rfl, ?_⟩) H0 ?_
  rotate_left
  · intro W hW; have hW := HS.out W hW; go_simp; try with_reducible rfl
  simp only [put_list, List.set]
  refine Drawn.take 11 (some 42) (v := ?_) rfl rfl (by kernel_rfl) (by kernel_rfl) (by kernel_rfl) (by kernel_rfl) (by kernel_rfl) rfl (fun _ _ _ h => h) (Or.inl ⟨rfl, ?_⟩) H0 ?_
  rotate_left
  · intro W hW; have hW := HS.out W hW; go_simp; try with_reducible rfl
  simp only [put_list, List.set]
  refine Drawn.take 12 (some 43) (v := ?_) rfl rfl (by kernel_rfl) (by kernel_rfl) (by kernel_rfl) (by kernel_rfl) (by kernel_rfl) rfl (fun _ _ _ h => h) (Or.inl ⟨rfl, ?_⟩) H0 ?_
  rotate_left
  · intro W hW; have hW := HS.out W hW; go_simp; try with_reducible rfl
  simp only [put_list, List.set]
  refine Drawn.only 13 (by kernel_rfl) rfl rfl (fun K hK => ?_)
  go_simp
  refine (hL.out _).mono ?_
  rintro e w9 ⟨rfl, hb⟩
  refine hK _ _ (fun _ _ => H0.call hb) ?_
  replace H0 := H0.call hb
  clear hK K hb
  refine Drawn.take 14 (some 45) (v := ?_) rfl rfl (by kernel_rfl) (by kernel_rfl) (by kernel_rfl) (by kernel_rfl) (by kernel_rfl) rfl (fun _ _ _ h => h) (Or.inl ⟨rfl, ?_⟩) H0 ?_
  rotate_left
  · intro W hW; have hW := HS.out W hW; go_simp; try with_reducible rfl
  simp only [put_list, List.set]
  refine Drawn.take 15 (some 4) (v := ?_) rfl rfl (by kernel_rfl) (by kernel_rfl) (by kernel_rfl) (by kernel_rfl) (by kernel_rfl) rfl (fun _ _ _ h => h) (Or.inl ⟨rfl, ?_⟩) H0 ?_
  rotate_left
  · intro W hW; have hW := HS.out W hW; go_simp; try with_reducible rfl
  simp only [put_list, List.set]
  refine Drawn.done (by kernel_rfl) ?_ _
  go_wp2
  go_ret
  exact ⟨rfl, H0.below⟩

theorem divides_c {x y a3 a2 a1 a0 b3 b2 b1 b0 : Nat} (hx : Dig x a0 a1 a2 a3) (hy : Dig y b0 b1 b2 b3) (w : World) :
    Calls Tryd.prog 5 #[.agg #[.int .u64 a3, .int .u64 a2, .int .u64 a1, .int .u64 a0], .agg #[.int .u64 b3, .int .u64 b2, .int .u64 b1, .int .u64 b0]] w fun e w' =>
      e = .returned (.bool true) ∧ Below w.heap.size w w' := by
  by_cases h0 : y = 0
  · subst h0
    obtain ⟨rfl, rfl, rfl, rfl⟩ := hy.inj dig_nil
    exact divides_zero hx w
  · exact divides_some hx hy h0 w

end Go.Proofs.YtofoiifckkafcaaDoor
