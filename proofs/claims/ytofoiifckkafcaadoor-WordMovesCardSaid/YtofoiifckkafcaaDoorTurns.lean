/- The contract of WordTurns. -/
import Derived.Test.YtofoiifckkafcaaDoorExam
import Derived.Test.YtofoiifckkafcaaDoorWordE
namespace Go.Proofs.YtofoiifckkafcaaDoor
open Go.RowKit
attribute [local go_sem ↓] Go.wp_at_zero Go.wp_at_succ

theorem turn1 {x y a3 a2 a1 a0 b3 b2 b1 b0 : Nat} (hx : Dig x a0 a1 a2 a3) (hy : Dig y b0 b1 b2 b3) : ((x + y) % W256 + W256 - y) % W256 = x := by
  have h2 := hx.lt; have h3 := hy.lt
  by_cases h : x + y < W256
  · rw [Nat.mod_eq_of_lt h]
    have : x + y + W256 - y = x + W256 := by omega
    rw [this, Nat.add_mod_right, Nat.mod_eq_of_lt h2]
  · have e : (x + y) % W256 = x + y - W256 := by
      rw [Nat.mod_eq_sub_mod (by omega), Nat.mod_eq_of_lt (by omega)]
    rw [e]
    have : x + y - W256 + W256 - y = x := by omega
    rw [this, Nat.mod_eq_of_lt h2]
theorem turn4 (x y z : Nat) : x * ((y + z) % W256) % W256 = (x * y % W256 + x * z % W256) % W256 := by
  rw [Nat.mul_mod, Nat.mod_mod, ← Nat.mul_mod, Nat.mul_add, Nat.add_mod]
theorem turn5 (x y z : Nat) : x * y % W256 * z % W256 = x * (y * z % W256) % W256 := by
  rw [Nat.mul_mod, Nat.mod_mod, ← Nat.mul_mod, Nat.mul_assoc, Nat.mul_mod x (y * z % W256), Nat.mod_mod, ← Nat.mul_mod]

theorem Fr.s3 {w W : World} {B N b0 b1 b2 : Nat} {v0 v1 v2 v3 u0 u1 u2 u3 x0 x1 x2 x3 : Value} {t0 t1 t2 : TypeId} (h : Fr w B N [(b2, #[x0, x1, x2, x3], t2), (b1, #[u0, u1, u2, u3], t1), (b0, #[v0, v1, v2, v3], t0)] W) :
    (W.cell? ⟨b0, 0, none⟩ = some v0 ∧ W.cell? ⟨b0, 1, none⟩ = some v1 ∧ W.cell? ⟨b0, 2, none⟩ = some v2 ∧ W.cell? ⟨b0, 3, none⟩ = some v3) ∧
      (W.cell? ⟨b1, 0, none⟩ = some u0 ∧ W.cell? ⟨b1, 1, none⟩ = some u1 ∧ W.cell? ⟨b1, 2, none⟩ = some u2 ∧ W.cell? ⟨b1, 3, none⟩ = some u3) ∧
      (W.cell? ⟨b2, 0, none⟩ = some x0 ∧ W.cell? ⟨b2, 1, none⟩ = some x1 ∧ W.cell? ⟨b2, 2, none⟩ = some x2 ∧ W.cell? ⟨b2, 3, none⟩ = some x3) :=
  ⟨(cells4 (h.know (b0, _, t0) (by simp)).2).1, (cells4 (h.know (b1, _, t1) (by simp)).2).1, (cells4 (h.know (b2, _, t2) (by simp)).2).1⟩

set_option maxRecDepth 100000 in
set_option maxHeartbeats 8000000 in
theorem turns_c {x y z a3 a2 a1 a0 b3 b2 b1 b0 c3 c2 c1 c0 : Nat} (hx : Dig x a0 a1 a2 a3) (hy : Dig y b0 b1 b2 b3) (hz : Dig z c0 c1 c2 c3) (w : World) :
    Calls Tryd.prog 6 #[.agg #[.int .u64 a3, .int .u64 a2, .int .u64 a1, .int .u64 a0], .agg #[.int .u64 b3, .int .u64 b2, .int .u64 b1, .int .u64 b0], .agg #[.int .u64 c3, .int .u64 c2, .int .u64 c1, .int .u64 c0]] w fun e w' =>
      e = .returned (.bool true) ∧ Below w.heap.size w w' := by
  have H := ((((Fx.start w).new #[.int .u64 a3, .int .u64 a2, .int .u64 a1, .int .u64 a0] 24).new #[.int .u64 b3, .int .u64 b2, .int .u64 b1, .int .u64 b0] 24).new #[.int .u64 c3, .int .u64 c2, .int .u64 c1, .int .u64 c0] 24).1
  have HA := Lib.hid hx; have HB := Lib.hid hy; have HC := Lib.hid hz; clear hx hy hz
  go_enter Tryd.func6, Tryd.ntmps6
  go_wp2_with fail
  refine (examples_c _).mono ?_
  rintro e w1 ⟨rfl, hb1⟩
  have H0 := (H.call hb1).drew
  clear hb1 H
  have HS := Lib.hid (fun W (hW : Fr w w.heap.size (w.heap.size + 1 + 1 + 1) [(w.heap.size + 1 + 1, #[.int .u64 c3, .int .u64 c2, .int .u64 c1, .int .u64 c0], 24), (w.heap.size + 1, #[.int .u64 b3, .int .u64 b2, .int .u64 b1, .int .u64 b0], 24), (w.heap.size, #[.int .u64 a3, .int .u64 a2, .int .u64 a1, .int .u64 a0], 24)] W) => hW.s3)
  go_wp2_with fail
  refine Drawn.start (Fr w w.heap.size (w.heap.size + 1 + 1 + 1) [(w.heap.size + 1 + 1, #[.int .u64 c3, .int .u64 c2, .int .u64 c1, .int .u64 c0], 24), (w.heap.size + 1, #[.int .u64 b3, .int .u64 b2, .int .u64 b1, .int .u64 b0], 24), (w.heap.size, #[.int .u64 a3, .int .u64 a2, .int .u64 a1, .int .u64 a0], 24)]) (fun _ => false) (by kernel_rfl) ?_
  refine Drawn.take 0 (some 11) (v := ?_) rfl rfl (by kernel_rfl) (by kernel_rfl) (by kernel_rfl) (by kernel_rfl) (by kernel_rfl) rfl (fun _ _ _ h => h) (Or.inl ⟨rfl, ?_⟩) H0 ?_
  rotate_left
  · intro W hW; have hW := HS.out W hW; go_simp; try with_reducible rfl
  simp only [put_list, List.set]
  refine Drawn.take 1 (some 12) (v := ?_) rfl rfl (by kernel_rfl) (by kernel_rfl) (by kernel_rfl) (by kernel_rfl) (by kernel_rfl) rfl (fun _ _ _ h => h) (Or.inl ⟨rfl, ?_⟩) H0 ?_
  rotate_left
  · intro W hW; have hW := HS.out W hW; go_simp; try with_reducible rfl
  simp only [put_list, List.set]
  refine Drawn.take 2 (some 13) (v := ?_) rfl rfl (by kernel_rfl) (by kernel_rfl) (by kernel_rfl) (by kernel_rfl) (by kernel_rfl) rfl (fun _ _ _ h => h) (Or.inl ⟨rfl, ?_⟩) H0 ?_
  rotate_left
  · intro W hW; have hW := HS.out W hW; go_simp; try with_reducible rfl
  simp only [put_list, List.set]
  refine Drawn.take 3 (some 14) (v := ?_) rfl rfl (by kernel_rfl) (by kernel_rfl) (by kernel_rfl) (by kernel_rfl) (by kernel_rfl) rfl (fun _ _ _ h => h) (Or.inl ⟨rfl, ?_⟩) H0 ?_
  rotate_left
  · intro W hW; have hW := HS.out W hW; go_simp; try with_reducible rfl
  simp only [put_list, List.set]
  refine Drawn.take 5 (some 16) (v := ?_) rfl rfl (by kernel_rfl) (by kernel_rfl) (by kernel_rfl) (by kernel_rfl) (by kernel_rfl) rfl (fun _ _ _ h => h) (Or.inl ⟨rfl, ?_⟩) H0 ?_
  rotate_left
  · intro W hW; have hW := HS.out W hW; go_simp; try with_reducible rfl
  simp only [put_list, List.set]
  refine Drawn.take 7 (some 18) (v := ?_) rfl rfl (by kernel_rfl) (by kernel_rfl) (by kernel_rfl) (by kernel_rfl) (by kernel_rfl) rfl (fun _ _ _ h => h) (Or.inl ⟨rfl, ?_⟩) H0 ?_
  rotate_left
  · intro W hW; have hW := HS.out W hW; go_simp; try with_reducible rfl
  simp only [put_list, List.set]
  refine Drawn.only 4 (by kernel_rfl) rfl rfl (fun K hK => ?_)
  go_simp
  refine (Add_d HA.out HB.out _).mono ?_
  rintro e w6 ⟨p43, p42, p41, p40, rfl, hd, hb6⟩
  refine hK _ _ (fun _ _ => H0.call hb6) ?_
  replace H0 := H0.call hb6
  have D4 := Lib.hid hd
  clear hK K hb6 hd
  refine Drawn.only 6 (by kernel_rfl) rfl rfl (fun K hK => ?_)
  go_simp
  refine (Sub_d D4.out HB.out _).mono ?_
  rintro e w6 ⟨q63, q62, q61, q60, rfl, hd, hb6⟩
  refine hK _ _ (fun _ _ => H0.call hb6) ?_
  replace H0 := H0.call hb6
  have D6 := Lib.hid hd
  clear hK K hb6 hd
  obtain ⟨rfl, rfl, rfl, rfl⟩ := Dig.same D6.out HA.out (turn1 HA.out HB.out)
  refine Drawn.take 8 (some 19) (v := ?_) rfl rfl (by kernel_rfl) (by kernel_rfl) (by kernel_rfl) (by kernel_rfl) (by kernel_rfl) rfl (fun _ _ _ h => h) (Or.inl ⟨rfl, ?_⟩) H0 ?_
  rotate_left
  · intro W hW; have hW := HS.out W hW; go_simp; try with_reducible rfl
  simp only [put_list, List.set]
  refine Drawn.take 9 (some 20) (v := ?_) rfl rfl (by kernel_rfl) (by kernel_rfl) (by kernel_rfl) (by kernel_rfl) (by kernel_rfl) rfl (fun _ _ _ h => h) (Or.inl ⟨rfl, ?_⟩) H0 ?_
  rotate_left
  · intro W hW; have hW := HS.out W hW; go_simp; try with_reducible rfl
  simp only [put_list, List.set]
  refine Drawn.take 10 (some 21) (v := ?_) rfl rfl (by kernel_rfl) (by kernel_rfl) (by kernel_rfl) (by kernel_rfl) (by kernel_rfl) rfl (fun _ _ _ h => h) (Or.inl ⟨rfl, ?_⟩) H0 ?_
  rotate_left
  · intro W hW; have hW := HS.out W hW; go_simp; try with_reducible rfl
  simp only [put_list, List.set]
  refine Drawn.take 11 (some 22) (v := ?_) rfl rfl (by kernel_rfl) (by kernel_rfl) (by kernel_rfl) (by kernel_rfl) (by kernel_rfl) rfl (fun _ _ _ h => h) (Or.inl ⟨rfl, ?_⟩) H0 ?_
  rotate_left
  · intro W hW; have hW := HS.out W hW; go_simp; try with_reducible rfl
  simp only [put_list, List.set]
  refine Drawn.take 12 (some 23) (v := ?_) rfl rfl (by kernel_rfl) (by kernel_rfl) (by kernel_rfl) (by kernel_rfl) (by kernel_rfl) rfl (fun _ _ _ h => h) (Or.inl ⟨rfl, ?_⟩) H0 ?_
  rotate_left
  · intro W hW; have hW := HS.out W hW; go_simp; try with_reducible rfl
  simp only [put_list, List.set]
  refine Drawn.take 14 (some 25) (v := ?_) rfl rfl (by kernel_rfl) (by kernel_rfl) (by kernel_rfl) (by kernel_rfl) (by kernel_rfl) rfl (fun _ _ _ h => h) (Or.inl ⟨rfl, ?_⟩) H0 ?_
  rotate_left
  · intro W hW; have hW := HS.out W hW; go_simp; try with_reducible rfl
  simp only [put_list, List.set]
  refine Drawn.take 15 (some 26) (v := ?_) rfl rfl (by kernel_rfl) (by kernel_rfl) (by kernel_rfl) (by kernel_rfl) (by kernel_rfl) rfl (fun _ _ _ h => h) (Or.inl ⟨rfl, ?_⟩) H0 ?_
  rotate_left
  · intro W hW; have hW := HS.out W hW; go_simp; try with_reducible rfl
  simp only [put_list, List.set]
  refine Drawn.only 13 (by kernel_rfl) rfl rfl (fun K hK => ?_)
  go_simp
  refine (Add_d HA.out HB.out _).mono ?_
  rintro e w6 ⟨p133, p132, p131, p130, rfl, hd, hb6⟩
  refine hK _ _ (fun _ _ => H0.call hb6) ?_
  replace H0 := H0.call hb6
  have D13 := Lib.hid hd
  clear hK K hb6 hd
  refine Drawn.only 16 (by kernel_rfl) rfl rfl (fun K hK => ?_)
  go_simp
  refine (Add_d HB.out HA.out _).mono ?_
  rintro e w6 ⟨q163, q162, q161, q160, rfl, hd, hb6⟩
  refine hK _ _ (fun _ _ => H0.call hb6) ?_
  replace H0 := H0.call hb6
  have D16 := Lib.hid hd
  clear hK K hb6 hd
  obtain ⟨rfl, rfl, rfl, rfl⟩ := Dig.same D16.out D13.out (by rw [Nat.add_comm])
  refine Drawn.take 17 (some 28) (v := ?_) rfl rfl (by kernel_rfl) (by kernel_rfl) (by kernel_rfl) (by kernel_rfl) (by kernel_rfl) rfl (fun _ _ _ h => h) (Or.inl ⟨rfl, ?_⟩) H0 ?_
  rotate_left
  · intro W hW; have hW := HS.out W hW; go_simp; try with_reducible rfl
  simp only [put_list, List.set]
  refine Drawn.take 18 (some 29) (v := ?_) rfl rfl (by kernel_rfl) (by kernel_rfl) (by kernel_rfl) (by kernel_rfl) (by kernel_rfl) rfl (fun _ _ _ h => h) (Or.inl ⟨rfl, ?_⟩) H0 ?_
  rotate_left
  · intro W hW; have hW := HS.out W hW; go_simp; try with_reducible rfl
  simp only [put_list, List.set]
  refine Drawn.take 19 (some 30) (v := ?_) rfl rfl (by kernel_rfl) (by kernel_rfl) (by kernel_rfl) (by kernel_rfl) (by kernel_rfl) rfl (fun _ _ _ h => h) (Or.inl ⟨rfl, ?_⟩) H0 ?_
  rotate_left
  · intro W hW; have hW := HS.out W hW; go_simp; try with_reducible rfl
  simp only [put_list, List.set]
  refine Drawn.take 20 (some 31) (v := ?_) rfl rfl (by kernel_rfl) (by kernel_rfl) (by kernel_rfl) (by kernel_rfl) (by kernel_rfl) rfl (fun _ _ _ h => h) (Or.inl ⟨rfl, ?_⟩) H0 ?_
  rotate_left
  · intro W hW; have hW := HS.out W hW; go_simp; try with_reducible rfl
  simp only [put_list, List.set]
  refine Drawn.take 21 (some 32) (v := ?_) rfl rfl (by kernel_rfl) (by kernel_rfl) (by kernel_rfl) (by kernel_rfl) (by kernel_rfl) rfl (fun _ _ _ h => h) (Or.inl ⟨rfl, ?_⟩) H0 ?_
  rotate_left
  · intro W hW; have hW := HS.out W hW; go_simp; try with_reducible rfl
  simp only [put_list, List.set]
  refine Drawn.take 23 (some 34) (v := ?_) rfl rfl (by kernel_rfl) (by kernel_rfl) (by kernel_rfl) (by kernel_rfl) (by kernel_rfl) rfl (fun _ _ _ h => h) (Or.inl ⟨rfl, ?_⟩) H0 ?_
  rotate_left
  · intro W hW; have hW := HS.out W hW; go_simp; try with_reducible rfl
  simp only [put_list, List.set]
  refine Drawn.take 24 (some 35) (v := ?_) rfl rfl (by kernel_rfl) (by kernel_rfl) (by kernel_rfl) (by kernel_rfl) (by kernel_rfl) rfl (fun _ _ _ h => h) (Or.inl ⟨rfl, ?_⟩) H0 ?_
  rotate_left
  · intro W hW; have hW := HS.out W hW; go_simp; try with_reducible rfl
  simp only [put_list, List.set]
  refine Drawn.only 22 (by kernel_rfl) rfl rfl (fun K hK => ?_)
  go_simp
  refine (Mul_d HA.out HB.out _).mono ?_
  rintro e w6 ⟨p223, p222, p221, p220, rfl, hd, hb6⟩
  refine hK _ _ (fun _ _ => H0.call hb6) ?_
  replace H0 := H0.call hb6
  have D22 := Lib.hid hd
  clear hK K hb6 hd
  refine Drawn.only 25 (by kernel_rfl) rfl rfl (fun K hK => ?_)
  go_simp
  refine (Mul_d HB.out HA.out _).mono ?_
  rintro e w6 ⟨q253, q252, q251, q250, rfl, hd, hb6⟩
  refine hK _ _ (fun _ _ => H0.call hb6) ?_
  replace H0 := H0.call hb6
  have D25 := Lib.hid hd
  clear hK K hb6 hd
  obtain ⟨rfl, rfl, rfl, rfl⟩ := Dig.same D25.out D22.out (by rw [Nat.mul_comm])
  refine Drawn.take 26 (some 37) (v := ?_) rfl rfl (by kernel_rfl) (by kernel_rfl) (by kernel_rfl) (by kernel_rfl) (by kernel_rfl) rfl (fun _ _ _ h => h) (Or.inl ⟨rfl, ?_⟩) H0 ?_
  rotate_left
  · intro W hW; have hW := HS.out W hW; go_simp; try with_reducible rfl
  simp only [put_list, List.set]
  refine Drawn.take 27 (some 38) (v := ?_) rfl rfl (by kernel_rfl) (by kernel_rfl) (by kernel_rfl) (by kernel_rfl) (by kernel_rfl) rfl (fun _ _ _ h => h) (Or.inl ⟨rfl, ?_⟩) H0 ?_
  rotate_left
  · intro W hW; have hW := HS.out W hW; go_simp; try with_reducible rfl
  simp only [put_list, List.set]
  refine Drawn.take 28 (some 39) (v := ?_) rfl rfl (by kernel_rfl) (by kernel_rfl) (by kernel_rfl) (by kernel_rfl) (by kernel_rfl) rfl (fun _ _ _ h => h) (Or.inl ⟨rfl, ?_⟩) H0 ?_
  rotate_left
  · intro W hW; have hW := HS.out W hW; go_simp; try with_reducible rfl
  simp only [put_list, List.set]
  refine Drawn.take 29 (some 40) (v := ?_) rfl rfl (by kernel_rfl) (by kernel_rfl) (by kernel_rfl) (by kernel_rfl) (by kernel_rfl) rfl (fun _ _ _ h => h) (Or.inl ⟨rfl, ?_⟩) H0 ?_
  rotate_left
  · intro W hW; have hW := HS.out W hW; go_simp; try with_reducible rfl
  simp only [put_list, List.set]
  refine Drawn.take 30 (some 41) (v := ?_) rfl rfl (by kernel_rfl) (by kernel_rfl) (by kernel_rfl) (by kernel_rfl) (by kernel_rfl) rfl (fun _ _ _ h => h) (Or.inl ⟨rfl, ?_⟩) H0 ?_
  rotate_left
  · intro W hW; have hW := HS.out W hW; go_simp; try with_reducible rfl
  simp only [put_list, List.set]
  refine Drawn.take 31 (some 42) (v := ?_) rfl rfl (by kernel_rfl) (by kernel_rfl) (by kernel_rfl) (by kernel_rfl) (by kernel_rfl) rfl (fun _ _ _ h => h) (Or.inl ⟨rfl, ?_⟩) H0 ?_
  rotate_left
  · intro W hW; have hW := HS.out W hW; go_simp; try with_reducible rfl
  simp only [put_list, List.set]
  refine Drawn.take 34 (some 45) (v := ?_) rfl rfl (by kernel_rfl) (by kernel_rfl) (by kernel_rfl) (by kernel_rfl) (by kernel_rfl) rfl (fun _ _ _ h => h) (Or.inl ⟨rfl, ?_⟩) H0 ?_
  rotate_left
  · intro W hW; have hW := HS.out W hW; go_simp; try with_reducible rfl
  simp only [put_list, List.set]
  refine Drawn.take 35 (some 46) (v := ?_) rfl rfl (by kernel_rfl) (by kernel_rfl) (by kernel_rfl) (by kernel_rfl) (by kernel_rfl) rfl (fun _ _ _ h => h) (Or.inl ⟨rfl, ?_⟩) H0 ?_
  rotate_left
  · intro W hW; have hW := HS.out W hW; go_simp; try with_reducible rfl
  simp only [put_list, List.set]
  refine Drawn.take 37 (some 48) (v := ?_) rfl rfl (by kernel_rfl) (by kernel_rfl) (by kernel_rfl) (by kernel_rfl) (by kernel_rfl) rfl (fun _ _ _ h => h) (Or.inl ⟨rfl, ?_⟩) H0 ?_
  rotate_left
  · intro W hW; have hW := HS.out W hW; go_simp; try with_reducible rfl
  simp only [put_list, List.set]
  refine Drawn.take 38 (some 49) (v := ?_) rfl rfl (by kernel_rfl) (by kernel_rfl) (by kernel_rfl) (by kernel_rfl) (by kernel_rfl) rfl (fun _ _ _ h => h) (Or.inl ⟨rfl, ?_⟩) H0 ?_
  rotate_left
  · intro W hW; have hW := HS.out W hW; go_simp; try with_reducible rfl
  simp only [put_list, List.set]
  refine Drawn.only 32 (by kernel_rfl) rfl rfl (fun K hK => ?_)
  go_simp
  refine (Add_d HB.out HC.out _).mono ?_
  rintro e w6 ⟨p323, p322, p321, p320, rfl, hd, hb6⟩
  refine hK _ _ (fun _ _ => H0.call hb6) ?_
  replace H0 := H0.call hb6
  have D32 := Lib.hid hd
  clear hK K hb6 hd
  refine Drawn.only 33 (by kernel_rfl) rfl rfl (fun K hK => ?_)
  go_simp
  refine (Mul_d HA.out D32.out _).mono ?_
  rintro e w6 ⟨q333, q332, q331, q330, rfl, hd, hb6⟩
  refine hK _ _ (fun _ _ => H0.call hb6) ?_
  replace H0 := H0.call hb6
  have D33 := Lib.hid hd
  clear hK K hb6 hd
  refine Drawn.only 36 (by kernel_rfl) rfl rfl (fun K hK => ?_)
  go_simp
  refine (Mul_d HA.out HB.out _).mono ?_
  rintro e w6 ⟨r363, r362, r361, r360, rfl, hd, hb6⟩
  refine hK _ _ (fun _ _ => H0.call hb6) ?_
  replace H0 := H0.call hb6
  have D36 := Lib.hid hd
  clear hK K hb6 hd
  refine Drawn.only 39 (by kernel_rfl) rfl rfl (fun K hK => ?_)
  go_simp
  refine (Mul_d HA.out HC.out _).mono ?_
  rintro e w6 ⟨s393, s392, s391, s390, rfl, hd, hb6⟩
  refine hK _ _ (fun _ _ => H0.call hb6) ?_
  replace H0 := H0.call hb6
  have D39 := Lib.hid hd
  clear hK K hb6 hd
  refine Drawn.only 40 (by kernel_rfl) rfl rfl (fun K hK => ?_)
  go_simp
  refine (Add_d D36.out D39.out _).mono ?_
  rintro e w6 ⟨u403, u402, u401, u400, rfl, hd, hb6⟩
  refine hK _ _ (fun _ _ => H0.call hb6) ?_
  replace H0 := H0.call hb6
  have D40 := Lib.hid hd
  clear hK K hb6 hd
  obtain ⟨rfl, rfl, rfl, rfl⟩ := Dig.same D40.out D33.out ((turn4 _ _ _).symm)
  refine Drawn.take 41 (some 52) (v := ?_) rfl rfl (by kernel_rfl) (by kernel_rfl) (by kernel_rfl) (by kernel_rfl) (by kernel_rfl) rfl (fun _ _ _ h => h) (Or.inl ⟨rfl, ?_⟩) H0 ?_
  rotate_left
  · intro W hW; have hW := HS.out W hW; go_simp; try with_reducible rfl
  simp only [put_list, List.set]
  refine Drawn.take 42 (some 53) (v := ?_) rfl rfl (by kernel_rfl) (by kernel_rfl) (by kernel_rfl) (by kernel_rfl) (by kernel_rfl) rfl (fun _ _ _ h => h) (Or.inl ⟨rfl, ?_⟩) H0 ?_
  rotate_left
  · intro W hW; have hW := HS.out W hW; go_simp; try with_reducible rfl
  simp only [put_list, List.set]
  refine Drawn.take 43 (some 54) (v := ?_) rfl rfl (by kernel_rfl) (by kernel_rfl) (by kernel_rfl) (by kernel_rfl) (by kernel_rfl) rfl (fun _ _ _ h => h) (Or.inl ⟨rfl, ?_⟩) H0 ?_
  rotate_left
  · intro W hW; have hW := HS.out W hW; go_simp; try with_reducible rfl
  simp only [put_list, List.set]
  refine Drawn.take 44 (some 55) (v := ?_) rfl rfl (by kernel_rfl) (by kernel_rfl) (by kernel_rfl) (by kernel_rfl) (by kernel_rfl) rfl (fun _ _ _ h => h) (Or.inl ⟨rfl, ?_⟩) H0 ?_
  rotate_left
  · intro W hW; have hW := HS.out W hW; go_simp; try with_reducible rfl
  simp only [put_list, List.set]
  refine Drawn.take 45 (some 56) (v := ?_) rfl rfl (by kernel_rfl) (by kernel_rfl) (by kernel_rfl) (by kernel_rfl) (by kernel_rfl) rfl (fun _ _ _ h => h) (Or.inl ⟨rfl, ?_⟩) H0 ?_
  rotate_left
  · intro W hW; have hW := HS.out W hW; go_simp; try with_reducible rfl
  simp only [put_list, List.set]
  refine Drawn.take 47 (some 58) (v := ?_) rfl rfl (by kernel_rfl) (by kernel_rfl) (by kernel_rfl) (by kernel_rfl) (by kernel_rfl) rfl (fun _ _ _ h => h) (Or.inl ⟨rfl, ?_⟩) H0 ?_
  rotate_left
  · intro W hW; have hW := HS.out W hW; go_simp; try with_reducible rfl
  simp only [put_list, List.set]
  refine Drawn.take 49 (some 60) (v := ?_) rfl rfl (by kernel_rfl) (by kernel_rfl) (by kernel_rfl) (by kernel_rfl) (by kernel_rfl) rfl (fun _ _ _ h => h) (Or.inl ⟨rfl, ?_⟩) H0 ?_
  rotate_left
  · intro W hW; have hW := HS.out W hW; go_simp; try with_reducible rfl
  simp only [put_list, List.set]
  refine Drawn.take 50 (some 61) (v := ?_) rfl rfl (by kernel_rfl) (by kernel_rfl) (by kernel_rfl) (by kernel_rfl) (by kernel_rfl) rfl (fun _ _ _ h => h) (Or.inl ⟨rfl, ?_⟩) H0 ?_
  rotate_left
  · intro W hW; have hW := HS.out W hW; go_simp; try with_reducible rfl
  simp only [put_list, List.set]
  refine Drawn.take 51 (some 62) (v := ?_) rfl rfl (by kernel_rfl) (by kernel_rfl) (by kernel_rfl) (by kernel_rfl) (by kernel_rfl) rfl (fun _ _ _ h => h) (Or.inl ⟨rfl, ?_⟩) H0 ?_
  rotate_left
  · intro W hW; have hW := HS.out W hW; go_simp; try with_reducible rfl
  simp only [put_list, List.set]
  refine Drawn.only 46 (by kernel_rfl) rfl rfl (fun K hK => ?_)
  go_simp
  refine (Mul_d HA.out HB.out _).mono ?_
  rintro e w6 ⟨p463, p462, p461, p460, rfl, hd, hb6⟩
  refine hK _ _ (fun _ _ => H0.call hb6) ?_
  replace H0 := H0.call hb6
  have D46 := Lib.hid hd
  clear hK K hb6 hd
  refine Drawn.only 48 (by kernel_rfl) rfl rfl (fun K hK => ?_)
  go_simp
  refine (Mul_d D46.out HC.out _).mono ?_
  rintro e w6 ⟨q483, q482, q481, q480, rfl, hd, hb6⟩
  refine hK _ _ (fun _ _ => H0.call hb6) ?_
  replace H0 := H0.call hb6
  have D48 := Lib.hid hd
  clear hK K hb6 hd
  refine Drawn.only 52 (by kernel_rfl) rfl rfl (fun K hK => ?_)
  go_simp
  refine (Mul_d HB.out HC.out _).mono ?_
  rintro e w6 ⟨r523, r522, r521, r520, rfl, hd, hb6⟩
  refine hK _ _ (fun _ _ => H0.call hb6) ?_
  replace H0 := H0.call hb6
  have D52 := Lib.hid hd
  clear hK K hb6 hd
  refine Drawn.only 53 (by kernel_rfl) rfl rfl (fun K hK => ?_)
  go_simp
  refine (Mul_d HA.out D52.out _).mono ?_
  rintro e w6 ⟨s533, s532, s531, s530, rfl, hd, hb6⟩
  refine hK _ _ (fun _ _ => H0.call hb6) ?_
  replace H0 := H0.call hb6
  have D53 := Lib.hid hd
  clear hK K hb6 hd
  obtain ⟨rfl, rfl, rfl, rfl⟩ := Dig.same D53.out D48.out ((turn5 _ _ _).symm)
  refine Drawn.take 54 (some 65) (v := ?_) rfl rfl (by kernel_rfl) (by kernel_rfl) (by kernel_rfl) (by kernel_rfl) (by kernel_rfl) rfl (fun _ _ _ h => h) (Or.inl ⟨rfl, ?_⟩) H0 ?_
  rotate_left
  · intro W hW; have hW := HS.out W hW; go_simp; try with_reducible rfl
  simp only [put_list, List.set]
  refine Drawn.take 55 (some 66) (v := ?_) rfl rfl (by kernel_rfl) (by kernel_rfl) (by kernel_rfl) (by kernel_rfl) (by kernel_rfl) rfl (fun _ _ _ h => h) (Or.inl ⟨rfl, ?_⟩) H0 ?_
  rotate_left
  · intro W hW; have hW := HS.out W hW; go_simp; try with_reducible rfl
  simp only [put_list, List.set]
  refine Drawn.take 56 (some 6) (v := ?_) rfl rfl (by kernel_rfl) (by kernel_rfl) (by kernel_rfl) (by kernel_rfl) (by kernel_rfl) rfl (fun _ _ _ h => h) (Or.inl ⟨rfl, ?_⟩) H0 ?_
  rotate_left
  · intro W hW; have hW := HS.out W hW; go_simp; try with_reducible rfl
  simp only [put_list, List.set]
  refine Drawn.done (by kernel_rfl) ?_ _
  go_wp2
  go_ret
  exact ⟨rfl, H0.below⟩

end Go.Proofs.YtofoiifckkafcaaDoor
