/- The contract of WordShifts. -/
import Derived.Test.YtofoiifckkafcaaDoorDivE
import Derived.Test.YtofoiifckkafcaaDoorSar
import Derived.Test.YtofoiifckkafcaaDoorBitL
namespace Go.Proofs.YtofoiifckkafcaaDoor
open Go.RowKit
attribute [local go_sem ↓] Go.wp_at_zero Go.wp_at_succ

theorem Below_zero {x a3 a2 a1 a0 : Nat} {b : Bool} (hx : Dig x a0 a1 a2 a3) (h : decide (W256 / 2 ≤ x) = b) (w : World) :
    Calls Tryd.prog 23 #[.agg #[.int .u64 a3, .int .u64 a2, .int .u64 a1, .int .u64 a0], .agg #[.int .u64 0, .int .u64 0, .int .u64 0, .int .u64 0]] w fun e w' =>
      e = .returned (.bool b) ∧ Below w.heap.size w w' := by
  have e : decide (flip255 x < flip255 0) = b := by
    rw [← h]
    have := hx.lt
    unfold flip255 W256 M64 at *
    simp only [decide_eq_decide]
    omega
  refine (Below_c hx dig_zero w).mono ?_
  rintro e' w' ⟨rfl, hb⟩
  exact ⟨by rw [e], hb⟩

theorem far_ge (y : Nat) : 256 ≤ y ||| 256 := Nat.right_le_or
theorem min_far (y : Nat) : min (y ||| 256) 256 = 256 := Nat.min_eq_right (far_ge y)
theorem W256_p2 : W256 = 2 ^ 256 := rfl
theorem far_shl {y x f0 f1 f2 f3 : Nat} (_ : Dig (y ||| 256) f0 f1 f2 f3) : x * 2 ^ (min (y ||| 256) 256) % W256 = 0 := by
  rw [min_far, ← W256_p2, Nat.mul_mod_left]
theorem far_shr {y x f0 f1 f2 f3 : Nat} (hx : x < W256) (_ : Dig (y ||| 256) f0 f1 f2 f3) : x / 2 ^ (min (y ||| 256) 256) = 0 := by
  rw [min_far, ← W256_p2, Nat.div_eq_of_lt hx]
theorem far_sar_pos {y x : Nat} (hx : x < W256) (hs : decide (W256 / 2 ≤ x) = false) (_ : 256 ≤ y ||| 256) : sarOf (y ||| 256) x = 0 := by
  unfold sarOf
  rw [min_far, ← W256_p2, Nat.div_eq_of_lt hx, if_pos (by simpa using hs)]
theorem far_sar_neg {y x : Nat} (hx : x < W256) (hs : decide (W256 / 2 ≤ x) = true) (_ : 256 ≤ y ||| 256) : sarOf (y ||| 256) x = W256 - 1 - 0 := by
  unfold sarOf
  rw [min_far, ← W256_p2, Nat.div_eq_of_lt (show W256 - 1 - x < W256 by omega), if_neg (by simpa using hs)]
theorem sar_zero {x : Nat} (hx : x < W256) : sarOf 0 x = x := by
  unfold sarOf
  split <;> simp <;> omega
theorem sar_sign {x : Nat} {b : Bool} (hs : decide (W256 / 2 ≤ x) = b) : decide (W256 / 2 ≤ sarOf 1 x) = b := by
  rw [← hs]
  unfold sarOf
  rw [show min 1 256 = 1 by rfl, Nat.pow_one]
  unfold W256 M64
  split <;> simp only [decide_eq_decide] <;> omega

set_option maxRecDepth 100000 in
set_option maxHeartbeats 8000000 in
theorem shifts_pos {x y a3 a2 a1 a0 n3 n2 n1 n0 : Nat} (hx : Dig x a0 a1 a2 a3) (hy : Dig y n0 n1 n2 n3) (hs : decide (W256 / 2 ≤ x) = false) (w : World) :
    Calls Tryd.prog 9 #[.agg #[.int .u64 a3, .int .u64 a2, .int .u64 a1, .int .u64 a0], .agg #[.int .u64 n3, .int .u64 n2, .int .u64 n1, .int .u64 n0]] w fun e w' =>
      e = .returned (.bool true) ∧ Below w.heap.size w w' := by
  have H := (((Fx.start w).new #[.int .u64 a3, .int .u64 a2, .int .u64 a1, .int .u64 a0] 24).new #[.int .u64 n3, .int .u64 n2, .int .u64 n1, .int .u64 n0] 24).1
  have HA := Lib.hid hx; have HN := Lib.hid hy; have HS0 := Lib.hid hs
  have HFar := Lib.hid (far_ge y)
  have H1 := Lib.hid (dig_small (show 1 < M64 by decide))
  clear hx hy hs
  go_enter Tryd.func9, Tryd.ntmps9
  go_wp2_with fail
  refine (examples_c _).mono ?_
  rintro e w1 ⟨rfl, hb1⟩
  have H0 := H.call hb1
  clear hb1 H
  go_wp2_with fail
  refine (from_any 1 _).mono ?_
  rintro e w2 ⟨rfl, hb2⟩
  have H := ((H0.call hb2).up).new #[.int .u64 0, .int .u64 0, .int .u64 0, .int .u64 1] 24
  clear hb2 H0
  go_wp2_with fail
  have HS := Lib.hid (fun W (hW : Fr w w.heap.size (w2.heap.size + 1) [(w2.heap.size, #[.int .u64 0, .int .u64 0, .int .u64 0, .int .u64 1], 24), (w.heap.size + 1, #[.int .u64 n3, .int .u64 n2, .int .u64 n1, .int .u64 n0], 24), (w.heap.size, #[.int .u64 a3, .int .u64 a2, .int .u64 a1, .int .u64 a0], 24)] W) => And.intro (hW.row (.head _)) (And.intro (hW.row (.tail _ (.head _))) (hW.row (.tail _ (.tail _ (.head _))))))
  refine wp_cut (fun a' Wc => ∃ b7 f3 f2 f1 f0 : Nat, a' = ⟨#[.agg #[.int .u64 a3, .int .u64 a2, .int .u64 a1, .int .u64 a0], .agg #[.int .u64 n3, .int .u64 n2, .int .u64 n1, .int .u64 n0], .pointer (some ⟨w.heap.size, 0, none⟩), .pointer (some ⟨w.heap.size + 1, 0, none⟩), .bool false, .bool true, .pointer (some ⟨w2.heap.size, 0, none⟩), .pointer (some ⟨b7, 0, none⟩), undef, undef, .bool true, .bool true, .bool false, .agg #[.int .u64 0, .int .u64 0, .int .u64 0, .int .u64 1], .agg #[.int .u64 n3, .int .u64 n2, .int .u64 n1, .int .u64 n0], .agg #[.int .u64 0, .int .u64 0, .int .u64 0, .int .u64 256], .agg #[.int .u64 f3, .int .u64 f2, .int .u64 f1, .int .u64 f0], undef, undef, undef, undef, undef, undef, undef, undef, undef, undef, undef, undef, undef, undef, undef, undef, undef, undef, undef, undef, undef, undef, undef, undef, undef, undef, undef, undef, undef, undef, undef, undef, undef, undef, undef, undef, undef, undef, undef, undef, undef, undef, undef, undef, undef, undef, undef, undef, undef, undef, undef, undef, undef, undef, undef, undef, undef, undef, undef, undef, undef, undef, undef, undef, undef], []⟩ ∧ Dig (y ||| 256) f0 f1 f2 f3 ∧ Fr w w.heap.size Wc.heap.size [(b7, #[.int .u64 f3, .int .u64 f2, .int .u64 f1, .int .u64 f0], 24), (w2.heap.size, #[.int .u64 0, .int .u64 0, .int .u64 0, .int .u64 1], 24), (w.heap.size + 1, #[.int .u64 n3, .int .u64 n2, .int .u64 n1, .int .u64 n0], 24), (w.heap.size, #[.int .u64 a3, .int .u64 a2, .int .u64 a1, .int .u64 a0], 24)] Wc) ?rest ?tree
  case rest =>
    rintro a' Wc ⟨b7, f3, f2, f1, f0, rfl, hf, F⟩
    clear H HS
    have HF := Lib.hid hf; clear hf
    have FX : Fx w w.heap.size Wc.heap.size _ Wc := ⟨F, rfl⟩
    have FZ := FX.new #[.int .u64 0, .int .u64 0, .int .u64 0, .int .u64 0] 24
    have kA := F.row (.tail _ (.tail _ (.tail _ (.head _))))
    have nA := F.lt (.tail _ (.tail _ (.tail _ (.head _))))
    have KZ := ((FZ.new #[.int .u64 0, .int .u64 0, .int .u64 0, .int .u64 0] 24).1.know _ (.head _)).2
    replace FZ := Lib.hid FZ; replace KZ := Lib.hid KZ
    clear F FX
    go_wp2_with fail
    clear kA nA
    refine (Below_zero (b := false) HA.out HS0.out _).mono ?_
    rintro e w5 ⟨rfl, hb5⟩
    have F8 := (FZ.out.1.alloc (.cells #[.int .u64 0, .int .u64 0, .int .u64 0, .int .u64 0] 24)).call hb5
    have K9 := (hb5.block _ (lt_of KZ.out)).trans KZ.out
    have kZ := F8.row (.head _)
    clear hb5 KZ FZ
    replace K9 := Lib.hid K9
    have H0 := (F8.add K9.out).drew
    clear F8 kZ
    replace H0 := Lib.hid H0
    go_wp2_with fail
    generalize w5 = WW at H0 ⊢
    replace H0 := H0.out
    have HS := Lib.hid (fun W (hW : Fr w w.heap.size (WW.heap.size) [(Wc.heap.size + 1, #[.int .u64 0, .int .u64 0, .int .u64 0, .int .u64 0], 24), (Wc.heap.size, #[.int .u64 0, .int .u64 0, .int .u64 0, .int .u64 0], 24), (b7, #[.int .u64 f3, .int .u64 f2, .int .u64 f1, .int .u64 f0], 24), (w2.heap.size, #[.int .u64 0, .int .u64 0, .int .u64 0, .int .u64 1], 24), (w.heap.size + 1, #[.int .u64 n3, .int .u64 n2, .int .u64 n1, .int .u64 n0], 24), (w.heap.size, #[.int .u64 a3, .int .u64 a2, .int .u64 a1, .int .u64 a0], 24)] W) => And.intro (hW.row (.head _)) (And.intro (hW.row (.tail _ (.head _))) (And.intro (hW.row (.tail _ (.tail _ (.head _)))) (And.intro (hW.row (.tail _ (.tail _ (.tail _ (.head _))))) (And.intro (hW.row (.tail _ (.tail _ (.tail _ (.tail _ (.head _)))))) (hW.row (.tail _ (.tail _ (.tail _ (.tail _ (.tail _ (.head _))))))))))))
    refine Drawn.start (Fr w w.heap.size (WW.heap.size) [(Wc.heap.size + 1, #[.int .u64 0, .int .u64 0, .int .u64 0, .int .u64 0], 24), (Wc.heap.size, #[.int .u64 0, .int .u64 0, .int .u64 0, .int .u64 0], 24), (b7, #[.int .u64 f3, .int .u64 f2, .int .u64 f1, .int .u64 f0], 24), (w2.heap.size, #[.int .u64 0, .int .u64 0, .int .u64 0, .int .u64 1], 24), (w.heap.size + 1, #[.int .u64 n3, .int .u64 n2, .int .u64 n1, .int .u64 n0], 24), (w.heap.size, #[.int .u64 a3, .int .u64 a2, .int .u64 a1, .int .u64 a0], 24)]) (fun _ => false) (by kernel_rfl) ?_
    refine Drawn.take 0 (some 24) (v := ?_) rfl rfl (by kernel_rfl) (by kernel_rfl) (by kernel_rfl) (by kernel_rfl) (by kernel_rfl) rfl (fun _ _ _ h => h) (Or.inl ⟨rfl, ?_⟩) H0 ?_
    rotate_left
    · intro W hW; have hW := HS.out W hW; go_simp; try with_reducible rfl
    simp only [put_list, List.set]
    refine Drawn.take 1 (some 25) (v := ?_) rfl rfl (by kernel_rfl) (by kernel_rfl) (by kernel_rfl) (by kernel_rfl) (by kernel_rfl) rfl (fun _ _ _ h => h) (Or.inl ⟨rfl, ?_⟩) H0 ?_
    rotate_left
    · intro W hW; have hW := HS.out W hW; go_simp; try with_reducible rfl
    simp only [put_list, List.set]
    refine Drawn.take 2 (some 26) (v := ?_) rfl rfl (by kernel_rfl) (by kernel_rfl) (by kernel_rfl) (by kernel_rfl) (by kernel_rfl) rfl (fun _ _ _ h => h) (Or.inl ⟨rfl, ?_⟩) H0 ?_
    rotate_left
    · intro W hW; have hW := HS.out W hW; go_simp; try with_reducible rfl
    simp only [put_list, List.set]
    refine Drawn.take 3 (some 27) (v := ?_) rfl rfl (by kernel_rfl) (by kernel_rfl) (by kernel_rfl) (by kernel_rfl) (by kernel_rfl) rfl (fun _ _ _ h => h) (Or.inl ⟨rfl, ?_⟩) H0 ?_
    rotate_left
    · intro W hW; have hW := HS.out W hW; go_simp; try with_reducible rfl
    simp only [put_list, List.set]
    refine Drawn.take 5 (some 29) (v := ?_) rfl rfl (by kernel_rfl) (by kernel_rfl) (by kernel_rfl) (by kernel_rfl) (by kernel_rfl) rfl (fun _ _ _ h => h) (Or.inl ⟨rfl, ?_⟩) H0 ?_
    rotate_left
    · intro W hW; have hW := HS.out W hW; go_simp; try with_reducible rfl
    simp only [put_list, List.set]
    refine Drawn.take 6 (some 30) (v := ?_) rfl rfl (by kernel_rfl) (by kernel_rfl) (by kernel_rfl) (by kernel_rfl) (by kernel_rfl) rfl (fun _ _ _ h => h) (Or.inl ⟨rfl, ?_⟩) H0 ?_
    rotate_left
    · intro W hW; have hW := HS.out W hW; go_simp; try with_reducible rfl
    simp only [put_list, List.set]
    refine Drawn.only 4 (by kernel_rfl) rfl rfl (fun K hK => ?_)
    go_simp
    refine (Shl_d H1.out HA.out _).mono ?_
    rintro e w9 ⟨p43, p42, p41, p40, rfl, hd, hb⟩
    refine hK _ _ (fun _ _ => H0.call hb) ?_
    replace H0 := H0.call hb
    clear hK K hb
    have D4 := Lib.hid hd
    clear hd
    refine Drawn.only 7 (by kernel_rfl) rfl rfl (fun K hK => ?_)
    go_simp
    refine (Add_d HA.out HA.out _).mono ?_
    rintro e w9 ⟨p73, p72, p71, p70, rfl, hd, hb⟩
    refine hK _ _ (fun _ _ => H0.call hb) ?_
    replace H0 := H0.call hb
    clear hK K hb
    have D7 := Lib.hid hd
    clear hd
    obtain ⟨rfl, rfl, rfl, rfl⟩ := Dig.same D4.out D7.out (by rw [show min 1 256 = 1 by rfl, Nat.pow_one, Nat.mul_two])
    refine Drawn.take 8 (some 32) (v := ?_) rfl rfl (by kernel_rfl) (by kernel_rfl) (by kernel_rfl) (by kernel_rfl) (by kernel_rfl) rfl (fun _ _ _ h => h) (Or.inl ⟨rfl, ?_⟩) H0 ?_
    rotate_left
    · intro W hW; have hW := HS.out W hW; go_simp; try with_reducible rfl
    simp only [put_list, List.set]
    refine Drawn.take 9 (some 33) (v := ?_) rfl rfl (by kernel_rfl) (by kernel_rfl) (by kernel_rfl) (by kernel_rfl) (by kernel_rfl) rfl (fun _ _ _ h => h) (Or.inl ⟨rfl, ?_⟩) H0 ?_
    rotate_left
    · intro W hW; have hW := HS.out W hW; go_simp; try with_reducible rfl
    simp only [put_list, List.set]
    refine Drawn.take 10 (some 34) (v := ?_) rfl rfl (by kernel_rfl) (by kernel_rfl) (by kernel_rfl) (by kernel_rfl) (by kernel_rfl) rfl (fun _ _ _ h => h) (Or.inl ⟨rfl, ?_⟩) H0 ?_
    rotate_left
    · intro W hW; have hW := HS.out W hW; go_simp; try with_reducible rfl
    simp only [put_list, List.set]
    refine Drawn.take 11 (some 35) (v := ?_) rfl rfl (by kernel_rfl) (by kernel_rfl) (by kernel_rfl) (by kernel_rfl) (by kernel_rfl) rfl (fun _ _ _ h => h) (Or.inl ⟨rfl, ?_⟩) H0 ?_
    rotate_left
    · intro W hW; have hW := HS.out W hW; go_simp; try with_reducible rfl
    simp only [put_list, List.set]
    refine Drawn.take 12 (some 36) (v := ?_) rfl rfl (by kernel_rfl) (by kernel_rfl) (by kernel_rfl) (by kernel_rfl) (by kernel_rfl) rfl (fun _ _ _ h => h) (Or.inl ⟨rfl, ?_⟩) H0 ?_
    rotate_left
    · intro W hW; have hW := HS.out W hW; go_simp; try with_reducible rfl
    simp only [put_list, List.set]
    refine Drawn.take 14 (some 38) (v := ?_) rfl rfl (by kernel_rfl) (by kernel_rfl) (by kernel_rfl) (by kernel_rfl) (by kernel_rfl) rfl (fun _ _ _ h => h) (Or.inl ⟨rfl, ?_⟩) H0 ?_
    rotate_left
    · intro W hW; have hW := HS.out W hW; go_simp; try with_reducible rfl
    simp only [put_list, List.set]
    refine Drawn.only 13 (by kernel_rfl) rfl rfl (fun K hK => ?_)
    go_simp
    refine (Shr_d H1.out HA.out _).mono ?_
    rintro e w9 ⟨p133, p132, p131, p130, rfl, hd, hb⟩
    refine hK _ _ (fun _ _ => H0.call hb) ?_
    replace H0 := H0.call hb
    clear hK K hb
    have D13 := Lib.hid hd
    clear hd
    refine Drawn.only 15 (by kernel_rfl) rfl rfl (fun K hK => ?_)
    go_simp
    refine (from_any 2 _).mono ?_
    rintro e w9 ⟨rfl, hb⟩
    refine hK _ _ (fun _ _ => H0.call hb) ?_
    replace H0 := H0.call hb
    clear hK K hb
    refine Drawn.only 16 (by kernel_rfl) rfl rfl (fun K hK => ?_)
    go_simp
    refine (Div_d HA.out (dig_small (show 2 < M64 by decide)) _).mono ?_
    rintro e w9 ⟨p163, p162, p161, p160, rfl, hd, hb⟩
    refine hK _ _ (fun _ _ => H0.call hb) ?_
    replace H0 := H0.call hb
    clear hK K hb
    have D16 := Lib.hid hd
    clear hd
    obtain ⟨rfl, rfl, rfl, rfl⟩ := Dig.same D16.out D13.out (by rw [show min 1 256 = 1 by rfl, Nat.pow_one])
    refine Drawn.take 17 (some 41) (v := ?_) rfl rfl (by kernel_rfl) (by kernel_rfl) (by kernel_rfl) (by kernel_rfl) (by kernel_rfl) rfl (fun _ _ _ h => h) (Or.inl ⟨rfl, ?_⟩) H0 ?_
    rotate_left
    · intro W hW; have hW := HS.out W hW; go_simp; try with_reducible rfl
    simp only [put_list, List.set]
    refine Drawn.take 18 (some 42) (v := ?_) rfl rfl (by kernel_rfl) (by kernel_rfl) (by kernel_rfl) (by kernel_rfl) (by kernel_rfl) rfl (fun _ _ _ h => h) (Or.inl ⟨rfl, ?_⟩) H0 ?_
    rotate_left
    · intro W hW; have hW := HS.out W hW; go_simp; try with_reducible rfl
    simp only [put_list, List.set]
    refine Drawn.take 19 (some 43) (v := ?_) rfl rfl (by kernel_rfl) (by kernel_rfl) (by kernel_rfl) (by kernel_rfl) (by kernel_rfl) rfl (fun _ _ _ h => h) (Or.inl ⟨rfl, ?_⟩) H0 ?_
    rotate_left
    · intro W hW; have hW := HS.out W hW; go_simp; try with_reducible rfl
    simp only [put_list, List.set]
    refine Drawn.take 20 (some 44) (v := ?_) rfl rfl (by kernel_rfl) (by kernel_rfl) (by kernel_rfl) (by kernel_rfl) (by kernel_rfl) rfl (fun _ _ _ h => h) (Or.inl ⟨rfl, ?_⟩) H0 ?_
    rotate_left
    · intro W hW; have hW := HS.out W hW; go_simp; try with_reducible rfl
    simp only [put_list, List.set]
    refine Drawn.take 21 (some 45) (v := ?_) rfl rfl (by kernel_rfl) (by kernel_rfl) (by kernel_rfl) (by kernel_rfl) (by kernel_rfl) rfl (fun _ _ _ h => h) (Or.inl ⟨rfl, ?_⟩) H0 ?_
    rotate_left
    · intro W hW; have hW := HS.out W hW; go_simp; try with_reducible rfl
    simp only [put_list, List.set]
    refine Drawn.take 23 (some 47) (v := ?_) rfl rfl (by kernel_rfl) (by kernel_rfl) (by kernel_rfl) (by kernel_rfl) (by kernel_rfl) rfl (fun _ _ _ h => h) (Or.inl ⟨rfl, ?_⟩) H0 ?_
    rotate_left
    · intro W hW; have hW := HS.out W hW; go_simp; try with_reducible rfl
    simp only [put_list, List.set]
    refine Drawn.only 22 (by kernel_rfl) rfl rfl (fun K hK => ?_)
    go_simp
    refine (Shl_d HF.out HA.out _).mono ?_
    rintro e w9 ⟨p223, p222, p221, p220, rfl, hd, hb⟩
    refine hK _ _ (fun _ _ => H0.call hb) ?_
    replace H0 := H0.call hb
    clear hK K hb
    have D22 := Lib.hid hd
    clear hd
    obtain ⟨rfl, rfl, rfl, rfl⟩ := Dig.same D22.out dig_zero (far_shl HF.out)
    refine Drawn.take 24 (some 48) (v := ?_) rfl rfl (by kernel_rfl) (by kernel_rfl) (by kernel_rfl) (by kernel_rfl) (by kernel_rfl) rfl (fun _ _ _ h => h) (Or.inl ⟨rfl, ?_⟩) H0 ?_
    rotate_left
    · intro W hW; have hW := HS.out W hW; go_simp; try with_reducible rfl
    simp only [put_list, List.set]
    refine Drawn.take 25 (some 49) (v := ?_) rfl rfl (by kernel_rfl) (by kernel_rfl) (by kernel_rfl) (by kernel_rfl) (by kernel_rfl) rfl (fun _ _ _ h => h) (Or.inl ⟨rfl, ?_⟩) H0 ?_
    rotate_left
    · intro W hW; have hW := HS.out W hW; go_simp; try with_reducible rfl
    simp only [put_list, List.set]
    refine Drawn.take 26 (some 50) (v := ?_) rfl rfl (by kernel_rfl) (by kernel_rfl) (by kernel_rfl) (by kernel_rfl) (by kernel_rfl) rfl (fun _ _ _ h => h) (Or.inl ⟨rfl, ?_⟩) H0 ?_
    rotate_left
    · intro W hW; have hW := HS.out W hW; go_simp; try with_reducible rfl
    simp only [put_list, List.set]
    refine Drawn.take 27 (some 51) (v := ?_) rfl rfl (by kernel_rfl) (by kernel_rfl) (by kernel_rfl) (by kernel_rfl) (by kernel_rfl) rfl (fun _ _ _ h => h) (Or.inl ⟨rfl, ?_⟩) H0 ?_
    rotate_left
    · intro W hW; have hW := HS.out W hW; go_simp; try with_reducible rfl
    simp only [put_list, List.set]
    refine Drawn.take 28 (some 52) (v := ?_) rfl rfl (by kernel_rfl) (by kernel_rfl) (by kernel_rfl) (by kernel_rfl) (by kernel_rfl) rfl (fun _ _ _ h => h) (Or.inl ⟨rfl, ?_⟩) H0 ?_
    rotate_left
    · intro W hW; have hW := HS.out W hW; go_simp; try with_reducible rfl
    simp only [put_list, List.set]
    refine Drawn.take 30 (some 54) (v := ?_) rfl rfl (by kernel_rfl) (by kernel_rfl) (by kernel_rfl) (by kernel_rfl) (by kernel_rfl) rfl (fun _ _ _ h => h) (Or.inl ⟨rfl, ?_⟩) H0 ?_
    rotate_left
    · intro W hW; have hW := HS.out W hW; go_simp; try with_reducible rfl
    simp only [put_list, List.set]
    refine Drawn.only 29 (by kernel_rfl) rfl rfl (fun K hK => ?_)
    go_simp
    refine (Shr_d HF.out HA.out _).mono ?_
    rintro e w9 ⟨p293, p292, p291, p290, rfl, hd, hb⟩
    refine hK _ _ (fun _ _ => H0.call hb) ?_
    replace H0 := H0.call hb
    clear hK K hb
    have D29 := Lib.hid hd
    clear hd
    obtain ⟨rfl, rfl, rfl, rfl⟩ := Dig.same D29.out dig_zero (far_shr HA.out.lt HF.out)
    refine Drawn.take 31 (some 55) (v := ?_) rfl rfl (by kernel_rfl) (by kernel_rfl) (by kernel_rfl) (by kernel_rfl) (by kernel_rfl) rfl (fun _ _ _ h => h) (Or.inl ⟨rfl, ?_⟩) H0 ?_
    rotate_left
    · intro W hW; have hW := HS.out W hW; go_simp; try with_reducible rfl
    simp only [put_list, List.set]
    refine Drawn.take 32 (some 56) (v := ?_) rfl rfl (by kernel_rfl) (by kernel_rfl) (by kernel_rfl) (by kernel_rfl) (by kernel_rfl) rfl (fun _ _ _ h => h) (Or.inl ⟨rfl, ?_⟩) H0 ?_
    rotate_left
    · intro W hW; have hW := HS.out W hW; go_simp; try with_reducible rfl
    simp only [put_list, List.set]
    refine Drawn.take 33 (some 57) (v := ?_) rfl rfl (by kernel_rfl) (by kernel_rfl) (by kernel_rfl) (by kernel_rfl) (by kernel_rfl) rfl (fun _ _ _ h => h) (Or.inl ⟨rfl, ?_⟩) H0 ?_
    rotate_left
    · intro W hW; have hW := HS.out W hW; go_simp; try with_reducible rfl
    simp only [put_list, List.set]
    refine Drawn.take 34 (some 58) (v := ?_) rfl rfl (by kernel_rfl) (by kernel_rfl) (by kernel_rfl) (by kernel_rfl) (by kernel_rfl) rfl (fun _ _ _ h => h) (Or.inl ⟨rfl, ?_⟩) H0 ?_
    rotate_left
    · intro W hW; have hW := HS.out W hW; go_simp; try with_reducible rfl
    simp only [put_list, List.set]
    refine Drawn.take 35 (some 59) (v := ?_) rfl rfl (by kernel_rfl) (by kernel_rfl) (by kernel_rfl) (by kernel_rfl) (by kernel_rfl) rfl (fun _ _ _ h => h) (Or.inl ⟨rfl, ?_⟩) H0 ?_
    rotate_left
    · intro W hW; have hW := HS.out W hW; go_simp; try with_reducible rfl
    simp only [put_list, List.set]
    refine Drawn.take 37 (some 61) (v := ?_) rfl rfl (by kernel_rfl) (by kernel_rfl) (by kernel_rfl) (by kernel_rfl) (by kernel_rfl) rfl (fun _ _ _ h => h) (Or.inl ⟨rfl, ?_⟩) H0 ?_
    rotate_left
    · intro W hW; have hW := HS.out W hW; go_simp; try with_reducible rfl
    simp only [put_list, List.set]
    refine Drawn.only 36 (by kernel_rfl) rfl rfl (fun K hK => ?_)
    go_simp
    refine (Sar_d HF.out HA.out _).mono ?_
    rintro e w9 ⟨p363, p362, p361, p360, rfl, hd, hb⟩
    refine hK _ _ (fun _ _ => H0.call hb) ?_
    replace H0 := H0.call hb
    clear hK K hb
    have D36 := Lib.hid hd
    clear hd
    obtain ⟨rfl, rfl, rfl, rfl⟩ := Dig.same D36.out dig_zero (far_sar_pos HA.out.lt HS0.out HFar.out)
    refine Drawn.take 38 (some 62) (v := ?_) rfl rfl (by kernel_rfl) (by kernel_rfl) (by kernel_rfl) (by kernel_rfl) (by kernel_rfl) rfl (fun _ _ _ h => h) (Or.inl ⟨rfl, ?_⟩) H0 ?_
    rotate_left
    · intro W hW; have hW := HS.out W hW; go_simp; try with_reducible rfl
    simp only [put_list, List.set]
    refine Drawn.take 39 (some 63) (v := ?_) rfl rfl (by kernel_rfl) (by kernel_rfl) (by kernel_rfl) (by kernel_rfl) (by kernel_rfl) rfl (fun _ _ _ h => h) (Or.inl ⟨rfl, ?_⟩) H0 ?_
    rotate_left
    · intro W hW; have hW := HS.out W hW; go_simp; try with_reducible rfl
    simp only [put_list, List.set]
    refine Drawn.take 40 (some 64) (v := ?_) rfl rfl (by kernel_rfl) (by kernel_rfl) (by kernel_rfl) (by kernel_rfl) (by kernel_rfl) rfl (fun _ _ _ h => h) (Or.inl ⟨rfl, ?_⟩) H0 ?_
    rotate_left
    · intro W hW; have hW := HS.out W hW; go_simp; try with_reducible rfl
    simp only [put_list, List.set]
    refine Drawn.take 41 (some 65) (v := ?_) rfl rfl (by kernel_rfl) (by kernel_rfl) (by kernel_rfl) (by kernel_rfl) (by kernel_rfl) rfl (fun _ _ _ h => h) (Or.inl ⟨rfl, ?_⟩) H0 ?_
    rotate_left
    · intro W hW; have hW := HS.out W hW; go_simp; try with_reducible rfl
    simp only [put_list, List.set]
    refine Drawn.take 42 (some 66) (v := ?_) rfl rfl (by kernel_rfl) (by kernel_rfl) (by kernel_rfl) (by kernel_rfl) (by kernel_rfl) rfl (fun _ _ _ h => h) (Or.inl ⟨rfl, ?_⟩) H0 ?_
    rotate_left
    · intro W hW; have hW := HS.out W hW; go_simp; try with_reducible rfl
    simp only [put_list, List.set]
    refine Drawn.take 44 (some 68) (v := ?_) rfl rfl (by kernel_rfl) (by kernel_rfl) (by kernel_rfl) (by kernel_rfl) (by kernel_rfl) rfl (fun _ _ _ h => h) (Or.inl ⟨rfl, ?_⟩) H0 ?_
    rotate_left
    · intro W hW; have hW := HS.out W hW; go_simp; try with_reducible rfl
    simp only [put_list, List.set]
    refine Drawn.take 46 (some 70) (v := ?_) rfl rfl (by kernel_rfl) (by kernel_rfl) (by kernel_rfl) (by kernel_rfl) (by kernel_rfl) rfl (fun _ _ _ h => h) (Or.inl ⟨rfl, ?_⟩) H0 ?_
    rotate_left
    · intro W hW; have hW := HS.out W hW; go_simp; try with_reducible rfl
    simp only [put_list, List.set]
    refine Drawn.take 47 (some 71) (v := ?_) rfl rfl (by kernel_rfl) (by kernel_rfl) (by kernel_rfl) (by kernel_rfl) (by kernel_rfl) rfl (fun _ _ _ h => h) (Or.inl ⟨rfl, ?_⟩) H0 ?_
    rotate_left
    · intro W hW; have hW := HS.out W hW; go_simp; try with_reducible rfl
    simp only [put_list, List.set]
    refine Drawn.only 43 (by kernel_rfl) rfl rfl (fun K hK => ?_)
    go_simp
    refine (Sar_d H1.out HA.out _).mono ?_
    rintro e w9 ⟨p433, p432, p431, p430, rfl, hd, hb⟩
    refine hK _ _ (fun _ _ => H0.call hb) ?_
    replace H0 := H0.call hb
    clear hK K hb
    have D43 := Lib.hid hd
    clear hd
    refine Drawn.only 45 (by kernel_rfl) rfl rfl (fun K hK => ?_)
    go_simp
    refine (Below_zero D43.out (sar_sign (b := false) HS0.out) _).mono ?_
    rintro e w9 ⟨rfl, hb⟩
    refine hK _ _ (fun _ _ => H0.call hb) ?_
    replace H0 := H0.call hb
    clear hK K hb
    refine Drawn.only 48 (by kernel_rfl) rfl rfl (fun K hK => ?_)
    go_simp
    refine (Below_zero (b := false) HA.out HS0.out _).mono ?_
    rintro e w9 ⟨rfl, hb⟩
    refine hK _ _ (fun _ _ => H0.call hb) ?_
    replace H0 := H0.call hb
    clear hK K hb
    refine Drawn.take 49 (some 73) (v := ?_) rfl rfl (by kernel_rfl) (by kernel_rfl) (by kernel_rfl) (by kernel_rfl) (by kernel_rfl) rfl (fun _ _ _ h => h) (Or.inl ⟨rfl, ?_⟩) H0 ?_
    rotate_left
    · intro W hW; have hW := HS.out W hW; go_simp; try with_reducible rfl
    simp only [put_list, List.set]
    refine Drawn.take 50 (some 74) (v := ?_) rfl rfl (by kernel_rfl) (by kernel_rfl) (by kernel_rfl) (by kernel_rfl) (by kernel_rfl) rfl (fun _ _ _ h => h) (Or.inl ⟨rfl, ?_⟩) H0 ?_
    rotate_left
    · intro W hW; have hW := HS.out W hW; go_simp; try with_reducible rfl
    simp only [put_list, List.set]
    refine Drawn.take 51 (some 75) (v := ?_) rfl rfl (by kernel_rfl) (by kernel_rfl) (by kernel_rfl) (by kernel_rfl) (by kernel_rfl) rfl (fun _ _ _ h => h) (Or.inl ⟨rfl, ?_⟩) H0 ?_
    rotate_left
    · intro W hW; have hW := HS.out W hW; go_simp; try with_reducible rfl
    simp only [put_list, List.set]
    refine Drawn.take 52 (some 76) (v := ?_) rfl rfl (by kernel_rfl) (by kernel_rfl) (by kernel_rfl) (by kernel_rfl) (by kernel_rfl) rfl (fun _ _ _ h => h) (Or.inl ⟨rfl, ?_⟩) H0 ?_
    rotate_left
    · intro W hW; have hW := HS.out W hW; go_simp; try with_reducible rfl
    simp only [put_list, List.set]
    refine Drawn.take 53 (some 77) (v := ?_) rfl rfl (by kernel_rfl) (by kernel_rfl) (by kernel_rfl) (by kernel_rfl) (by kernel_rfl) rfl (fun _ _ _ h => h) (Or.inl ⟨rfl, ?_⟩) H0 ?_
    rotate_left
    · intro W hW; have hW := HS.out W hW; go_simp; try with_reducible rfl
    simp only [put_list, List.set]
    refine Drawn.take 55 (some 79) (v := ?_) rfl rfl (by kernel_rfl) (by kernel_rfl) (by kernel_rfl) (by kernel_rfl) (by kernel_rfl) rfl (fun _ _ _ h => h) (Or.inl ⟨rfl, ?_⟩) H0 ?_
    rotate_left
    · intro W hW; have hW := HS.out W hW; go_simp; try with_reducible rfl
    simp only [put_list, List.set]
    refine Drawn.only 54 (by kernel_rfl) rfl rfl (fun K hK => ?_)
    go_simp
    refine (Sar_d dig_zero HA.out _).mono ?_
    rintro e w9 ⟨p543, p542, p541, p540, rfl, hd, hb⟩
    refine hK _ _ (fun _ _ => H0.call hb) ?_
    replace H0 := H0.call hb
    clear hK K hb
    have D54 := Lib.hid hd
    clear hd
    obtain ⟨rfl, rfl, rfl, rfl⟩ := Dig.same D54.out HA.out (sar_zero HA.out.lt)
    refine Drawn.take 56 (some 80) (v := ?_) rfl rfl (by kernel_rfl) (by kernel_rfl) (by kernel_rfl) (by kernel_rfl) (by kernel_rfl) rfl (fun _ _ _ h => h) (Or.inl ⟨rfl, ?_⟩) H0 ?_
    rotate_left
    · intro W hW; have hW := HS.out W hW; go_simp; try with_reducible rfl
    simp only [put_list, List.set]
    refine Drawn.take 57 (some 81) (v := ?_) rfl rfl (by kernel_rfl) (by kernel_rfl) (by kernel_rfl) (by kernel_rfl) (by kernel_rfl) rfl (fun _ _ _ h => h) (Or.inl ⟨rfl, ?_⟩) H0 ?_
    rotate_left
    · intro W hW; have hW := HS.out W hW; go_simp; try with_reducible rfl
    simp only [put_list, List.set]
    refine Drawn.take 58 (some 4) (v := ?_) rfl rfl (by kernel_rfl) (by kernel_rfl) (by kernel_rfl) (by kernel_rfl) (by kernel_rfl) rfl (fun _ _ _ h => h) (Or.inl ⟨rfl, ?_⟩) H0 ?_
    rotate_left
    · intro W hW; have hW := HS.out W hW; go_simp; try with_reducible rfl
    simp only [put_list, List.set]
    refine Drawn.done (by kernel_rfl) ?_ _
    go_wp2
    go_ret
    exact ⟨rfl, H0.below⟩
  intro J K' hJ hK'
  have H0 := H.drew
  refine Drawn.startEx (fun i => i == 4) H (by kernel_rfl) ?_
  clear H H1
  refine Drawn.take 0 (some 14) (v := ?_) rfl rfl (by kernel_rfl) (by kernel_rfl) (by kernel_rfl) (by kernel_rfl) (by kernel_rfl) rfl (fun _ _ _ h => h) (Or.inl ⟨rfl, ?_⟩) H0 ?_
  rotate_left
  · intro W hW; have hW := HS.out W hW; go_simp; try with_reducible rfl
  simp only [put_list, List.set]
  have H1 := H0
  clear H0
  generalize World.drew _ = W0 at H1 ⊢
  refine Drawn.among [1, 3] (by kernel_rfl) (by decide) ?_
  intro i hi
  simp only [List.mem_cons, List.not_mem_nil, or_false] at hi
  rcases hi with rfl | rfl
  · refine ⟨_, rfl, rfl, fun K hK => ?_⟩
    go_simp
    refine (from_any 256 _).mono ?_
    rintro e w3 ⟨rfl, hb⟩
    refine hK _ _ (fun _ _ => H1.call hb) ?_
    replace H1 := H1.call hb
    clear hK K hb
    refine Drawn.among [2, 3] (by kernel_rfl) (by decide) ?_
    intro i hi
    simp only [List.mem_cons, List.not_mem_nil, or_false] at hi
    rcases hi with rfl | rfl
    · refine ⟨_, rfl, rfl, fun K hK => ?_⟩
      go_simp
      refine (Or_d HN.out (dig_small (show 256 < M64 by decide)) _).mono ?_
      rintro e w4 ⟨f3, f2, f1, f0, rfl, hf, hb⟩
      have HF := Lib.hid hf; clear hf
      refine hK _ _ (fun _ _ => H1.call hb) ?_
      replace H1 := H1.call hb
      clear hK K hb
      refine Drawn.only 3 (by kernel_rfl) rfl rfl (fun K hK => ?_)
      go_simp
      refine hK _ _ (fun _ _ => H1.alloc _) ?_
      clear hK K
      have h7 : New4 (w2.heap.size + 1) (.int .u64 0) (.int .u64 0) (.int .u64 0) (.int .u64 0) 24 _ _ := New4.here _ H1.size
      replace H1 := H1.alloc (.cells #[.int .u64 0, .int .u64 0, .int .u64 0, .int .u64 0] 24)
      generalize World.alloc _ _ = V1 at H1 h7 ⊢
      obtain ⟨⟨r0, r1, r2, r3⟩, g0, g1, g2, g3⟩ := h7.cells
      refine Drawn.only 4 (by kernel_rfl) rfl rfl (fun K hK => ?_)
      go_simp
      refine hK _ _ (fun h => by simp at h) ?_
      exact Drawn.done (by kernel_rfl) (hK' _ _ (Met.intro (hJ _ _ ⟨_, _, _, _, _, rfl, HF.out, (H1.set4 h7.ge _ _ _ _).add (heap_set4 h7.1 _ _ _ _)⟩))) _
    · refine ⟨_, rfl, rfl, fun K hK => ?_⟩
      go_simp
      refine hK _ _ (fun _ _ => H1.alloc _) ?_
      clear hK K
      have h7 : New4 (w2.heap.size + 1) (.int .u64 0) (.int .u64 0) (.int .u64 0) (.int .u64 0) 24 _ _ := New4.here _ H1.size
      replace H1 := H1.alloc (.cells #[.int .u64 0, .int .u64 0, .int .u64 0, .int .u64 0] 24)
      generalize World.alloc _ _ = V2 at H1 h7 ⊢
      refine Drawn.only 2 (by kernel_rfl) rfl rfl (fun K hK => ?_)
      go_simp
      refine (Or_d HN.out (dig_small (show 256 < M64 by decide)) _).mono ?_
      rintro e w4 ⟨f3, f2, f1, f0, rfl, hf, hb⟩
      have HF := Lib.hid hf; clear hf
      refine hK _ _ (fun _ _ => H1.call hb) ?_
      replace h7 := carry4 hb h7
      replace H1 := H1.call hb
      clear hK K hb
      obtain ⟨⟨r0, r1, r2, r3⟩, g0, g1, g2, g3⟩ := h7.cells
      refine Drawn.only 4 (by kernel_rfl) rfl rfl (fun K hK => ?_)
      go_simp
      refine hK _ _ (fun h => by simp at h) ?_
      exact Drawn.done (by kernel_rfl) (hK' _ _ (Met.intro (hJ _ _ ⟨_, _, _, _, _, rfl, HF.out, (H1.set4 h7.ge _ _ _ _).add (heap_set4 h7.1 _ _ _ _)⟩))) _
  · refine ⟨_, rfl, rfl, fun K hK => ?_⟩
    go_simp
    refine hK _ _ (fun _ _ => H1.alloc _) ?_
    clear hK K
    have h7 : New4 (w2.heap.size + 1) (.int .u64 0) (.int .u64 0) (.int .u64 0) (.int .u64 0) 24 _ _ := New4.here _ H1.size
    replace H1 := H1.alloc (.cells #[.int .u64 0, .int .u64 0, .int .u64 0, .int .u64 0] 24)
    generalize World.alloc _ _ = V3 at H1 h7 ⊢
    refine Drawn.only 1 (by kernel_rfl) rfl rfl (fun K hK => ?_)
    go_simp
    refine (from_any 256 _).mono ?_
    rintro e w3 ⟨rfl, hb⟩
    refine hK _ _ (fun _ _ => H1.call hb) ?_
    replace h7 := carry4 hb h7
    replace H1 := H1.call hb
    clear hK K hb
    refine Drawn.only 2 (by kernel_rfl) rfl rfl (fun K hK => ?_)
    go_simp
    refine (Or_d HN.out (dig_small (show 256 < M64 by decide)) _).mono ?_
    rintro e w4 ⟨f3, f2, f1, f0, rfl, hf, hb⟩
    have HF := Lib.hid hf; clear hf
    refine hK _ _ (fun _ _ => H1.call hb) ?_
    replace h7 := carry4 hb h7
    replace H1 := H1.call hb
    clear hK K hb
    obtain ⟨⟨r0, r1, r2, r3⟩, g0, g1, g2, g3⟩ := h7.cells
    refine Drawn.only 4 (by kernel_rfl) rfl rfl (fun K hK => ?_)
    go_simp
    refine hK _ _ (fun h => by simp at h) ?_
    exact Drawn.done (by kernel_rfl) (hK' _ _ (Met.intro (hJ _ _ ⟨_, _, _, _, _, rfl, HF.out, (H1.set4 h7.ge _ _ _ _).add (heap_set4 h7.1 _ _ _ _)⟩))) _

set_option maxRecDepth 100000 in
set_option maxHeartbeats 8000000 in
theorem shifts_neg {x y a3 a2 a1 a0 n3 n2 n1 n0 : Nat} (hx : Dig x a0 a1 a2 a3) (hy : Dig y n0 n1 n2 n3) (hs : decide (W256 / 2 ≤ x) = true) (w : World) :
    Calls Tryd.prog 9 #[.agg #[.int .u64 a3, .int .u64 a2, .int .u64 a1, .int .u64 a0], .agg #[.int .u64 n3, .int .u64 n2, .int .u64 n1, .int .u64 n0]] w fun e w' =>
      e = .returned (.bool true) ∧ Below w.heap.size w w' := by
  have H := (((Fx.start w).new #[.int .u64 a3, .int .u64 a2, .int .u64 a1, .int .u64 a0] 24).new #[.int .u64 n3, .int .u64 n2, .int .u64 n1, .int .u64 n0] 24).1
  have HA := Lib.hid hx; have HN := Lib.hid hy; have HS0 := Lib.hid hs
  have HFar := Lib.hid (far_ge y)
  have H1 := Lib.hid (dig_small (show 1 < M64 by decide))
  clear hx hy hs
  go_enter Tryd.func9, Tryd.ntmps9
  go_wp2_with fail
  refine (examples_c _).mono ?_
  rintro e w1 ⟨rfl, hb1⟩
  have H0 := H.call hb1
  clear hb1 H
  go_wp2_with fail
  refine (from_any 1 _).mono ?_
  rintro e w2 ⟨rfl, hb2⟩
  have H := ((H0.call hb2).up).new #[.int .u64 0, .int .u64 0, .int .u64 0, .int .u64 1] 24
  clear hb2 H0
  go_wp2_with fail
  have HS := Lib.hid (fun W (hW : Fr w w.heap.size (w2.heap.size + 1) [(w2.heap.size, #[.int .u64 0, .int .u64 0, .int .u64 0, .int .u64 1], 24), (w.heap.size + 1, #[.int .u64 n3, .int .u64 n2, .int .u64 n1, .int .u64 n0], 24), (w.heap.size, #[.int .u64 a3, .int .u64 a2, .int .u64 a1, .int .u64 a0], 24)] W) => And.intro (hW.row (.head _)) (And.intro (hW.row (.tail _ (.head _))) (hW.row (.tail _ (.tail _ (.head _))))))
  refine wp_cut (fun a' Wc => ∃ b7 f3 f2 f1 f0 : Nat, a' = ⟨#[.agg #[.int .u64 a3, .int .u64 a2, .int .u64 a1, .int .u64 a0], .agg #[.int .u64 n3, .int .u64 n2, .int .u64 n1, .int .u64 n0], .pointer (some ⟨w.heap.size, 0, none⟩), .pointer (some ⟨w.heap.size + 1, 0, none⟩), .bool false, .bool true, .pointer (some ⟨w2.heap.size, 0, none⟩), .pointer (some ⟨b7, 0, none⟩), undef, undef, .bool true, .bool true, .bool false, .agg #[.int .u64 0, .int .u64 0, .int .u64 0, .int .u64 1], .agg #[.int .u64 n3, .int .u64 n2, .int .u64 n1, .int .u64 n0], .agg #[.int .u64 0, .int .u64 0, .int .u64 0, .int .u64 256], .agg #[.int .u64 f3, .int .u64 f2, .int .u64 f1, .int .u64 f0], undef, undef, undef, undef, undef, undef, undef, undef, undef, undef, undef, undef, undef, undef, undef, undef, undef, undef, undef, undef, undef, undef, undef, undef, undef, undef, undef, undef, undef, undef, undef, undef, undef, undef, undef, undef, undef, undef, undef, undef, undef, undef, undef, undef, undef, undef, undef, undef, undef, undef, undef, undef, undef, undef, undef, undef, undef, undef, undef, undef, undef, undef, undef, undef, undef], []⟩ ∧ Dig (y ||| 256) f0 f1 f2 f3 ∧ Fr w w.heap.size Wc.heap.size [(b7, #[.int .u64 f3, .int .u64 f2, .int .u64 f1, .int .u64 f0], 24), (w2.heap.size, #[.int .u64 0, .int .u64 0, .int .u64 0, .int .u64 1], 24), (w.heap.size + 1, #[.int .u64 n3, .int .u64 n2, .int .u64 n1, .int .u64 n0], 24), (w.heap.size, #[.int .u64 a3, .int .u64 a2, .int .u64 a1, .int .u64 a0], 24)] Wc) ?rest ?tree
  case rest =>
    rintro a' Wc ⟨b7, f3, f2, f1, f0, rfl, hf, F⟩
    clear H HS
    have HF := Lib.hid hf; clear hf
    have FX : Fx w w.heap.size Wc.heap.size _ Wc := ⟨F, rfl⟩
    have FZ := FX.new #[.int .u64 0, .int .u64 0, .int .u64 0, .int .u64 0] 24
    have kA := F.row (.tail _ (.tail _ (.tail _ (.head _))))
    have nA := F.lt (.tail _ (.tail _ (.tail _ (.head _))))
    have KZ := ((FZ.new #[.int .u64 0, .int .u64 0, .int .u64 0, .int .u64 0] 24).1.know _ (.head _)).2
    replace FZ := Lib.hid FZ; replace KZ := Lib.hid KZ
    clear F FX
    go_wp2_with fail
    clear kA nA
    refine (Below_zero (b := true) HA.out HS0.out _).mono ?_
    rintro e w5 ⟨rfl, hb5⟩
    have F8 := (FZ.out.1.alloc (.cells #[.int .u64 0, .int .u64 0, .int .u64 0, .int .u64 0] 24)).call hb5
    have K9 := (hb5.block _ (lt_of KZ.out)).trans KZ.out
    have kZ := F8.row (.head _)
    clear hb5 KZ FZ
    replace K9 := Lib.hid K9; replace F8 := Lib.hid F8
    go_wp2_with fail
    refine (Not_d dig_zero _).mono ?_
    rintro e w6 ⟨g3, g2, g1, g0, rfl, hg, hb6⟩
    have HG := Lib.hid hg
    have F9 := F8.out.call hb6
    have K10 := (hb6.block _ (lt_of K9.out)).trans K9.out
    have k9 := cells4 K10
    have n9 := lt_of K10
    have S9 := Lib.hid (heap_set4 K10 (.int .u64 g3) (.int .u64 g2) (.int .u64 g1) (.int .u64 g0))
    have G9 := Lib.hid (F9.set4 (b := Wc.heap.size + 1) (Nat.le_refl _) (.int .u64 g3) (.int .u64 g2) (.int .u64 g1) (.int .u64 g0))
    clear hb6 F9 K10 F8 K9 hg kZ
    go_wp2_with fail
    clear k9 n9
    generalize World.setCell _ _ _ = WW at S9 G9 ⊢
    have H0 := (G9.out.add S9.out).drew
    have HS := Lib.hid (fun W (hW : Fr w w.heap.size (WW.heap.size) [(Wc.heap.size + 1, #[.int .u64 g3, .int .u64 g2, .int .u64 g1, .int .u64 g0], 24), (Wc.heap.size, #[.int .u64 0, .int .u64 0, .int .u64 0, .int .u64 0], 24), (b7, #[.int .u64 f3, .int .u64 f2, .int .u64 f1, .int .u64 f0], 24), (w2.heap.size, #[.int .u64 0, .int .u64 0, .int .u64 0, .int .u64 1], 24), (w.heap.size + 1, #[.int .u64 n3, .int .u64 n2, .int .u64 n1, .int .u64 n0], 24), (w.heap.size, #[.int .u64 a3, .int .u64 a2, .int .u64 a1, .int .u64 a0], 24)] W) => And.intro (hW.row (.head _)) (And.intro (hW.row (.tail _ (.head _))) (And.intro (hW.row (.tail _ (.tail _ (.head _)))) (And.intro (hW.row (.tail _ (.tail _ (.tail _ (.head _))))) (And.intro (hW.row (.tail _ (.tail _ (.tail _ (.tail _ (.head _)))))) (hW.row (.tail _ (.tail _ (.tail _ (.tail _ (.tail _ (.head _))))))))))))
    refine Drawn.start (Fr w w.heap.size (WW.heap.size) [(Wc.heap.size + 1, #[.int .u64 g3, .int .u64 g2, .int .u64 g1, .int .u64 g0], 24), (Wc.heap.size, #[.int .u64 0, .int .u64 0, .int .u64 0, .int .u64 0], 24), (b7, #[.int .u64 f3, .int .u64 f2, .int .u64 f1, .int .u64 f0], 24), (w2.heap.size, #[.int .u64 0, .int .u64 0, .int .u64 0, .int .u64 1], 24), (w.heap.size + 1, #[.int .u64 n3, .int .u64 n2, .int .u64 n1, .int .u64 n0], 24), (w.heap.size, #[.int .u64 a3, .int .u64 a2, .int .u64 a1, .int .u64 a0], 24)]) (fun _ => false) (by kernel_rfl) ?_
    refine Drawn.take 0 (some 24) (v := ?_) rfl rfl (by kernel_rfl) (by kernel_rfl) (by kernel_rfl) (by kernel_rfl) (by kernel_rfl) rfl (fun _ _ _ h => h) (Or.inl ⟨rfl, ?_⟩) H0 ?_
    rotate_left
    · intro W hW; have hW := HS.out W hW; go_simp; try with_reducible rfl
    simp only [put_list, List.set]
    refine Drawn.take 1 (some 25) (v := ?_) rfl rfl (by kernel_rfl) (by kernel_rfl) (by kernel_rfl) (by kernel_rfl) (by kernel_rfl) rfl (fun _ _ _ h => h) (Or.inl ⟨rfl, ?_⟩) H0 ?_
    rotate_left
    · intro W hW; have hW := HS.out W hW; go_simp; try with_reducible rfl
    simp only [put_list, List.set]
    refine Drawn.take 2 (some 26) (v := ?_) rfl rfl (by kernel_rfl) (by kernel_rfl) (by kernel_rfl) (by kernel_rfl) (by kernel_rfl) rfl (fun _ _ _ h => h) (Or.inl ⟨rfl, ?_⟩) H0 ?_
    rotate_left
    · intro W hW; have hW := HS.out W hW; go_simp; try with_reducible rfl
    simp only [put_list, List.set]
    refine Drawn.take 3 (some 27) (v := ?_) rfl rfl (by kernel_rfl) (by kernel_rfl) (by kernel_rfl) (by kernel_rfl) (by kernel_rfl) rfl (fun _ _ _ h => h) (Or.inl ⟨rfl, ?_⟩) H0 ?_
    rotate_left
    · intro W hW; have hW := HS.out W hW; go_simp; try with_reducible rfl
    simp only [put_list, List.set]
    refine Drawn.take 5 (some 29) (v := ?_) rfl rfl (by kernel_rfl) (by kernel_rfl) (by kernel_rfl) (by kernel_rfl) (by kernel_rfl) rfl (fun _ _ _ h => h) (Or.inl ⟨rfl, ?_⟩) H0 ?_
    rotate_left
    · intro W hW; have hW := HS.out W hW; go_simp; try with_reducible rfl
    simp only [put_list, List.set]
    refine Drawn.take 6 (some 30) (v := ?_) rfl rfl (by kernel_rfl) (by kernel_rfl) (by kernel_rfl) (by kernel_rfl) (by kernel_rfl) rfl (fun _ _ _ h => h) (Or.inl ⟨rfl, ?_⟩) H0 ?_
    rotate_left
    · intro W hW; have hW := HS.out W hW; go_simp; try with_reducible rfl
    simp only [put_list, List.set]
    refine Drawn.only 4 (by kernel_rfl) rfl rfl (fun K hK => ?_)
    go_simp
    refine (Shl_d H1.out HA.out _).mono ?_
    rintro e w9 ⟨p43, p42, p41, p40, rfl, hd, hb⟩
    refine hK _ _ (fun _ _ => H0.call hb) ?_
    replace H0 := H0.call hb
    clear hK K hb
    have D4 := Lib.hid hd
    clear hd
    refine Drawn.only 7 (by kernel_rfl) rfl rfl (fun K hK => ?_)
    go_simp
    refine (Add_d HA.out HA.out _).mono ?_
    rintro e w9 ⟨p73, p72, p71, p70, rfl, hd, hb⟩
    refine hK _ _ (fun _ _ => H0.call hb) ?_
    replace H0 := H0.call hb
    clear hK K hb
    have D7 := Lib.hid hd
    clear hd
    obtain ⟨rfl, rfl, rfl, rfl⟩ := Dig.same D4.out D7.out (by rw [show min 1 256 = 1 by rfl, Nat.pow_one, Nat.mul_two])
    refine Drawn.take 8 (some 32) (v := ?_) rfl rfl (by kernel_rfl) (by kernel_rfl) (by kernel_rfl) (by kernel_rfl) (by kernel_rfl) rfl (fun _ _ _ h => h) (Or.inl ⟨rfl, ?_⟩) H0 ?_
    rotate_left
    · intro W hW; have hW := HS.out W hW; go_simp; try with_reducible rfl
    simp only [put_list, List.set]
    refine Drawn.take 9 (some 33) (v := ?_) rfl rfl (by kernel_rfl) (by kernel_rfl) (by kernel_rfl) (by kernel_rfl) (by kernel_rfl) rfl (fun _ _ _ h => h) (Or.inl ⟨rfl, ?_⟩) H0 ?_
    rotate_left
    · intro W hW; have hW := HS.out W hW; go_simp; try with_reducible rfl
    simp only [put_list, List.set]
    refine Drawn.take 10 (some 34) (v := ?_) rfl rfl (by kernel_rfl) (by kernel_rfl) (by kernel_rfl) (by kernel_rfl) (by kernel_rfl) rfl (fun _ _ _ h => h) (Or.inl ⟨rfl, ?_⟩) H0 ?_
    rotate_left
    · intro W hW; have hW := HS.out W hW; go_simp; try with_reducible rfl
    simp only [put_list, List.set]
    refine Drawn.take 11 (some 35) (v := ?_) rfl rfl (by kernel_rfl) (by kernel_rfl) (by kernel_rfl) (by kernel_rfl) (by kernel_rfl) rfl (fun _ _ _ h => h) (Or.inl ⟨rfl, ?_⟩) H0 ?_
    rotate_left
    · intro W hW; have hW := HS.out W hW; go_simp; try with_reducible rfl
    simp only [put_list, List.set]
    refine Drawn.take 12 (some 36) (v := ?_) rfl rfl (by kernel_rfl) (by kernel_rfl) (by kernel_rfl) (by kernel_rfl) (by kernel_rfl) rfl (fun _ _ _ h => h) (Or.inl ⟨rfl, ?_⟩) H0 ?_
    rotate_left
    · intro W hW; have hW := HS.out W hW; go_simp; try with_reducible rfl
    simp only [put_list, List.set]
    refine Drawn.take 14 (some 38) (v := ?_) rfl rfl (by kernel_rfl) (by kernel_rfl) (by kernel_rfl) (by kernel_rfl) (by kernel_rfl) rfl (fun _ _ _ h => h) (Or.inl ⟨rfl, ?_⟩) H0 ?_
    rotate_left
    · intro W hW; have hW := HS.out W hW; go_simp; try with_reducible rfl
    simp only [put_list, List.set]
    refine Drawn.only 13 (by kernel_rfl) rfl rfl (fun K hK => ?_)
    go_simp
    refine (Shr_d H1.out HA.out _).mono ?_
    rintro e w9 ⟨p133, p132, p131, p130, rfl, hd, hb⟩
    refine hK _ _ (fun _ _ => H0.call hb) ?_
    replace H0 := H0.call hb
    clear hK K hb
    have D13 := Lib.hid hd
    clear hd
    refine Drawn.only 15 (by kernel_rfl) rfl rfl (fun K hK => ?_)
    go_simp
    refine (from_any 2 _).mono ?_
    rintro e w9 ⟨rfl, hb⟩
    refine hK _ _ (fun _ _ => H0.call hb) ?_
    replace H0 := H0.call hb
    clear hK K hb
    refine Drawn.only 16 (by kernel_rfl) rfl rfl (fun K hK => ?_)
    go_simp
    refine (Div_d HA.out (dig_small (show 2 < M64 by decide)) _).mono ?_
    rintro e w9 ⟨p163, p162, p161, p160, rfl, hd, hb⟩
    refine hK _ _ (fun _ _ => H0.call hb) ?_
    replace H0 := H0.call hb
    clear hK K hb
    have D16 := Lib.hid hd
    clear hd
    obtain ⟨rfl, rfl, rfl, rfl⟩ := Dig.same D16.out D13.out (by rw [show min 1 256 = 1 by rfl, Nat.pow_one])
    refine Drawn.take 17 (some 41) (v := ?_) rfl rfl (by kernel_rfl) (by kernel_rfl) (by kernel_rfl) (by kernel_rfl) (by kernel_rfl) rfl (fun _ _ _ h => h) (Or.inl ⟨rfl, ?_⟩) H0 ?_
    rotate_left
    · intro W hW; have hW := HS.out W hW; go_simp; try with_reducible rfl
    simp only [put_list, List.set]
    refine Drawn.take 18 (some 42) (v := ?_) rfl rfl (by kernel_rfl) (by kernel_rfl) (by kernel_rfl) (by kernel_rfl) (by kernel_rfl) rfl (fun _ _ _ h => h) (Or.inl ⟨rfl, ?_⟩) H0 ?_
    rotate_left
    · intro W hW; have hW := HS.out W hW; go_simp; try with_reducible rfl
    simp only [put_list, List.set]
    refine Drawn.take 19 (some 43) (v := ?_) rfl rfl (by kernel_rfl) (by kernel_rfl) (by kernel_rfl) (by kernel_rfl) (by kernel_rfl) rfl (fun _ _ _ h => h) (Or.inl ⟨rfl, ?_⟩) H0 ?_
    rotate_left
    · intro W hW; have hW := HS.out W hW; go_simp; try with_reducible rfl
    simp only [put_list, List.set]
    refine Drawn.take 20 (some 44) (v := ?_) rfl rfl (by kernel_rfl) (by kernel_rfl) (by kernel_rfl) (by kernel_rfl) (by kernel_rfl) rfl (fun _ _ _ h => h) (Or.inl ⟨rfl, ?_⟩) H0 ?_
    rotate_left
    · intro W hW; have hW := HS.out W hW; go_simp; try with_reducible rfl
    simp only [put_list, List.set]
    refine Drawn.take 21 (some 45) (v := ?_) rfl rfl (by kernel_rfl) (by kernel_rfl) (by kernel_rfl) (by kernel_rfl) (by kernel_rfl) rfl (fun _ _ _ h => h) (Or.inl ⟨rfl, ?_⟩) H0 ?_
    rotate_left
    · intro W hW; have hW := HS.out W hW; go_simp; try with_reducible rfl
    simp only [put_list, List.set]
    refine Drawn.take 23 (some 47) (v := ?_) rfl rfl (by kernel_rfl) (by kernel_rfl) (by kernel_rfl) (by kernel_rfl) (by kernel_rfl) rfl (fun _ _ _ h => h) (Or.inl ⟨rfl, ?_⟩) H0 ?_
    rotate_left
    · intro W hW; have hW := HS.out W hW; go_simp; try with_reducible rfl
    simp only [put_list, List.set]
    refine Drawn.only 22 (by kernel_rfl) rfl rfl (fun K hK => ?_)
    go_simp
    refine (Shl_d HF.out HA.out _).mono ?_
    rintro e w9 ⟨p223, p222, p221, p220, rfl, hd, hb⟩
    refine hK _ _ (fun _ _ => H0.call hb) ?_
    replace H0 := H0.call hb
    clear hK K hb
    have D22 := Lib.hid hd
    clear hd
    obtain ⟨rfl, rfl, rfl, rfl⟩ := Dig.same D22.out dig_zero (far_shl HF.out)
    refine Drawn.take 24 (some 48) (v := ?_) rfl rfl (by kernel_rfl) (by kernel_rfl) (by kernel_rfl) (by kernel_rfl) (by kernel_rfl) rfl (fun _ _ _ h => h) (Or.inl ⟨rfl, ?_⟩) H0 ?_
    rotate_left
    · intro W hW; have hW := HS.out W hW; go_simp; try with_reducible rfl
    simp only [put_list, List.set]
    refine Drawn.take 25 (some 49) (v := ?_) rfl rfl (by kernel_rfl) (by kernel_rfl) (by kernel_rfl) (by kernel_rfl) (by kernel_rfl) rfl (fun _ _ _ h => h) (Or.inl ⟨rfl, ?_⟩) H0 ?_
    rotate_left
    · intro W hW; have hW := HS.out W hW; go_simp; try with_reducible rfl
    simp only [put_list, List.set]
    refine Drawn.take 26 (some 50) (v := ?_) rfl rfl (by kernel_rfl) (by kernel_rfl) (by kernel_rfl) (by kernel_rfl) (by kernel_rfl) rfl (fun _ _ _ h => h) (Or.inl ⟨rfl, ?_⟩) H0 ?_
    rotate_left
    · intro W hW; have hW := HS.out W hW; go_simp; try with_reducible rfl
    simp only [put_list, List.set]
    refine Drawn.take 27 (some 51) (v := ?_) rfl rfl (by kernel_rfl) (by kernel_rfl) (by kernel_rfl) (by kernel_rfl) (by kernel_rfl) rfl (fun _ _ _ h => h) (Or.inl ⟨rfl, ?_⟩) H0 ?_
    rotate_left
    · intro W hW; have hW := HS.out W hW; go_simp; try with_reducible rfl
    simp only [put_list, List.set]
    refine Drawn.take 28 (some 52) (v := ?_) rfl rfl (by kernel_rfl) (by kernel_rfl) (by kernel_rfl) (by kernel_rfl) (by kernel_rfl) rfl (fun _ _ _ h => h) (Or.inl ⟨rfl, ?_⟩) H0 ?_
    rotate_left
    · intro W hW; have hW := HS.out W hW; go_simp; try with_reducible rfl
    simp only [put_list, List.set]
    refine Drawn.take 30 (some 54) (v := ?_) rfl rfl (by kernel_rfl) (by kernel_rfl) (by kernel_rfl) (by kernel_rfl) (by kernel_rfl) rfl (fun _ _ _ h => h) (Or.inl ⟨rfl, ?_⟩) H0 ?_
    rotate_left
    · intro W hW; have hW := HS.out W hW; go_simp; try with_reducible rfl
    simp only [put_list, List.set]
    refine Drawn.only 29 (by kernel_rfl) rfl rfl (fun K hK => ?_)
    go_simp
    refine (Shr_d HF.out HA.out _).mono ?_
    rintro e w9 ⟨p293, p292, p291, p290, rfl, hd, hb⟩
    refine hK _ _ (fun _ _ => H0.call hb) ?_
    replace H0 := H0.call hb
    clear hK K hb
    have D29 := Lib.hid hd
    clear hd
    obtain ⟨rfl, rfl, rfl, rfl⟩ := Dig.same D29.out dig_zero (far_shr HA.out.lt HF.out)
    refine Drawn.take 31 (some 55) (v := ?_) rfl rfl (by kernel_rfl) (by kernel_rfl) (by kernel_rfl) (by kernel_rfl) (by kernel_rfl) rfl (fun _ _ _ h => h) (Or.inl ⟨rfl, ?_⟩) H0 ?_
    rotate_left
    · intro W hW; have hW := HS.out W hW; go_simp; try with_reducible rfl
    simp only [put_list, List.set]
    refine Drawn.take 32 (some 56) (v := ?_) rfl rfl (by kernel_rfl) (by kernel_rfl) (by kernel_rfl) (by kernel_rfl) (by kernel_rfl) rfl (fun _ _ _ h => h) (Or.inl ⟨rfl, ?_⟩) H0 ?_
    rotate_left
    · intro W hW; have hW := HS.out W hW; go_simp; try with_reducible rfl
    simp only [put_list, List.set]
    refine Drawn.take 33 (some 57) (v := ?_) rfl rfl (by kernel_rfl) (by kernel_rfl) (by kernel_rfl) (by kernel_rfl) (by kernel_rfl) rfl (fun _ _ _ h => h) (Or.inl ⟨rfl, ?_⟩) H0 ?_
    rotate_left
    · intro W hW; have hW := HS.out W hW; go_simp; try with_reducible rfl
    simp only [put_list, List.set]
    refine Drawn.take 34 (some 58) (v := ?_) rfl rfl (by kernel_rfl) (by kernel_rfl) (by kernel_rfl) (by kernel_rfl) (by kernel_rfl) rfl (fun _ _ _ h => h) (Or.inl ⟨rfl, ?_⟩) H0 ?_
    rotate_left
    · intro W hW; have hW := HS.out W hW; go_simp; try with_reducible rfl
    simp only [put_list, List.set]
    refine Drawn.take 35 (some 59) (v := ?_) rfl rfl (by kernel_rfl) (by kernel_rfl) (by kernel_rfl) (by kernel_rfl) (by kernel_rfl) rfl (fun _ _ _ h => h) (Or.inl ⟨rfl, ?_⟩) H0 ?_
    rotate_left
    · intro W hW; have hW := HS.out W hW; go_simp; try with_reducible rfl
    simp only [put_list, List.set]
    refine Drawn.take 37 (some 61) (v := ?_) rfl rfl (by kernel_rfl) (by kernel_rfl) (by kernel_rfl) (by kernel_rfl) (by kernel_rfl) rfl (fun _ _ _ h => h) (Or.inl ⟨rfl, ?_⟩) H0 ?_
    rotate_left
    · intro W hW; have hW := HS.out W hW; go_simp; try with_reducible rfl
    simp only [put_list, List.set]
    refine Drawn.only 36 (by kernel_rfl) rfl rfl (fun K hK => ?_)
    go_simp
    refine (Sar_d HF.out HA.out _).mono ?_
    rintro e w9 ⟨p363, p362, p361, p360, rfl, hd, hb⟩
    refine hK _ _ (fun _ _ => H0.call hb) ?_
    replace H0 := H0.call hb
    clear hK K hb
    have D36 := Lib.hid hd
    clear hd
    obtain ⟨rfl, rfl, rfl, rfl⟩ := Dig.same D36.out HG.out (far_sar_neg HA.out.lt HS0.out HFar.out)
    refine Drawn.take 38 (some 62) (v := ?_) rfl rfl (by kernel_rfl) (by kernel_rfl) (by kernel_rfl) (by kernel_rfl) (by kernel_rfl) rfl (fun _ _ _ h => h) (Or.inl ⟨rfl, ?_⟩) H0 ?_
    rotate_left
    · intro W hW; have hW := HS.out W hW; go_simp; try with_reducible rfl
    simp only [put_list, List.set]
    refine Drawn.take 39 (some 63) (v := ?_) rfl rfl (by kernel_rfl) (by kernel_rfl) (by kernel_rfl) (by kernel_rfl) (by kernel_rfl) rfl (fun _ _ _ h => h) (Or.inl ⟨rfl, ?_⟩) H0 ?_
    rotate_left
    · intro W hW; have hW := HS.out W hW; go_simp; try with_reducible rfl
    simp only [put_list, List.set]
    refine Drawn.take 40 (some 64) (v := ?_) rfl rfl (by kernel_rfl) (by kernel_rfl) (by kernel_rfl) (by kernel_rfl) (by kernel_rfl) rfl (fun _ _ _ h => h) (Or.inl ⟨rfl, ?_⟩) H0 ?_
    rotate_left
    · intro W hW; have hW := HS.out W hW; go_simp; try with_reducible rfl
    simp only [put_list, List.set]
    refine Drawn.take 41 (some 65) (v := ?_) rfl rfl (by kernel_rfl) (by kernel_rfl) (by kernel_rfl) (by kernel_rfl) (by kernel_rfl) rfl (fun _ _ _ h => h) (Or.inl ⟨rfl, ?_⟩) H0 ?_
    rotate_left
    · intro W hW; have hW := HS.out W hW; go_simp; try with_reducible rfl
    simp only [put_list, List.set]
    refine Drawn.take 42 (some 66) (v := ?_) rfl rfl (by kernel_rfl) (by kernel_rfl) (by kernel_rfl) (by kernel_rfl) (by kernel_rfl) rfl (fun _ _ _ h => h) (Or.inl ⟨rfl, ?_⟩) H0 ?_
    rotate_left
    · intro W hW; have hW := HS.out W hW; go_simp; try with_reducible rfl
    simp only [put_list, List.set]
    refine Drawn.take 44 (some 68) (v := ?_) rfl rfl (by kernel_rfl) (by kernel_rfl) (by kernel_rfl) (by kernel_rfl) (by kernel_rfl) rfl (fun _ _ _ h => h) (Or.inl ⟨rfl, ?_⟩) H0 ?_
    rotate_left
    · intro W hW; have hW := HS.out W hW; go_simp; try with_reducible rfl
    simp only [put_list, List.set]
    refine Drawn.take 46 (some 70) (v := ?_) rfl rfl (by kernel_rfl) (by kernel_rfl) (by kernel_rfl) (by kernel_rfl) (by kernel_rfl) rfl (fun _ _ _ h => h) (Or.inl ⟨rfl, ?_⟩) H0 ?_
    rotate_left
    · intro W hW; have hW := HS.out W hW; go_simp; try with_reducible rfl
    simp only [put_list, List.set]
    refine Drawn.take 47 (some 71) (v := ?_) rfl rfl (by kernel_rfl) (by kernel_rfl) (by kernel_rfl) (by kernel_rfl) (by kernel_rfl) rfl (fun _ _ _ h => h) (Or.inl ⟨rfl, ?_⟩) H0 ?_
    rotate_left
    · intro W hW; have hW := HS.out W hW; go_simp; try with_reducible rfl
    simp only [put_list, List.set]
    refine Drawn.only 43 (by kernel_rfl) rfl rfl (fun K hK => ?_)
    go_simp
    refine (Sar_d H1.out HA.out _).mono ?_
    rintro e w9 ⟨p433, p432, p431, p430, rfl, hd, hb⟩
    refine hK _ _ (fun _ _ => H0.call hb) ?_
    replace H0 := H0.call hb
    clear hK K hb
    have D43 := Lib.hid hd
    clear hd
    refine Drawn.only 45 (by kernel_rfl) rfl rfl (fun K hK => ?_)
    go_simp
    refine (Below_zero D43.out (sar_sign (b := true) HS0.out) _).mono ?_
    rintro e w9 ⟨rfl, hb⟩
    refine hK _ _ (fun _ _ => H0.call hb) ?_
    replace H0 := H0.call hb
    clear hK K hb
    refine Drawn.only 48 (by kernel_rfl) rfl rfl (fun K hK => ?_)
    go_simp
    refine (Below_zero (b := true) HA.out HS0.out _).mono ?_
    rintro e w9 ⟨rfl, hb⟩
    refine hK _ _ (fun _ _ => H0.call hb) ?_
    replace H0 := H0.call hb
    clear hK K hb
    refine Drawn.take 49 (some 73) (v := ?_) rfl rfl (by kernel_rfl) (by kernel_rfl) (by kernel_rfl) (by kernel_rfl) (by kernel_rfl) rfl (fun _ _ _ h => h) (Or.inl ⟨rfl, ?_⟩) H0 ?_
    rotate_left
    · intro W hW; have hW := HS.out W hW; go_simp; try with_reducible rfl
    simp only [put_list, List.set]
    refine Drawn.take 50 (some 74) (v := ?_) rfl rfl (by kernel_rfl) (by kernel_rfl) (by kernel_rfl) (by kernel_rfl) (by kernel_rfl) rfl (fun _ _ _ h => h) (Or.inl ⟨rfl, ?_⟩) H0 ?_
    rotate_left
    · intro W hW; have hW := HS.out W hW; go_simp; try with_reducible rfl
    simp only [put_list, List.set]
    refine Drawn.take 51 (some 75) (v := ?_) rfl rfl (by kernel_rfl) (by kernel_rfl) (by kernel_rfl) (by kernel_rfl) (by kernel_rfl) rfl (fun _ _ _ h => h) (Or.inl ⟨rfl, ?_⟩) H0 ?_
    rotate_left
    · intro W hW; have hW := HS.out W hW; go_simp; try with_reducible rfl
    simp only [put_list, List.set]
    refine Drawn.take 52 (some 76) (v := ?_) rfl rfl (by kernel_rfl) (by kernel_rfl) (by kernel_rfl) (by kernel_rfl) (by kernel_rfl) rfl (fun _ _ _ h => h) (Or.inl ⟨rfl, ?_⟩) H0 ?_
    rotate_left
    · intro W hW; have hW := HS.out W hW; go_simp; try with_reducible rfl
    simp only [put_list, List.set]
    refine Drawn.take 53 (some 77) (v := ?_) rfl rfl (by kernel_rfl) (by kernel_rfl) (by kernel_rfl) (by kernel_rfl) (by kernel_rfl) rfl (fun _ _ _ h => h) (Or.inl ⟨rfl, ?_⟩) H0 ?_
    rotate_left
    · intro W hW; have hW := HS.out W hW; go_simp; try with_reducible rfl
    simp only [put_list, List.set]
    refine Drawn.take 55 (some 79) (v := ?_) rfl rfl (by kernel_rfl) (by kernel_rfl) (by kernel_rfl) (by kernel_rfl) (by kernel_rfl) rfl (fun _ _ _ h => h) (Or.inl ⟨rfl, ?_⟩) H0 ?_
    rotate_left
    · intro W hW; have hW := HS.out W hW; go_simp; try with_reducible rfl
    simp only [put_list, List.set]
    refine Drawn.only 54 (by kernel_rfl) rfl rfl (fun K hK => ?_)
    go_simp
    refine (Sar_d dig_zero HA.out _).mono ?_
    rintro e w9 ⟨p543, p542, p541, p540, rfl, hd, hb⟩
    refine hK _ _ (fun _ _ => H0.call hb) ?_
    replace H0 := H0.call hb
    clear hK K hb
    have D54 := Lib.hid hd
    clear hd
    obtain ⟨rfl, rfl, rfl, rfl⟩ := Dig.same D54.out HA.out (sar_zero HA.out.lt)
    refine Drawn.take 56 (some 80) (v := ?_) rfl rfl (by kernel_rfl) (by kernel_rfl) (by kernel_rfl) (by kernel_rfl) (by kernel_rfl) rfl (fun _ _ _ h => h) (Or.inl ⟨rfl, ?_⟩) H0 ?_
    rotate_left
    · intro W hW; have hW := HS.out W hW; go_simp; try with_reducible rfl
    simp only [put_list, List.set]
    refine Drawn.take 57 (some 81) (v := ?_) rfl rfl (by kernel_rfl) (by kernel_rfl) (by kernel_rfl) (by kernel_rfl) (by kernel_rfl) rfl (fun _ _ _ h => h) (Or.inl ⟨rfl, ?_⟩) H0 ?_
    rotate_left
    · intro W hW; have hW := HS.out W hW; go_simp; try with_reducible rfl
    simp only [put_list, List.set]
    refine Drawn.take 58 (some 4) (v := ?_) rfl rfl (by kernel_rfl) (by kernel_rfl) (by kernel_rfl) (by kernel_rfl) (by kernel_rfl) rfl (fun _ _ _ h => h) (Or.inl ⟨rfl, ?_⟩) H0 ?_
    rotate_left
    · intro W hW; have hW := HS.out W hW; go_simp; try with_reducible rfl
    simp only [put_list, List.set]
    refine Drawn.done (by kernel_rfl) ?_ _
    go_wp2
    go_ret
    exact ⟨rfl, H0.below⟩
  intro J K' hJ hK'
  have H0 := H.drew
  refine Drawn.startEx (fun i => i == 4) H (by kernel_rfl) ?_
  clear H H1
  refine Drawn.take 0 (some 14) (v := ?_) rfl rfl (by kernel_rfl) (by kernel_rfl) (by kernel_rfl) (by kernel_rfl) (by kernel_rfl) rfl (fun _ _ _ h => h) (Or.inl ⟨rfl, ?_⟩) H0 ?_
  rotate_left
  · intro W hW; have hW := HS.out W hW; go_simp; try with_reducible rfl
  simp only [put_list, List.set]
  have H1 := H0
  clear H0
  generalize World.drew _ = W0 at H1 ⊢
  refine Drawn.among [1, 3] (by kernel_rfl) (by decide) ?_
  intro i hi
  simp only [List.mem_cons, List.not_mem_nil, or_false] at hi
  rcases hi with rfl | rfl
  · refine ⟨_, rfl, rfl, fun K hK => ?_⟩
    go_simp
    refine (from_any 256 _).mono ?_
    rintro e w3 ⟨rfl, hb⟩
    refine hK _ _ (fun _ _ => H1.call hb) ?_
    replace H1 := H1.call hb
    clear hK K hb
    refine Drawn.among [2, 3] (by kernel_rfl) (by decide) ?_
    intro i hi
    simp only [List.mem_cons, List.not_mem_nil, or_false] at hi
    rcases hi with rfl | rfl
    · refine ⟨_, rfl, rfl, fun K hK => ?_⟩
      go_simp
      refine (Or_d HN.out (dig_small (show 256 < M64 by decide)) _).mono ?_
      rintro e w4 ⟨f3, f2, f1, f0, rfl, hf, hb⟩
      have HF := Lib.hid hf; clear hf
      refine hK _ _ (fun _ _ => H1.call hb) ?_
      replace H1 := H1.call hb
      clear hK K hb
      refine Drawn.only 3 (by kernel_rfl) rfl rfl (fun K hK => ?_)
      go_simp
      refine hK _ _ (fun _ _ => H1.alloc _) ?_
      clear hK K
      have h7 : New4 (w2.heap.size + 1) (.int .u64 0) (.int .u64 0) (.int .u64 0) (.int .u64 0) 24 _ _ := New4.here _ H1.size
      replace H1 := H1.alloc (.cells #[.int .u64 0, .int .u64 0, .int .u64 0, .int .u64 0] 24)
      generalize World.alloc _ _ = V1 at H1 h7 ⊢
      obtain ⟨⟨r0, r1, r2, r3⟩, g0, g1, g2, g3⟩ := h7.cells
      refine Drawn.only 4 (by kernel_rfl) rfl rfl (fun K hK => ?_)
      go_simp
      refine hK _ _ (fun h => by simp at h) ?_
      exact Drawn.done (by kernel_rfl) (hK' _ _ (Met.intro (hJ _ _ ⟨_, _, _, _, _, rfl, HF.out, (H1.set4 h7.ge _ _ _ _).add (heap_set4 h7.1 _ _ _ _)⟩))) _
    · refine ⟨_, rfl, rfl, fun K hK => ?_⟩
      go_simp
      refine hK _ _ (fun _ _ => H1.alloc _) ?_
      clear hK K
      have h7 : New4 (w2.heap.size + 1) (.int .u64 0) (.int .u64 0) (.int .u64 0) (.int .u64 0) 24 _ _ := New4.here _ H1.size
      replace H1 := H1.alloc (.cells #[.int .u64 0, .int .u64 0, .int .u64 0, .int .u64 0] 24)
      generalize World.alloc _ _ = V2 at H1 h7 ⊢
      refine Drawn.only 2 (by kernel_rfl) rfl rfl (fun K hK => ?_)
      go_simp
      refine (Or_d HN.out (dig_small (show 256 < M64 by decide)) _).mono ?_
      rintro e w4 ⟨f3, f2, f1, f0, rfl, hf, hb⟩
      have HF := Lib.hid hf; clear hf
      refine hK _ _ (fun _ _ => H1.call hb) ?_
      replace h7 := carry4 hb h7
      replace H1 := H1.call hb
      clear hK K hb
      obtain ⟨⟨r0, r1, r2, r3⟩, g0, g1, g2, g3⟩ := h7.cells
      refine Drawn.only 4 (by kernel_rfl) rfl rfl (fun K hK => ?_)
      go_simp
      refine hK _ _ (fun h => by simp at h) ?_
      exact Drawn.done (by kernel_rfl) (hK' _ _ (Met.intro (hJ _ _ ⟨_, _, _, _, _, rfl, HF.out, (H1.set4 h7.ge _ _ _ _).add (heap_set4 h7.1 _ _ _ _)⟩))) _
  · refine ⟨_, rfl, rfl, fun K hK => ?_⟩
    go_simp
    refine hK _ _ (fun _ _ => H1.alloc _) ?_
    clear hK K
    have h7 : New4 (w2.heap.size + 1) (.int .u64 0) (.int .u64 0) (.int .u64 0) (.int .u64 0) 24 _ _ := New4.here _ H1.size
    replace H1 := H1.alloc (.cells #[.int .u64 0, .int .u64 0, .int .u64 0, .int .u64 0] 24)
    generalize World.alloc _ _ = V3 at H1 h7 ⊢
    refine Drawn.only 1 (by kernel_rfl) rfl rfl (fun K hK => ?_)
    go_simp
    refine (from_any 256 _).mono ?_
    rintro e w3 ⟨rfl, hb⟩
    refine hK _ _ (fun _ _ => H1.call hb) ?_
    replace h7 := carry4 hb h7
    replace H1 := H1.call hb
    clear hK K hb
    refine Drawn.only 2 (by kernel_rfl) rfl rfl (fun K hK => ?_)
    go_simp
    refine (Or_d HN.out (dig_small (show 256 < M64 by decide)) _).mono ?_
    rintro e w4 ⟨f3, f2, f1, f0, rfl, hf, hb⟩
    have HF := Lib.hid hf; clear hf
    refine hK _ _ (fun _ _ => H1.call hb) ?_
    replace h7 := carry4 hb h7
    replace H1 := H1.call hb
    clear hK K hb
    obtain ⟨⟨r0, r1, r2, r3⟩, g0, g1, g2, g3⟩ := h7.cells
    refine Drawn.only 4 (by kernel_rfl) rfl rfl (fun K hK => ?_)
    go_simp
    refine hK _ _ (fun h => by simp at h) ?_
    exact Drawn.done (by kernel_rfl) (hK' _ _ (Met.intro (hJ _ _ ⟨_, _, _, _, _, rfl, HF.out, (H1.set4 h7.ge _ _ _ _).add (heap_set4 h7.1 _ _ _ _)⟩))) _

theorem shifts_c {x y a3 a2 a1 a0 n3 n2 n1 n0 : Nat} (hx : Dig x a0 a1 a2 a3) (hy : Dig y n0 n1 n2 n3) (w : World) :
    Calls Tryd.prog 9 #[.agg #[.int .u64 a3, .int .u64 a2, .int .u64 a1, .int .u64 a0], .agg #[.int .u64 n3, .int .u64 n2, .int .u64 n1, .int .u64 n0]] w fun e w' =>
      e = .returned (.bool true) ∧ Below w.heap.size w w' := by
  cases hs : decide (W256 / 2 ≤ x)
  · exact shifts_pos hx hy hs w
  · exact shifts_neg hx hy hs w

end Go.Proofs.YtofoiifckkafcaaDoor
