/- The contract of chapter 2's examples: they are so. -/
import Derived.Test.YthbfhfgmanafpaaModF
import Derived.Test.YthbfhfgmanafpaaModG
namespace Go.Proofs.Ythbfhfgmanafpaa
open Go.RowKit
attribute [local go_sem ↓] Go.wp_at_zero Go.wp_at_succ

theorem len256 {l : Nat} (h : BitLen 256 l) : l = 9 := by
  obtain ⟨h1, h2, h3⟩ := h
  rcases Nat.lt_or_ge l 9 with hl | hl
  · exfalso
    have : 2 ^ l ≤ 2 ^ 8 := Nat.pow_le_pow_right (by decide) (by omega)
    omega
  · rcases Nat.lt_or_ge 9 l with hl2 | hl2
    · exfalso
      have h4 := h3 (by omega)
      have : 2 ^ 9 ≤ 2 ^ (l - 1) := Nat.pow_le_pow_right (by decide) (by omega)
      omega
    · omega

set_option maxRecDepth 100000 in
set_option maxHeartbeats 4000000 in
theorem examples2_c (w : World) : Calls Try.prog 8 #[] w fun e w' => e = .returned (.bool true) ∧ Below w.heap.size w w' := by
  go_enter Try.func8, Try.ntmps8
  go_wp2_with fail
  refine (from_any 7 _).mono ?_
  rintro e w1 ⟨rfl, hb1⟩
  have H := Lib.hid ((Fr.start w).call hb1)
  clear hb1
  go_wp2_with fail
  refine (Sub_d dig_zero (dig_small (show 7 < M64 by decide)) _).mono ?_
  rintro e w2 ⟨s3, s2, s1, s0, rfl, hs, hb2⟩
  have H0 := (((H.out.call hb2).up).new #[.int .u64 s3, .int .u64 s2, .int .u64 s1, .int .u64 s0] 24).drew
  have HSV := Lib.hid hs
  clear hb2 H hs
  replace H0 := Lib.hid H0
  go_wp2_with fail
  replace H0 := H0.out
  have HS := Lib.hid (fun W (hW : Fr w w.heap.size (w2.heap.size + 1) [(w2.heap.size, #[.int .u64 s3, .int .u64 s2, .int .u64 s1, .int .u64 s0], 24)] W) => hW.row (.head _))
  refine Drawn.start (Fr w w.heap.size (w2.heap.size + 1) [(w2.heap.size, #[.int .u64 s3, .int .u64 s2, .int .u64 s1, .int .u64 s0], 24)]) (fun _ => false) (by kernel_rfl) ?_
  refine Drawn.take 0 (some 5) (v := ?_) rfl rfl (by kernel_rfl) (by kernel_rfl) (by kernel_rfl) (by kernel_rfl) (by kernel_rfl) rfl (fun _ _ _ h => h) (Or.inl ⟨rfl, ?_⟩) H0 ?_
  rotate_left
  · intro W hW; have hW := HS.out W hW; go_simp; try with_reducible rfl
  simp only [put_list, List.set]
  refine Drawn.take 3 (some 8) (v := ?_) rfl rfl (by kernel_rfl) (by kernel_rfl) (by kernel_rfl) (by kernel_rfl) (by kernel_rfl) rfl (fun _ _ _ h => h) (Or.inl ⟨rfl, ?_⟩) H0 ?_
  rotate_left
  · intro W hW; have hW := HS.out W hW; go_simp; try with_reducible rfl
  simp only [put_list, List.set]
  refine Drawn.only 1 (by kernel_rfl) rfl rfl (fun K hK => ?_)
  go_simp
  refine (from_any 2 _).mono ?_
  rintro e w9 ⟨rfl, hb⟩
  refine hK _ _ (fun _ _ => H0.call hb) ?_
  replace H0 := H0.call hb
  clear hK K hb
  refine Drawn.only 2 (by kernel_rfl) rfl rfl (fun K hK => ?_)
  go_simp
  refine (SDiv_c HSV.out (dig_small (show 2 < M64 by decide)) _).mono ?_
  rintro e w9 ⟨p23, p22, p21, p20, rfl, hd, hb⟩
  refine hK _ _ (fun _ _ => H0.call hb) ?_
  replace H0 := H0.call hb
  clear hK K hb
  have D2 := Lib.hid hd
  clear hd
  refine Drawn.only 4 (by kernel_rfl) rfl rfl (fun K hK => ?_)
  go_simp
  refine (from_any 3 _).mono ?_
  rintro e w9 ⟨rfl, hb⟩
  refine hK _ _ (fun _ _ => H0.call hb) ?_
  replace H0 := H0.call hb
  clear hK K hb
  refine Drawn.only 5 (by kernel_rfl) rfl rfl (fun K hK => ?_)
  go_simp
  refine (Sub_d dig_zero (dig_small (show 3 < M64 by decide)) _).mono ?_
  rintro e w9 ⟨p53, p52, p51, p50, rfl, hd, hb⟩
  refine hK _ _ (fun _ _ => H0.call hb) ?_
  replace H0 := H0.call hb
  clear hK K hb
  have D5 := Lib.hid hd
  clear hd
  obtain ⟨rfl, rfl, rfl, rfl⟩ := Dig.same D2.out D5.out (by decide +kernel)
  refine Drawn.take 6 (some 11) (v := ?_) rfl rfl (by kernel_rfl) (by kernel_rfl) (by kernel_rfl) (by kernel_rfl) (by kernel_rfl) rfl (fun _ _ _ h => h) (Or.inl ⟨rfl, ?_⟩) H0 ?_
  rotate_left
  · intro W hW; have hW := HS.out W hW; go_simp; try with_reducible rfl
  simp only [put_list, List.set]
  refine Drawn.take 7 (some 12) (v := ?_) rfl rfl (by kernel_rfl) (by kernel_rfl) (by kernel_rfl) (by kernel_rfl) (by kernel_rfl) rfl (fun _ _ _ h => h) (Or.inl ⟨rfl, ?_⟩) H0 ?_
  rotate_left
  · intro W hW; have hW := HS.out W hW; go_simp; try with_reducible rfl
  simp only [put_list, List.set]
  refine Drawn.take 8 (some 13) (v := ?_) rfl rfl (by kernel_rfl) (by kernel_rfl) (by kernel_rfl) (by kernel_rfl) (by kernel_rfl) rfl (fun _ _ _ h => h) (Or.inl ⟨rfl, ?_⟩) H0 ?_
  rotate_left
  · intro W hW; have hW := HS.out W hW; go_simp; try with_reducible rfl
  simp only [put_list, List.set]
  refine Drawn.take 11 (some 16) (v := ?_) rfl rfl (by kernel_rfl) (by kernel_rfl) (by kernel_rfl) (by kernel_rfl) (by kernel_rfl) rfl (fun _ _ _ h => h) (Or.inl ⟨rfl, ?_⟩) H0 ?_
  rotate_left
  · intro W hW; have hW := HS.out W hW; go_simp; try with_reducible rfl
  simp only [put_list, List.set]
  refine Drawn.only 9 (by kernel_rfl) rfl rfl (fun K hK => ?_)
  go_simp
  refine (from_any 2 _).mono ?_
  rintro e w9 ⟨rfl, hb⟩
  refine hK _ _ (fun _ _ => H0.call hb) ?_
  replace H0 := H0.call hb
  clear hK K hb
  refine Drawn.only 10 (by kernel_rfl) rfl rfl (fun K hK => ?_)
  go_simp
  refine (SMod_c HSV.out (dig_small (show 2 < M64 by decide)) _).mono ?_
  rintro e w9 ⟨p103, p102, p101, p100, rfl, hd, hb⟩
  refine hK _ _ (fun _ _ => H0.call hb) ?_
  replace H0 := H0.call hb
  clear hK K hb
  have D10 := Lib.hid hd
  clear hd
  refine Drawn.only 12 (by kernel_rfl) rfl rfl (fun K hK => ?_)
  go_simp
  refine (from_any 1 _).mono ?_
  rintro e w9 ⟨rfl, hb⟩
  refine hK _ _ (fun _ _ => H0.call hb) ?_
  replace H0 := H0.call hb
  clear hK K hb
  refine Drawn.only 13 (by kernel_rfl) rfl rfl (fun K hK => ?_)
  go_simp
  refine (Sub_d dig_zero (dig_small (show 1 < M64 by decide)) _).mono ?_
  rintro e w9 ⟨p133, p132, p131, p130, rfl, hd, hb⟩
  refine hK _ _ (fun _ _ => H0.call hb) ?_
  replace H0 := H0.call hb
  clear hK K hb
  have D13 := Lib.hid hd
  clear hd
  obtain ⟨rfl, rfl, rfl, rfl⟩ := Dig.same D10.out D13.out (by decide +kernel)
  refine Drawn.take 14 (some 19) (v := ?_) rfl rfl (by kernel_rfl) (by kernel_rfl) (by kernel_rfl) (by kernel_rfl) (by kernel_rfl) rfl (fun _ _ _ h => h) (Or.inl ⟨rfl, ?_⟩) H0 ?_
  rotate_left
  · intro W hW; have hW := HS.out W hW; go_simp; try with_reducible rfl
  simp only [put_list, List.set]
  refine Drawn.take 15 (some 20) (v := ?_) rfl rfl (by kernel_rfl) (by kernel_rfl) (by kernel_rfl) (by kernel_rfl) (by kernel_rfl) rfl (fun _ _ _ h => h) (Or.inl ⟨rfl, ?_⟩) H0 ?_
  rotate_left
  · intro W hW; have hW := HS.out W hW; go_simp; try with_reducible rfl
  simp only [put_list, List.set]
  refine Drawn.take 16 (some 21) (v := ?_) rfl rfl (by kernel_rfl) (by kernel_rfl) (by kernel_rfl) (by kernel_rfl) (by kernel_rfl) rfl (fun _ _ _ h => h) (Or.inl ⟨rfl, ?_⟩) H0 ?_
  rotate_left
  · intro W hW; have hW := HS.out W hW; go_simp; try with_reducible rfl
  simp only [put_list, List.set]
  refine Drawn.only 17 (by kernel_rfl) rfl rfl (fun K hK => ?_)
  go_simp
  refine (from_any 2 _).mono ?_
  rintro e w9 ⟨rfl, hb⟩
  refine hK _ _ (fun _ _ => H0.call hb) ?_
  replace H0 := H0.call hb
  clear hK K hb
  refine Drawn.only 18 (by kernel_rfl) rfl rfl (fun K hK => ?_)
  go_simp
  refine (from_any 10 _).mono ?_
  rintro e w9 ⟨rfl, hb⟩
  refine hK _ _ (fun _ _ => H0.call hb) ?_
  replace H0 := H0.call hb
  clear hK K hb
  refine Drawn.only 19 (by kernel_rfl) rfl rfl (fun K hK => ?_)
  go_simp
  refine (Exp_c (dig_small (show 2 < M64 by decide)) (dig_small (show 10 < M64 by decide)) _).mono ?_
  rintro e w9 ⟨p193, p192, p191, p190, rfl, hd, hb⟩
  refine hK _ _ (fun _ _ => H0.call hb) ?_
  replace H0 := H0.call hb
  clear hK K hb
  have D19 := Lib.hid hd
  clear hd
  obtain ⟨rfl, rfl, rfl, rfl⟩ := Dig.same D19.out (dig_small (show 1024 < M64 by decide)) (by decide +kernel)
  refine Drawn.only 20 (by kernel_rfl) rfl rfl (fun K hK => ?_)
  go_simp
  refine (from_any 1024 _).mono ?_
  rintro e w9 ⟨rfl, hb⟩
  refine hK _ _ (fun _ _ => H0.call hb) ?_
  replace H0 := H0.call hb
  clear hK K hb
  refine Drawn.take 21 (some 26) (v := ?_) rfl rfl (by kernel_rfl) (by kernel_rfl) (by kernel_rfl) (by kernel_rfl) (by kernel_rfl) rfl (fun _ _ _ h => h) (Or.inl ⟨rfl, ?_⟩) H0 ?_
  rotate_left
  · intro W hW; have hW := HS.out W hW; go_simp; try with_reducible rfl
  simp only [put_list, List.set]
  refine Drawn.take 22 (some 27) (v := ?_) rfl rfl (by kernel_rfl) (by kernel_rfl) (by kernel_rfl) (by kernel_rfl) (by kernel_rfl) rfl (fun _ _ _ h => h) (Or.inl ⟨rfl, ?_⟩) H0 ?_
  rotate_left
  · intro W hW; have hW := HS.out W hW; go_simp; try with_reducible rfl
  simp only [put_list, List.set]
  refine Drawn.take 23 (some 28) (v := ?_) rfl rfl (by kernel_rfl) (by kernel_rfl) (by kernel_rfl) (by kernel_rfl) (by kernel_rfl) rfl (fun _ _ _ h => h) (Or.inl ⟨rfl, ?_⟩) H0 ?_
  rotate_left
  · intro W hW; have hW := HS.out W hW; go_simp; try with_reducible rfl
  simp only [put_list, List.set]
  refine Drawn.only 24 (by kernel_rfl) rfl rfl (fun K hK => ?_)
  go_simp
  refine (from_any 256 _).mono ?_
  rintro e w9 ⟨rfl, hb⟩
  refine hK _ _ (fun _ _ => H0.call hb) ?_
  replace H0 := H0.call hb
  clear hK K hb
  refine Drawn.only 25 (by kernel_rfl) rfl rfl (fun K hK => ?_)
  go_simp
  refine (Size_c (dig_small (show 256 < M64 by decide)) _).mono ?_
  rintro e w9 ⟨l, hl, rfl, hb⟩
  refine hK _ _ (fun _ _ => H0.call hb) ?_
  replace H0 := H0.call hb
  clear hK K hb
  obtain rfl := len256 hl
  clear hl
  refine Drawn.take 26 (some 31) (v := ?_) rfl rfl (by kernel_rfl) (by kernel_rfl) (by kernel_rfl) (by kernel_rfl) (by kernel_rfl) rfl (fun _ _ _ h => h) (Or.inl ⟨rfl, ?_⟩) H0 ?_
  rotate_left
  · intro W hW; have hW := HS.out W hW; go_simp; try with_reducible rfl
  simp only [put_list, List.set]
  refine Drawn.take 27 (some 32) (v := ?_) rfl rfl (by kernel_rfl) (by kernel_rfl) (by kernel_rfl) (by kernel_rfl) (by kernel_rfl) rfl (fun _ _ _ h => h) (Or.inl ⟨rfl, ?_⟩) H0 ?_
  rotate_left
  · intro W hW; have hW := HS.out W hW; go_simp; try with_reducible rfl
  simp only [put_list, List.set]
  refine Drawn.take 28 (some 0) (v := ?_) rfl rfl (by kernel_rfl) (by kernel_rfl) (by kernel_rfl) (by kernel_rfl) (by kernel_rfl) rfl (fun _ _ _ h => h) (Or.inl ⟨rfl, ?_⟩) H0 ?_
  rotate_left
  · intro W hW; have hW := HS.out W hW; go_simp; try with_reducible rfl
  simp only [put_list, List.set]
  refine Drawn.done (by kernel_rfl) ?_ _
  go_wp2
  go_ret
  exact ⟨rfl, H0.below⟩

end Go.Proofs.Ythbfhfgmanafpaa
