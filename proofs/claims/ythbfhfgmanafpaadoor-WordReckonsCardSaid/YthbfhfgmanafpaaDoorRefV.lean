/- The contract of the reference's Below. -/
import Derived.Test.YthbfhfgmanafpaaDoorRefE
import Derived.Test.YthbfhfgmanafpaaDoorWordD
import Derived.Test.YthbfhfgmanafpaaDoorAmong
namespace Go.Proofs.YthbfhfgmanafpaaDoor
open Go.RowKit Go.Joins
attribute [local go_sem ↓] Go.wp_at_zero Go.wp_at_succ

theorem flip_less {x y : Nat} (hx : x < W256) (hy : y < W256) : decide (flip255 x < flip255 y) = (if (decide (W256 / 2 ≤ x) != decide (W256 / 2 ≤ y)) = true then decide (W256 / 2 ≤ x) else decide (x < y)) := by
  unfold flip255 W256 M64 at *
  by_cases h1 : 18446744073709551616 * (18446744073709551616 * (18446744073709551616 * 18446744073709551616)) / 2 ≤ x <;> by_cases h2 : 18446744073709551616 * (18446744073709551616 * (18446744073709551616 * 18446744073709551616)) / 2 ≤ y <;> simp [h1, h2] <;> omega

set_option maxRecDepth 100000 in
set_option maxHeartbeats 4000000 in
theorem rBelow_c {x y b3 b2 b1 b0 a3 a2 a1 a0 : Nat} (hx : Dig x a0 a1 a2 a3) (hy : Dig y b0 b1 b2 b3) (w : World) :
    Calls Tryd.prog 24 #[.agg #[.int .u64 a3, .int .u64 a2, .int .u64 a1, .int .u64 a0], .agg #[.int .u64 b3, .int .u64 b2, .int .u64 b1, .int .u64 b0]] w fun e w' => e = .returned (.bool (decide (flip255 x < flip255 y))) ∧ Below w.heap.size w w' := by
  have H := (((Fx.start w).new #[.int .u64 a3, .int .u64 a2, .int .u64 a1, .int .u64 a0] 24).new #[.int .u64 b3, .int .u64 b2, .int .u64 b1, .int .u64 b0] 24).1
  have HX := Lib.hid hx; have HY := Lib.hid hy
  have HF := Lib.hid (flip_less hx.lt hy.lt)
  clear hx hy
  go_enter Tryd.func24, Tryd.ntmps24
  go_wp2_with fail
  have H0 := H.drew
  have HS := Lib.hid (fun W (hW : Fr w w.heap.size (w.heap.size + 1 + 1) [(w.heap.size + 1, #[.int .u64 b3, .int .u64 b2, .int .u64 b1, .int .u64 b0], 24), (w.heap.size, #[.int .u64 a3, .int .u64 a2, .int .u64 a1, .int .u64 a0], 24)] W) => And.intro (hW.row (.head _)) (hW.row (.tail _ (.head _))))
  refine Drawn.startEx (fun _ => false) H (by kernel_rfl) ?_
  clear H
  refine Drawn.take 0 (some 5) (v := ?_) rfl rfl (by kernel_rfl) (by kernel_rfl) (by kernel_rfl) (by kernel_rfl) (by kernel_rfl) rfl (fun _ _ _ h => h) (Or.inl ⟨rfl, ?_⟩) H0 ?_
  rotate_left
  · intro W hW; have hW := HS.out W hW; go_simp; try with_reducible rfl
  simp only [put_list, List.set]
  refine Drawn.take 2 (some 7) (v := ?_) rfl rfl (by kernel_rfl) (by kernel_rfl) (by kernel_rfl) (by kernel_rfl) (by kernel_rfl) rfl (fun _ _ _ h => h) (Or.inl ⟨rfl, ?_⟩) H0 ?_
  rotate_left
  · intro W hW; have hW := HS.out W hW; go_simp; try with_reducible rfl
  simp only [put_list, List.set]
  refine Drawn.only 1 (by kernel_rfl) rfl rfl (fun K hK => ?_)
  go_simp
  refine (rNeg_c HX.out _).mono ?_
  rintro e w9 ⟨rfl, hb⟩
  refine hK _ _ (fun _ _ => H0.call hb) ?_
  replace H0 := H0.call hb
  clear hK K hb
  refine Drawn.only 3 (by kernel_rfl) rfl rfl (fun K hK => ?_)
  go_simp
  refine (rNeg_c HY.out _).mono ?_
  rintro e w9 ⟨rfl, hb⟩
  refine hK _ _ (fun _ _ => H0.call hb) ?_
  replace H0 := H0.call hb
  clear hK K hb
  refine Drawn.take 4 (some 9) (v := ?_) rfl rfl (by kernel_rfl) (by kernel_rfl) (by kernel_rfl) (by kernel_rfl) (by kernel_rfl) rfl (fun _ _ _ h => h) (Or.inl ⟨rfl, ?_⟩) H0 ?_
  rotate_left
  · intro W hW; have hW := HS.out W hW; go_simp; try with_reducible rfl
  simp only [put_list, List.set]
  refine Drawn.done (by kernel_rfl) ?_ _
  have HN := Lib.hid (fun W => rNeg_c HX.out W)
  have HL := Lib.hid (fun W => rLess_c HX.out HY.out W)
  generalize decide (W256 / 2 ≤ x) = p at *
  generalize decide (W256 / 2 ≤ y) = q at *
  have kA := H0.row (.tail _ (.head _)); have kB := H0.row (.head _)
  have HB := Lib.hid H0.below
  clear H0 HS
  cases p <;> cases q <;> simp only [Bool.not_false, Bool.not_true, show (false == true) = false from rfl, show (true == false) = false from rfl, show (true == true) = true from rfl, show (false == false) = true from rfl]
  · go_wp2_with fail
    refine (HL.out _).mono ?_
    rintro e w8 ⟨rfl, hb⟩
    have HB2 := Lib.hid (HB.out.trans (hb.mono HB.out.size))
    clear hb
    go_wp2_with fail
    go_ret
    exact ⟨by rw [HF.out]; rfl, HB2.out⟩
  · go_wp2_with fail
    refine (HN.out _).mono ?_
    rintro e w8 ⟨rfl, hb⟩
    have HB2 := Lib.hid (HB.out.trans (hb.mono HB.out.size))
    clear hb
    go_wp2_with fail
    go_ret
    exact ⟨by rw [HF.out]; rfl, HB2.out⟩
  · go_wp2_with fail
    refine (HN.out _).mono ?_
    rintro e w8 ⟨rfl, hb⟩
    have HB2 := Lib.hid (HB.out.trans (hb.mono HB.out.size))
    clear hb
    go_wp2_with fail
    go_ret
    exact ⟨by rw [HF.out]; rfl, HB2.out⟩
  · go_wp2_with fail
    refine (HL.out _).mono ?_
    rintro e w8 ⟨rfl, hb⟩
    have HB2 := Lib.hid (HB.out.trans (hb.mono HB.out.size))
    clear hb
    go_wp2_with fail
    go_ret
    exact ⟨by rw [HF.out]; rfl, HB2.out⟩
end Go.Proofs.YthbfhfgmanafpaaDoor
