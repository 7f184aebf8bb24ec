/- Contracts of the reference: Mul. -/
import Derived.Test.YthbfhfgmanafpaaRefQ
import Derived.Test.YthbfhfgmanafpaaRefR
namespace Go.Proofs.Ythbfhfgmanafpaa
open Go.RowKit Go.Joins
attribute [local go_sem ↓] Go.wp_at_zero Go.wp_at_succ

theorem lowB_part {p : Nat → Nat} (hp : ∀ j, p j < 256) {n m : Nat} (h : n ≤ m) : lowB p n = lowB p m % 256 ^ n := by
  rw [← lowB_byte]
  exact lowB_congr fun j hj => (lowB_inj hp (by omega)).symm

set_option maxRecDepth 100000 in
set_option maxHeartbeats 4000000 in
theorem rMul_d {x y a3 a2 a1 a0 b3 b2 b1 b0 : Nat} (hx : Dig x a0 a1 a2 a3) (hy : Dig y b0 b1 b2 b3) (w : World) :
    Calls Try.prog 52 #[.agg #[.int .u64 a3, .int .u64 a2, .int .u64 a1, .int .u64 a0], .agg #[.int .u64 b3, .int .u64 b2, .int .u64 b1, .int .u64 b0]] w (RetD (x * y % W256) w) := by
  have H := ((((Fx.start w).new #[.int .u64 a3, .int .u64 a2, .int .u64 a1, .int .u64 a0] 24).new #[.int .u64 b3, .int .u64 b2, .int .u64 b1, .int .u64 b0] 24).new #[.int .u64 0, .int .u64 0, .int .u64 0, .int .u64 0] 24).1
  have HX := Lib.hid hx; have HY := Lib.hid hy
  clear hx hy
  go_enter Try.func52, Try.ntmps52
  go_wp2_with fail
  have H0 := H.drew
  have HS := Lib.hid (fun W (hW : Fr w w.heap.size (w.heap.size + 1 + 1 + 1) [(w.heap.size + 1 + 1, #[.int .u64 0, .int .u64 0, .int .u64 0, .int .u64 0], 24), (w.heap.size + 1, #[.int .u64 b3, .int .u64 b2, .int .u64 b1, .int .u64 b0], 24), (w.heap.size, #[.int .u64 a3, .int .u64 a2, .int .u64 a1, .int .u64 a0], 24)] W) => And.intro (hW.row (.tail _ (.head _))) (hW.row (.tail _ (.tail _ (.head _)))))
  refine Drawn.startEx (fun i => i == 6) H (by kernel_rfl) ?_
  clear H
  refine Drawn.take 0 (some 5) (v := ?_) rfl rfl (by kernel_rfl) (by kernel_rfl) (by kernel_rfl) (by kernel_rfl) (by kernel_rfl) rfl (fun _ _ _ h => h) (Or.inl ⟨rfl, ?_⟩) H0 ?_
  rotate_left
  · intro W hW; have hW := HS.out W hW; go_simp; try with_reducible rfl
  simp only [put_list, List.set]
  refine Drawn.take 2 (some 7) (v := ?_) rfl rfl (by kernel_rfl) (by kernel_rfl) (by kernel_rfl) (by kernel_rfl) (by kernel_rfl) rfl (fun _ _ _ h => h) (Or.inl ⟨rfl, ?_⟩) H0 ?_
  rotate_left
  · intro W hW; have hW := HS.out W hW; go_simp; try with_reducible rfl
  simp only [put_list, List.set]
  refine Drawn.only 1 (by kernel_rfl) rfl rfl (fun K hK => ?_)
  go_simp
  refine (Digits_b HX.out _).mono ?_
  rintro e w9 ⟨v1, rfl, r1, hb⟩
  refine hK _ _ (fun _ _ => H0.call hb) ?_
  replace H0 := H0.call hb
  clear hK K hb
  refine Drawn.only 3 (by kernel_rfl) rfl rfl (fun K hK => ?_)
  go_simp
  refine (Digits_b HY.out _).mono ?_
  rintro e w9 ⟨v3, rfl, r3, hb⟩
  refine hK _ _ (fun _ _ => H0.call hb) ?_
  replace H0 := H0.call hb
  replace r1 := r1.call hb
  clear hK K hb
  refine Drawn.only 4 (by kernel_rfl) rfl rfl (fun K hK => ?_)
  go_simp
  refine (Product_c (byteOf_lt x) (byteOf_lt y) _ r1 r3).mono ?_
  rintro e w9 ⟨p, v4, rfl, hp, hpe, r4, hb⟩
  refine hK _ _ (fun _ _ => H0.call hb) ?_
  replace H0 := H0.call hb
  clear hK K hb
  refine Drawn.only 5 (by kernel_rfl) rfl rfl (fun K hK => ?_)
  go_simp
  refine (Join_b (by decide) (by decide) _ r4 hp).mono ?_
  rintro e w9 ⟨p53, p52, p51, p50, rfl, hd, hb⟩
  refine hK _ _ (fun _ _ => H0.call hb) ?_
  replace H0 := H0.call hb
  clear hK K hb
  have D5 := Lib.hid hd
  have HPE : lowB p 32 = x * y % W256 := by
    rw [lowB_part hp (show 32 ≤ 64 by omega), hpe, lowB_all HX.out.lt, lowB_all HY.out.lt, W256_bytes]
  clear hd
  have K0 := H0.know (_, _, _) List.mem_cons_self
  obtain ⟨⟨r0, r1, r2, r3⟩, g0, g1, g2, g3⟩ := cells4 K0.2
  replace K0 := Lib.hid K0
  refine Drawn.only 6 (by kernel_rfl) rfl rfl (fun K hK => ?_)
  go_simp
  refine hK _ _ (fun h => by simp at h) ?_
  clear hK K
  refine Drawn.done (by kernel_rfl) ?_ _
  go_wp2_with fail
  exact bodyPost_ret (results_cell_row Try.results52 _ _ _ _ _ _ _ rfl (heap_set4 K0.out.2 _ _ _ _) Try.underlying24 rfl (by kernel_rfl)) rfl
    ⟨_, _, _, _, rfl, HPE ▸ D5.out, below_set4 H0.below (by omega) _ _ _ _⟩

end Go.Proofs.Ythbfhfgmanafpaa
