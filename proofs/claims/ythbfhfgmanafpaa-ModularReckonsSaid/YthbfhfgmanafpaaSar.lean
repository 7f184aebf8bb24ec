/- The contract of word.Sar. -/
import Derived.Test.YthbfhfgmanafpaaWordF
import Derived.Test.YthbfhfgmanafpaaAmong
import Derived.Test.YthbfhfgmanafpaaMoveC
namespace Go.Proofs.Ythbfhfgmanafpaa
open Go.RowKit
attribute [local go_sem ↓] Go.wp_at_zero Go.wp_at_succ

/-- A number, moved right by n bits with its sign. -/
def sarOf (n a : Nat) : Nat := if a < W256 / 2 then a / 2 ^ (min n 256) else W256 - 1 - (W256 - 1 - a) / 2 ^ (min n 256)

theorem top_and (x : Nat) (hx : x < M64) : Go.bits .and .u64 (x : Int) 9223372036854775808 = if x < M64 / 2 then 0 else 9223372036854775808 := by
  have h := and64 x 9223372036854775808 hx (by decide)
  have e : x &&& 9223372036854775808 = if x < M64 / 2 then 0 else 9223372036854775808 := by
    have e1 : (9223372036854775808 : Nat) = 2 ^ 63 := by decide
    rw [e1]
    split
    · rename_i hl
      apply Nat.eq_of_testBit_eq
      intro i
      rw [Nat.testBit_and, Nat.testBit_two_pow, Nat.zero_testBit]
      by_cases hi : 63 = i
      · subst hi
        rw [Nat.testBit_lt_two_pow (show x < 2 ^ 63 from hl)]; simp
      · simp [hi]
    · rename_i hl
      apply Nat.eq_of_testBit_eq
      intro i
      rw [Nat.testBit_and, Nat.testBit_two_pow]
      by_cases hi : 63 = i
      · subst hi
        have : x.testBit 63 = true := by
          rw [Nat.testBit_eq_decide_div_mod_eq, decide_eq_true_eq]
          unfold M64 at hx hl
          rw [show (2 : Nat) ^ 63 = 9223372036854775808 by decide]
          omega
        rw [this]; simp
      · simp [hi]
  rw [e] at h
  rw [show (9223372036854775808 : Int) = ((9223372036854775808 : Nat) : Int) by rfl, h]
  split <;> rfl

theorem dig_half {a a0 a1 a2 a3 : Nat} (h : Dig a a0 a1 a2 a3) : a < W256 / 2 ↔ a3 < M64 / 2 := by
  obtain ⟨h0, h1, h2, h3, rfl⟩ := h
  unfold W256 M64 at *
  omega

set_option maxRecDepth 100000 in
set_option maxHeartbeats 2000000 in
theorem Sar_pos {n a b3 b2 b1 b0 a3 a2 a1 a0 : Nat} (hn : Dig n b0 b1 b2 b3) (ha : Dig a a0 a1 a2 a3) (hs : a < W256 / 2) (w : World) :
    Calls Try.prog 53 #[.agg #[.int .u64 b3, .int .u64 b2, .int .u64 b1, .int .u64 b0], .agg #[.int .u64 a3, .int .u64 a2, .int .u64 a1, .int .u64 a0]] w (RetD (a / 2 ^ (min n 256)) w) := by
  have H := ((((Fx.start w).new #[.int .u64 b3, .int .u64 b2, .int .u64 b1, .int .u64 b0] 24).new #[.int .u64 a3, .int .u64 a2, .int .u64 a1, .int .u64 a0] 24).new #[.int .u64 0, .int .u64 0, .int .u64 0, .int .u64 0] 24)
  have hb := top_and a3 ha.h3
  rw [if_pos ((dig_half ha).1 hs)] at hb
  have S := Lib.hid (fun W => Shr_d hn ha W)
  generalize a / 2 ^ (min n 256) = r at *
  clear hn ha hs
  go_enter Try.func53, Try.ntmps53
  go_wp2_with fail
  refine (S.out _).mono ?_
  rintro e w1 ⟨r3, r2, r1, r0, rfl, hr, hb1⟩
  have H1 := H.1.call hb1
  have K := H1.know (_, _, _) (.head _)
  obtain ⟨⟨k0, k1, k2, k3⟩, g0, g1, g2, g3⟩ := cells4 K.2
  have n1 := H1.lt (.head _)
  replace K := Lib.hid K; replace H1 := Lib.hid H1
  clear H hb1 S hb
  go_wp2_with fail
  exact bodyPost_ret (results_cell_row Try.results53 _ _ _ _ _ _ _ rfl (heap_set4 K.out.2 _ _ _ _) Try.underlying24 rfl (by kernel_rfl)) rfl
    ⟨_, _, _, _, rfl, hr, below_set4 H1.out.below (by omega) _ _ _ _⟩

set_option maxRecDepth 100000 in
set_option maxHeartbeats 2000000 in
theorem Sar_neg {n a b3 b2 b1 b0 a3 a2 a1 a0 : Nat} (hn : Dig n b0 b1 b2 b3) (ha : Dig a a0 a1 a2 a3) (hs : ¬ a < W256 / 2) (w : World) :
    Calls Try.prog 53 #[.agg #[.int .u64 b3, .int .u64 b2, .int .u64 b1, .int .u64 b0], .agg #[.int .u64 a3, .int .u64 a2, .int .u64 a1, .int .u64 a0]] w (RetD (W256 - 1 - (W256 - 1 - a) / 2 ^ (min n 256)) w) := by
  have H := ((((Fx.start w).new #[.int .u64 b3, .int .u64 b2, .int .u64 b1, .int .u64 b0] 24).new #[.int .u64 a3, .int .u64 a2, .int .u64 a1, .int .u64 a0] 24).new #[.int .u64 0, .int .u64 0, .int .u64 0, .int .u64 0] 24)
  have hb := top_and a3 ha.h3
  rw [if_neg (fun h => hs ((dig_half ha).2 h))] at hb
  have HA := Lib.hid ha; have HN := Lib.hid hn
  clear hn ha hs
  go_enter Try.func53, Try.ntmps53
  go_wp2_with fail
  clear hb
  replace H := H.1
  have H0 := H.drew
  have HS := Lib.hid (fun W (hW : Fr w w.heap.size (w.heap.size + 1 + 1 + 1) [(w.heap.size + 1 + 1, #[.int .u64 0, .int .u64 0, .int .u64 0, .int .u64 0], 24), (w.heap.size + 1, #[.int .u64 a3, .int .u64 a2, .int .u64 a1, .int .u64 a0], 24), (w.heap.size, #[.int .u64 b3, .int .u64 b2, .int .u64 b1, .int .u64 b0], 24)] W) => And.intro (hW.row (.head _)) (And.intro (hW.row (.tail _ (.head _))) (hW.row (.tail _ (.tail _ (.head _))))))
  refine Drawn.startEx (fun i => i == 5) H (by kernel_rfl) ?_
  clear H
  refine Drawn.take 0 (some 12) (v := ?_) rfl rfl (by kernel_rfl) (by kernel_rfl) (by kernel_rfl) (by kernel_rfl) (by kernel_rfl) rfl (fun _ _ _ h => h) (Or.inl ⟨rfl, ?_⟩) H0 ?_
  rotate_left
  · intro W hW; have hW := HS.out W hW; go_simp; try with_reducible rfl
  simp only [put_list, List.set]
  refine Drawn.take 1 (some 13) (v := ?_) rfl rfl (by kernel_rfl) (by kernel_rfl) (by kernel_rfl) (by kernel_rfl) (by kernel_rfl) rfl (fun _ _ _ h => h) (Or.inl ⟨rfl, ?_⟩) H0 ?_
  rotate_left
  · intro W hW; have hW := HS.out W hW; go_simp; try with_reducible rfl
  simp only [put_list, List.set]
  refine Drawn.only 2 (by kernel_rfl) rfl rfl (fun K hK => ?_)
  go_simp
  refine (Not_d HA.out _).mono ?_
  rintro e w9 ⟨p23, p22, p21, p20, rfl, hd, hb⟩
  refine hK _ _ (fun _ _ => H0.call hb) ?_
  replace H0 := H0.call hb
  clear hK K hb
  have D2 := Lib.hid hd
  clear hd
  refine Drawn.only 3 (by kernel_rfl) rfl rfl (fun K hK => ?_)
  go_simp
  refine (Shr_d HN.out D2.out _).mono ?_
  rintro e w9 ⟨p33, p32, p31, p30, rfl, hd, hb⟩
  refine hK _ _ (fun _ _ => H0.call hb) ?_
  replace H0 := H0.call hb
  clear hK K hb
  have D3 := Lib.hid hd
  clear hd
  refine Drawn.only 4 (by kernel_rfl) rfl rfl (fun K hK => ?_)
  go_simp
  refine (Not_d D3.out _).mono ?_
  rintro e w9 ⟨p43, p42, p41, p40, rfl, hd, hb⟩
  refine hK _ _ (fun _ _ => H0.call hb) ?_
  replace H0 := H0.call hb
  clear hK K hb
  have D4 := Lib.hid hd
  clear hd
  have K0 := H0.know (_, _, _) List.mem_cons_self
  obtain ⟨⟨r0, r1, r2, r3⟩, g0, g1, g2, g3⟩ := cells4 K0.2
  replace K0 := Lib.hid K0
  refine Drawn.only 5 (by kernel_rfl) rfl rfl (fun K hK => ?_)
  go_simp
  refine hK _ _ (fun h => by simp at h) ?_
  clear hK K
  refine Drawn.done (by kernel_rfl) ?_ _
  go_wp2_with fail
  exact bodyPost_ret (results_cell_row Try.results53 _ _ _ _ _ _ _ rfl (heap_set4 K0.out.2 _ _ _ _) Try.underlying24 rfl (by kernel_rfl)) rfl
    ⟨_, _, _, _, rfl, D4.out, below_set4 H0.below (by omega) _ _ _ _⟩

theorem Sar_d {n a b3 b2 b1 b0 a3 a2 a1 a0 : Nat} (hn : Dig n b0 b1 b2 b3) (ha : Dig a a0 a1 a2 a3) (w : World) :
    Calls Try.prog 53 #[.agg #[.int .u64 b3, .int .u64 b2, .int .u64 b1, .int .u64 b0], .agg #[.int .u64 a3, .int .u64 a2, .int .u64 a1, .int .u64 a0]] w (RetD (sarOf n a) w) := by
  unfold sarOf
  split
  · exact Sar_pos hn ha (by assumption) w
  · exact Sar_neg hn ha (by assumption) w

end Go.Proofs.Ythbfhfgmanafpaa
