/- Contracts of the second reference: Neg, size, rest, MulMod, SDiv, SMod, AddMod, Size, Exp, SignExtend. -/
import Derived.Test.YthbfhfgmanafpaaRefU
import Derived.Test.YthbfhfgmanafpaaModG
import Derived.Deep.Cut
import Derived.Deep.AppendLies
import Derived.Test.YthbfhfgmanafpaaModS
import Derived.Test.YthbfhfgmanafpaaModT
namespace Go.Proofs.Ythbfhfgmanafpaa
section
open Go.RowKit Go.Joins
attribute [local go_sem ↓] Go.wp_at_zero Go.wp_at_succ

set_option maxRecDepth 100000 in
set_option maxHeartbeats 1000000 in
theorem mNeg_d {x a3 a2 a1 a0 : Nat} (hx : Dig x a0 a1 a2 a3) (w : World) :
    Calls Try.prog 39 #[.agg #[.int .u64 a3, .int .u64 a2, .int .u64 a1, .int .u64 a0]] w (RetD ((0 + W256 - x) % W256) w) := by
  have H := (((Fx.start w).new #[.int .u64 a3, .int .u64 a2, .int .u64 a1, .int .u64 a0] 24).new #[.int .u64 0, .int .u64 0, .int .u64 0, .int .u64 0] 24).1
  have S := Lib.hid (fun W => rSub_d dig_zero hx W)
  clear hx
  generalize (0 + W256 - x) % W256 = r at *
  go_enter Try.func39, Try.ntmps39
  go_wp2_with fail
  refine (S.out _).mono ?_
  rintro e w1 ⟨r3, r2, r1, r0, rfl, hr, hb1⟩
  have H1 := H.call hb1
  have K := H1.know (_, _, _) (.head _)
  have k0 := cells4 K.2
  have n1 := H1.lt (.head _)
  replace K := Lib.hid K; replace H1 := Lib.hid H1
  clear H hb1 S
  go_wp2_with fail
  exact bodyPost_ret (results_cell_row Try.results39 _ _ _ _ _ _ _ rfl (heap_set4 K.out.2 _ _ _ _) Try.underlying24 rfl (by kernel_rfl)) rfl
        ⟨_, _, _, _, rfl, hr, below_set4 H1.out.below (by omega) _ _ _ _⟩

set_option maxRecDepth 100000 in
set_option maxHeartbeats 2000000 in
theorem mSize_d {x a3 a2 a1 a0 : Nat} (hx : Dig x a0 a1 a2 a3) (w : World) :
    Calls Try.prog 37 #[.agg #[.int .u64 a3, .int .u64 a2, .int .u64 a1, .int .u64 a0]] w (RetD (mag x) w) := by
  have H := (((Fx.start w).new #[.int .u64 a3, .int .u64 a2, .int .u64 a1, .int .u64 a0] 24).new #[.int .u64 0, .int .u64 0, .int .u64 0, .int .u64 0] 24).1
  have S := Lib.hid (fun W => mNeg_d hx W)
  have HN := Lib.hid (fun W => rNeg_c hx W)
  have HX := Lib.hid hx
  clear hx
  have HM := Lib.hid (show mag x = if neg x then (0 + W256 - x) % W256 else x from rfl)
  rw [show decide (W256 / 2 ≤ x) = neg x from rfl] at HN
  generalize mag x = mx at *
  generalize (0 + W256 - x) % W256 = r at *
  generalize neg x = nx at *
  go_enter Try.func37, Try.ntmps37
  go_wp2_with fail
  refine (HN.out _).mono ?_
  rintro e w1 ⟨rfl, hb1⟩
  have H1 := H.call hb1
  have K := H1.know (_, _, _) (.head _)
  have kA := H1.row (.tail _ (.head _))
  have k0 := cells4 K.2
  have n1 := H1.lt (.head _)
  replace K := Lib.hid K; replace H1 := Lib.hid H1
  clear H hb1 HN
  cases nx
  · have HM2 := Lib.hid (show mx = x from HM.out)
    go_wp2_with fail
    exact bodyPost_ret (results_cell_row Try.results37 _ _ _ _ _ _ _ rfl (heap_set4 K.out.2 _ _ _ _) Try.underlying24 rfl (by kernel_rfl)) rfl
        ⟨_, _, _, _, rfl, by rw [HM2.out]; exact HX.out, below_set4 H1.out.below (by omega) _ _ _ _⟩
  · clear k0 n1
    have HM2 := Lib.hid (show mx = r from HM.out)
    go_wp2_with fail
    refine (S.out _).mono ?_
    rintro e w2 ⟨r3, r2, r1, r0, rfl, hr, hb2⟩
    have H2 := H1.out.call hb2
    have K2 := H2.know (_, _, _) (.head _)
    have k0 := cells4 K2.2
    have n1 := H2.lt (.head _)
    replace K2 := Lib.hid K2; replace H2 := Lib.hid H2
    clear hb2 S K H1 kA
    go_wp2_with fail
    exact bodyPost_ret (results_cell_row Try.results37 _ _ _ _ _ _ _ rfl (heap_set4 K2.out.2 _ _ _ _) Try.underlying24 rfl (by kernel_rfl)) rfl
        ⟨_, _, _, _, rfl, by rw [HM2.out]; exact hr, below_set4 H2.out.below (by omega) _ _ _ _⟩
end

section
open Go.RowKit Go.Joins
attribute [local go_sem ↓] Go.wp_at_zero Go.wp_at_succ

set_option maxRecDepth 100000 in
set_option maxHeartbeats 2000000 in
theorem mRest_d {n x z m3 m2 m1 m0 : Nat} {v : Value} (hn : n = 32 ∨ n = 33 ∨ n = 64) (hx : x < 256 ^ n) (hz : Dig z m0 m1 m2 m3) (w : World) (hv : BytesRow w v n (byteOf x)) :
    Calls Try.prog 42 #[v, .agg #[.int .u64 m3, .int .u64 m2, .int .u64 m1, .int .u64 m0]] w (RetD (modOf x z) w) := by
  by_cases h0 : z = 0
  · subst h0
    obtain ⟨rfl, rfl, rfl, rfl⟩ := hz.inj dig_zero
    have H := (((Fx.start w).new #[.int .u64 0, .int .u64 0, .int .u64 0, .int .u64 0] 24).new #[.int .u64 0, .int .u64 0, .int .u64 0, .int .u64 0] 24).1
    have hE := fun w => eq_words 0 0 0 0 0 0 0 0 w
    have HD := Lib.hid (show Dig (modOf x 0) 0 0 0 0 from by unfold modOf; rw [if_pos rfl]; exact dig_zero)
    clear hx hz hv
    go_enter Try.func42, Try.ntmps42
    have K0 := H.know (_, _, _) List.mem_cons_self
    obtain ⟨⟨r0, r1, r2, r3⟩, g0, g1, g2, g3⟩ := cells4 K0.2
    have kB := H.row (.tail _ (.head _))
    replace K0 := Lib.hid K0
    have HH := Lib.hid H; clear H
    go_wp2_with fail
    exact bodyPost_ret (results_cell_row Try.results42 _ _ _ _ _ _ _ rfl K0.out.2 Try.underlying24 rfl (by kernel_rfl)) rfl
      ⟨0, 0, 0, 0, rfl, HD.out, HH.out.below⟩
  · have H := (((Fx.start w).new #[.int .u64 m3, .int .u64 m2, .int .u64 m1, .int .u64 m0] 24).new #[.int .u64 0, .int .u64 0, .int .u64 0, .int .u64 0] 24).1
    have hE : ∀ w, (binOp .eql 24 (.agg #[.int .u64 m3, .int .u64 m2, .int .u64 m1, .int .u64 m0]) (.agg #[.int .u64 0, .int .u64 0, .int .u64 0, .int .u64 0])).run Try.prog w = .ok (.bool false) w := fun w => eq_word_not hz dig_zero h0 w
    have D := Lib.hid (fun W h => Divide_c (va := v) hn hx hz (Nat.pos_of_ne_zero h0) W h)
    have HV := Lib.hid hv
    have HM := Lib.hid (show modOf x z = x % z from if_neg h0)
    clear hn hx hz hv
    go_enter Try.func42, Try.ntmps42
    have kB := H.row (.tail _ (.head _))
    have HV2 := Lib.hid (HV.out.call (((Below.refl _ _).alloc (Nat.le_refl _) (.cells #[.int .u64 m3, .int .u64 m2, .int .u64 m1, .int .u64 m0] 24)).alloc (by simp) (.cells #[.int .u64 0, .int .u64 0, .int .u64 0, .int .u64 0] 24)))
    go_wp2_with fail
    refine (D.out _ HV2.out).mono ?_
    rintro e w1 ⟨r0, r1, r2, r3, rfl, _, hr, hb1⟩
    have H1 := H.call hb1
    have HR := Lib.hid hr
    have hal := (H1.up).new #[.int .u64 0, .int .u64 0, .int .u64 0, .int .u64 0] 24
    have K := hal.know (_, _, _) (.tail _ (.head _))
    have hne := Nat.ne_of_lt (H1.lt (.head _))
    clear hb1 H hE kB hr D HV HV2
    have HH1 := Lib.hid H1
    have n1 := H1.lt (.head _)
    have k0 := cells4 (H1.know (_, _, _) (.head _)).2
    have HK := Lib.hid (H1.know (_, _, _) (.head _)).2
    have hsz := H1.size
    clear H1 hal K
    go_wp2_with fail
    have hlt : w.heap.size + 1 < ((((w1.setCell ⟨w.heap.size + 1, 0, none⟩ (.int .u64 (r3 : Nat))).setCell ⟨w.heap.size + 1, 1, none⟩ (.int .u64 (r2 : Nat))).setCell ⟨w.heap.size + 1, 2, none⟩ (.int .u64 (r1 : Nat))).setCell ⟨w.heap.size + 1, 3, none⟩ (.int .u64 (r0 : Nat))).heap.size := by simpa [World.setCell] using n1
    have hle : w.heap.size ≤ ((((w1.setCell ⟨w.heap.size + 1, 0, none⟩ (.int .u64 (r3 : Nat))).setCell ⟨w.heap.size + 1, 1, none⟩ (.int .u64 (r2 : Nat))).setCell ⟨w.heap.size + 1, 2, none⟩ (.int .u64 (r1 : Nat))).setCell ⟨w.heap.size + 1, 3, none⟩ (.int .u64 (r0 : Nat))).heap.size := by omega
    have hb := below_set4 HH1.out.below (show w.heap.size ≤ w.heap.size + 1 by omega) (.int .u64 (r3 : Nat)) (.int .u64 (r2 : Nat)) (.int .u64 (r1 : Nat)) (.int .u64 (r0 : Nat))
    have hk := heap_set4 HK.out (.int .u64 (r3 : Nat)) (.int .u64 (r2 : Nat)) (.int .u64 (r1 : Nat)) (.int .u64 (r0 : Nat))
    generalize (((w1.setCell ⟨w.heap.size + 1, 0, none⟩ (.int .u64 (r3 : Nat))).setCell ⟨w.heap.size + 1, 1, none⟩ (.int .u64 (r2 : Nat))).setCell ⟨w.heap.size + 1, 2, none⟩ (.int .u64 (r1 : Nat))).setCell ⟨w.heap.size + 1, 3, none⟩ (.int .u64 (r0 : Nat)) = W at *
    exact bodyPost_ret (results_cell_row Try.results42 _ _ _ _ _ _ _ rfl ((Below.heap_alloc _ _ _ hlt).trans hk) Try.underlying24 rfl (by kernel_rfl)) rfl
      ⟨_, _, _, _, rfl, by rw [HM.out]; exact HR.out, hb.alloc hle _⟩

set_option maxRecDepth 100000 in
set_option maxHeartbeats 4000000 in
theorem mMul_d {x y z a3 a2 a1 a0 b3 b2 b1 b0 m3 m2 m1 m0 : Nat} (hx : Dig x a0 a1 a2 a3) (hy : Dig y b0 b1 b2 b3) (hz : Dig z m0 m1 m2 m3) (w : World) :
    Calls Try.prog 17 #[.agg #[.int .u64 a3, .int .u64 a2, .int .u64 a1, .int .u64 a0], .agg #[.int .u64 b3, .int .u64 b2, .int .u64 b1, .int .u64 b0], .agg #[.int .u64 m3, .int .u64 m2, .int .u64 m1, .int .u64 m0]] w (RetD (modOf (x * y) z) w) := by
  have H := (((((Fx.start w).new #[.int .u64 a3, .int .u64 a2, .int .u64 a1, .int .u64 a0] 24).new #[.int .u64 b3, .int .u64 b2, .int .u64 b1, .int .u64 b0] 24).new #[.int .u64 m3, .int .u64 m2, .int .u64 m1, .int .u64 m0] 24).new #[.int .u64 0, .int .u64 0, .int .u64 0, .int .u64 0] 24).1
  have HX := Lib.hid hx; have HY := Lib.hid hy; have HZ := Lib.hid hz
  clear hx hy hz
  go_enter Try.func17, Try.ntmps17
  go_wp2_with fail
  have H0 := H.drew
  have HS := Lib.hid (fun W (hW : Fr w w.heap.size (w.heap.size + 1 + 1 + 1 + 1) [(w.heap.size + 1 + 1 + 1, #[.int .u64 0, .int .u64 0, .int .u64 0, .int .u64 0], 24), (w.heap.size + 1 + 1, #[.int .u64 m3, .int .u64 m2, .int .u64 m1, .int .u64 m0], 24), (w.heap.size + 1, #[.int .u64 b3, .int .u64 b2, .int .u64 b1, .int .u64 b0], 24), (w.heap.size, #[.int .u64 a3, .int .u64 a2, .int .u64 a1, .int .u64 a0], 24)] W) => And.intro (hW.row (.tail _ (.head _))) (And.intro (hW.row (.tail _ (.tail _ (.head _)))) (hW.row (.tail _ (.tail _ (.tail _ (.head _)))))))
  refine Drawn.startEx (fun i => i == 7) H (by kernel_rfl) ?_
  clear H
  refine Drawn.take 0 (some 7) (v := ?_) rfl rfl (by kernel_rfl) (by kernel_rfl) (by kernel_rfl) (by kernel_rfl) (by kernel_rfl) rfl (fun _ _ _ h => h) (Or.inl ⟨rfl, ?_⟩) H0 ?_
  rotate_left
  · intro W hW; have hW := HS.out W hW; go_simp; try with_reducible rfl
  simp only [put_list, List.set]
  refine Drawn.take 2 (some 9) (v := ?_) rfl rfl (by kernel_rfl) (by kernel_rfl) (by kernel_rfl) (by kernel_rfl) (by kernel_rfl) rfl (fun _ _ _ h => h) (Or.inl ⟨rfl, ?_⟩) H0 ?_
  rotate_left
  · intro W hW; have hW := HS.out W hW; go_simp; try with_reducible rfl
  simp only [put_list, List.set]
  refine Drawn.take 5 (some 12) (v := ?_) rfl rfl (by kernel_rfl) (by kernel_rfl) (by kernel_rfl) (by kernel_rfl) (by kernel_rfl) rfl (fun _ _ _ h => h) (Or.inl ⟨rfl, ?_⟩) H0 ?_
  rotate_left
  · intro W hW; have hW := HS.out W hW; go_simp; try with_reducible rfl
  simp only [put_list, List.set]
  refine Drawn.only 1 (by kernel_rfl) rfl rfl (fun K hK => ?_)
  go_simp
  refine (Digits_b HX.out _).mono ?_
  rintro e w9 ⟨v1, rfl, r1, hb⟩
  refine hK _ _ (fun _ _ => H0.call hb) ?_
  replace H0 := H0.call hb
  clear hK K hb
  refine Drawn.only 3 (by kernel_rfl) rfl rfl (fun K hK => ?_)
  go_simp
  refine (Digits_b HY.out _).mono ?_
  rintro e w9 ⟨v3, rfl, r3, hb⟩
  refine hK _ _ (fun _ _ => H0.call hb) ?_
  replace H0 := H0.call hb
  replace r1 := r1.call hb
  clear hK K hb
  refine Drawn.only 4 (by kernel_rfl) rfl rfl (fun K hK => ?_)
  go_simp
  refine (Product_c (byteOf_lt x) (byteOf_lt y) _ r1 r3).mono ?_
  rintro e w9 ⟨p, v4, rfl, hp, hpe, r4, hb⟩
  refine hK _ _ (fun _ _ => H0.call hb) ?_
  replace H0 := H0.call hb
  clear hK K hb
  have hxy : x * y < 256 ^ 64 := by
    rw [show (256 : Nat) ^ 64 = 256 ^ 32 * 256 ^ 32 by rw [← Nat.pow_add], ← W256_bytes]
    exact Nat.mul_lt_mul'' HX.out.lt HY.out.lt
  rw [lowB_all HX.out.lt, lowB_all HY.out.lt] at hpe
  have HV := Lib.hid (show BytesRow w9 v4 64 (byteOf (x * y)) from by
    obtain ⟨g, cap, e, hg, hc⟩ := r4
    exact ⟨g, cap, e, hg, fun j hj => by rw [hc j hj, ← hpe, lowB_inj hp hj]⟩)
  have HR := Lib.hid (fun W h => mRest_d (n := 64) (v := v4) (Or.inr (Or.inr rfl)) hxy HZ.out W h)
  clear hxy hpe hp r4 r1 r3
  refine Drawn.only 6 (by kernel_rfl) rfl rfl (fun K hK => ?_)
  go_simp
  refine (HR.out _ HV.out).mono ?_
  rintro e w8 ⟨p53, p52, p51, p50, rfl, hd, hb⟩
  refine hK _ _ (fun _ _ => H0.call hb) ?_
  replace H0 := H0.call hb
  clear hK K hb
  have D5 := Lib.hid hd
  clear hd
  have K0 := H0.know (_, _, _) List.mem_cons_self
  obtain ⟨⟨r0, r1, r2, r3⟩, g0, g1, g2, g3⟩ := cells4 K0.2
  replace K0 := Lib.hid K0
  refine Drawn.only 7 (by kernel_rfl) rfl rfl (fun K hK => ?_)
  go_simp
  refine hK _ _ (fun h => by simp at h) ?_
  clear hK K
  refine Drawn.done (by kernel_rfl) ?_ _
  go_wp2_with fail
  exact bodyPost_ret (results_cell_row Try.results17 _ _ _ _ _ _ _ rfl (heap_set4 K0.out.2 _ _ _ _) Try.underlying24 rfl (by kernel_rfl)) rfl
    ⟨_, _, _, _, rfl, D5.out, below_set4 H0.below (by omega) _ _ _ _⟩
end

section
open Go.RowKit Go.Joins
attribute [local go_sem ↓] Go.wp_at_zero Go.wp_at_succ

set_option maxRecDepth 100000 in
set_option maxHeartbeats 8000000 in
theorem mSMod_d {x y b3 b2 b1 b0 a3 a2 a1 a0 : Nat} (hx : Dig x a0 a1 a2 a3) (hy : Dig y b0 b1 b2 b3) (w : World) :
    Calls Try.prog 13 #[.agg #[.int .u64 a3, .int .u64 a2, .int .u64 a1, .int .u64 a0], .agg #[.int .u64 b3, .int .u64 b2, .int .u64 b1, .int .u64 b0]] w (RetD (sgn (modOf (mag x) (mag y)) (neg x)) w) := by
  have H := ((((Fx.start w).new #[.int .u64 a3, .int .u64 a2, .int .u64 a1, .int .u64 a0] 24).new #[.int .u64 b3, .int .u64 b2, .int .u64 b1, .int .u64 b0] 24).new #[.int .u64 0, .int .u64 0, .int .u64 0, .int .u64 0] 24).1
  have HX := Lib.hid hx; have HY := Lib.hid hy
  clear hx hy
  have HFN := Lib.hid (show sgn (modOf (mag x) (mag y)) (neg x) = sgn (modOf (mag x) (mag y)) (neg x) from rfl)
  generalize hfin : sgn (modOf (mag x) (mag y)) (neg x) = r at *
  have HFI := Lib.hid hfin
  clear hfin HFN
  go_enter Try.func13, Try.ntmps13
  go_wp2_with fail
  have HS := Lib.hid H.read3
  refine wp_cut (fun a' W => ∃ b5 p3 p2 p1 p0 q3 q2 q1 q0 s3 s2 s1 s0 : Nat, a' = ⟨#[.agg #[.int .u64 a3, .int .u64 a2, .int .u64 a1, .int .u64 a0], .agg #[.int .u64 b3, .int .u64 b2, .int .u64 b1, .int .u64 b0], .pointer (some ⟨w.heap.size, 0, none⟩), .pointer (some ⟨w.heap.size + 1, 0, none⟩), .pointer (some ⟨w.heap.size + 1 + 1, 0, none⟩), .pointer (some ⟨b5, 0, none⟩), .agg #[.int .u64 a3, .int .u64 a2, .int .u64 a1, .int .u64 a0], .agg #[.int .u64 p3, .int .u64 p2, .int .u64 p1, .int .u64 p0], .agg #[.int .u64 b3, .int .u64 b2, .int .u64 b1, .int .u64 b0], .agg #[.int .u64 q3, .int .u64 q2, .int .u64 q1, .int .u64 q0], .agg #[.int .u64 s3, .int .u64 s2, .int .u64 s1, .int .u64 s0], undef, undef, undef, undef, undef], []⟩ ∧ Dig (if mag y = 0 then 0 else mag x % mag y) s0 s1 s2 s3 ∧
      Fr w w.heap.size (w.heap.size + 1 + 1 + 1) [(w.heap.size + 1 + 1, #[.int .u64 0, .int .u64 0, .int .u64 0, .int .u64 0], 24), (w.heap.size + 1, #[.int .u64 b3, .int .u64 b2, .int .u64 b1, .int .u64 b0], 24), (w.heap.size, #[.int .u64 a3, .int .u64 a2, .int .u64 a1, .int .u64 a0], 24)] W ∧ W.heap[b5]? = some (.cells #[.int .u64 s3, .int .u64 s2, .int .u64 s1, .int .u64 s0] 24 (0, 0))) ?rest ?tree
  case rest =>
    rintro a' W ⟨b5, p3, p2, p1, p0, q3, q2, q1, q0, s3, s2, s1, s0, rfl, hs, F, e5⟩
    clear H HS
    have HSD := Lib.hid hs; clear hs
    have F2 := F.add e5
    clear e5 F
    have kA := F2.row (.tail _ (.tail _ (.tail _ (.head _))))
    have FF := Lib.hid F2
    clear F2
    go_wp2_with fail
    refine (rNeg_c HX.out _).mono ?_
    rintro e w1 ⟨rfl, hb1⟩
    replace FF := Lib.hid (FF.out.call hb1)
    clear hb1 kA
    rw [show decide (W256 / 2 ≤ x) = neg x from rfl]
    generalize neg x = nx at *
    cases nx
    · have HM2 := Lib.hid (show r = (if mag y = 0 then 0 else mag x % mag y) from by rw [← HFI.out]; rfl)
      have kA := FF.out.row (.head _)
      have K := FF.out.know (_, _, _) (.tail _ (.head _))
      obtain ⟨⟨c0, c1, c2, c3⟩, g0, g1, g2, g3⟩ := cells4 K.2
      replace K := Lib.hid K
      have HB := Lib.hid FF.out.below
      clear FF
      go_wp2_with fail
      exact bodyPost_ret (results_cell_row Try.results13 _ _ _ _ _ _ _ rfl (heap_set4 K.out.2 _ _ _ _) Try.underlying24 rfl (by kernel_rfl)) rfl
        ⟨_, _, _, _, rfl, by rw [HM2.out]; exact HSD.out, below_set4 HB.out (by omega) _ _ _ _⟩
    · have HM2 := Lib.hid (show r = (0 + W256 - (if mag y = 0 then 0 else mag x % mag y)) % W256 from by rw [← HFI.out]; rfl)
      have kA := FF.out.row (.head _)
      go_wp2_with fail
      refine (mNeg_d HSD.out _).mono ?_
      rintro e w2 ⟨t3, t2, t1, t0, rfl, hr, hb2⟩
      have F2 := FF.out.call hb2
      have K := F2.know (_, _, _) (.tail _ (.head _))
      obtain ⟨⟨c0, c1, c2, c3⟩, g0, g1, g2, g3⟩ := cells4 K.2
      replace K := Lib.hid K
      have HB := Lib.hid F2.below
      have HR2 := Lib.hid hr
      clear F2 FF hb2 kA hr
      go_wp2_with fail
      exact bodyPost_ret (results_cell_row Try.results13 _ _ _ _ _ _ _ rfl (heap_set4 K.out.2 _ _ _ _) Try.underlying24 rfl (by kernel_rfl)) rfl
        ⟨_, _, _, _, rfl, by rw [HM2.out]; exact HR2.out, below_set4 HB.out (by omega) _ _ _ _⟩
  intro J K' hJ hK'
  have H0 := H.drew
  refine Drawn.startEx (fun i => i == 6) H (by kernel_rfl) ?_
  clear H
  refine Drawn.take 0 (some 6) (v := ?_) rfl rfl (by kernel_rfl) (by kernel_rfl) (by kernel_rfl) (by kernel_rfl) (by kernel_rfl) rfl (fun _ _ _ h => h) (Or.inl ⟨rfl, ?_⟩) H0 ?_
  rotate_left
  · intro W hW; have hW := HS.out W hW; go_simp; try with_reducible rfl
  simp only [put_list, List.set]
  refine Drawn.take 2 (some 8) (v := ?_) rfl rfl (by kernel_rfl) (by kernel_rfl) (by kernel_rfl) (by kernel_rfl) (by kernel_rfl) rfl (fun _ _ _ h => h) (Or.inl ⟨rfl, ?_⟩) H0 ?_
  rotate_left
  · intro W hW; have hW := HS.out W hW; go_simp; try with_reducible rfl
  simp only [put_list, List.set]
  have H1 := H0
  clear H0
  generalize World.drew _ = W0 at H1 ⊢
  refine Drawn.among [1, 5] (by kernel_rfl) (by decide) ?_
  intro i hi
  simp only [List.mem_cons, List.not_mem_nil, or_false] at hi
  rcases hi with rfl | rfl
  · refine ⟨_, rfl, rfl, fun K hK => ?_⟩
    go_simp
    refine (mSize_d HX.out _).mono ?_
    rintro e w9 ⟨p3, p2, p1, p0, rfl, hd, hb⟩
    have HP := Lib.hid hd
    clear hd
    refine hK _ _ (fun _ _ => H1.call hb) ?_
    replace H1 := H1.call hb
    clear hK K hb
    refine Drawn.among [3, 5] (by kernel_rfl) (by decide) ?_
    intro i hi
    simp only [List.mem_cons, List.not_mem_nil, or_false] at hi
    rcases hi with rfl | rfl
    · refine ⟨_, rfl, rfl, fun K hK => ?_⟩
      go_simp
      refine (mSize_d HY.out _).mono ?_
      rintro e w9 ⟨q3, q2, q1, q0, rfl, hd, hb⟩
      have HQ := Lib.hid hd
      clear hd
      refine hK _ _ (fun _ _ => H1.call hb) ?_
      replace H1 := H1.call hb
      clear hK K hb
      refine Drawn.among [4, 5] (by kernel_rfl) (by decide) ?_
      intro i hi
      simp only [List.mem_cons, List.not_mem_nil, or_false] at hi
      rcases hi with rfl | rfl
      · refine ⟨_, rfl, rfl, fun K hK => ?_⟩
        go_simp
        refine (rMod_d HP.out HQ.out _).mono ?_
        rintro e w9 ⟨s3, s2, s1, s0, rfl, hd, hb⟩
        have HR := Lib.hid hd
        clear hd
        refine hK _ _ (fun _ _ => H1.call hb) ?_
        replace H1 := H1.call hb
        clear hK K hb
        refine Drawn.only 5 (by kernel_rfl) rfl rfl (fun K hK => ?_)
        go_simp
        refine hK _ _ (fun _ _ => H1.alloc _) ?_
        clear hK K
        have h5 : New4 (w.heap.size + 1 + 1 + 1) (.int .u64 0) (.int .u64 0) (.int .u64 0) (.int .u64 0) 24 _ _ := New4.here _ H1.size
        replace H1 := H1.alloc (.cells #[.int .u64 0, .int .u64 0, .int .u64 0, .int .u64 0] 24)
        generalize World.alloc _ _ = V1 at H1 h5 ⊢
        obtain ⟨⟨c0, c1, c2, c3⟩, g0, g1, g2, g3⟩ := h5.cells
        refine Drawn.only 6 (by kernel_rfl) rfl rfl (fun K hK => ?_)
        go_simp
        refine hK _ _ (fun h => by simp at h) ?_
        exact Drawn.done (by kernel_rfl) (hK' _ _ (Met.intro (hJ _ _ ⟨_, p3, p2, p1, p0, q3, q2, q1, q0, s3, s2, s1, s0, rfl, HR.out, H1.set4 h5.ge _ _ _ _, heap_set4 h5.1 _ _ _ _⟩))) _
      · refine ⟨_, rfl, rfl, fun K hK => ?_⟩
        go_simp
        refine hK _ _ (fun _ _ => H1.alloc _) ?_
        clear hK K
        have h5 : New4 (w.heap.size + 1 + 1 + 1) (.int .u64 0) (.int .u64 0) (.int .u64 0) (.int .u64 0) 24 _ _ := New4.here _ H1.size
        replace H1 := H1.alloc (.cells #[.int .u64 0, .int .u64 0, .int .u64 0, .int .u64 0] 24)
        generalize World.alloc _ _ = V2 at H1 h5 ⊢
        refine Drawn.only 4 (by kernel_rfl) rfl rfl (fun K hK => ?_)
        go_simp
        refine (rMod_d HP.out HQ.out _).mono ?_
        rintro e w9 ⟨s3, s2, s1, s0, rfl, hd, hb⟩
        have HR := Lib.hid hd
        clear hd
        refine hK _ _ (fun _ _ => H1.call hb) ?_
        replace h5 := carry4 hb h5
        replace H1 := H1.call hb
        clear hK K hb
        obtain ⟨⟨c0, c1, c2, c3⟩, g0, g1, g2, g3⟩ := h5.cells
        refine Drawn.only 6 (by kernel_rfl) rfl rfl (fun K hK => ?_)
        go_simp
        refine hK _ _ (fun h => by simp at h) ?_
        exact Drawn.done (by kernel_rfl) (hK' _ _ (Met.intro (hJ _ _ ⟨_, p3, p2, p1, p0, q3, q2, q1, q0, s3, s2, s1, s0, rfl, HR.out, H1.set4 h5.ge _ _ _ _, heap_set4 h5.1 _ _ _ _⟩))) _
    · refine ⟨_, rfl, rfl, fun K hK => ?_⟩
      go_simp
      refine hK _ _ (fun _ _ => H1.alloc _) ?_
      clear hK K
      have h5 : New4 (w.heap.size + 1 + 1 + 1) (.int .u64 0) (.int .u64 0) (.int .u64 0) (.int .u64 0) 24 _ _ := New4.here _ H1.size
      replace H1 := H1.alloc (.cells #[.int .u64 0, .int .u64 0, .int .u64 0, .int .u64 0] 24)
      generalize World.alloc _ _ = V3 at H1 h5 ⊢
      refine Drawn.only 3 (by kernel_rfl) rfl rfl (fun K hK => ?_)
      go_simp
      refine (mSize_d HY.out _).mono ?_
      rintro e w9 ⟨q3, q2, q1, q0, rfl, hd, hb⟩
      have HQ := Lib.hid hd
      clear hd
      refine hK _ _ (fun _ _ => H1.call hb) ?_
      replace h5 := carry4 hb h5
      replace H1 := H1.call hb
      clear hK K hb
      refine Drawn.only 4 (by kernel_rfl) rfl rfl (fun K hK => ?_)
      go_simp
      refine (rMod_d HP.out HQ.out _).mono ?_
      rintro e w9 ⟨s3, s2, s1, s0, rfl, hd, hb⟩
      have HR := Lib.hid hd
      clear hd
      refine hK _ _ (fun _ _ => H1.call hb) ?_
      replace h5 := carry4 hb h5
      replace H1 := H1.call hb
      clear hK K hb
      obtain ⟨⟨c0, c1, c2, c3⟩, g0, g1, g2, g3⟩ := h5.cells
      refine Drawn.only 6 (by kernel_rfl) rfl rfl (fun K hK => ?_)
      go_simp
      refine hK _ _ (fun h => by simp at h) ?_
      exact Drawn.done (by kernel_rfl) (hK' _ _ (Met.intro (hJ _ _ ⟨_, p3, p2, p1, p0, q3, q2, q1, q0, s3, s2, s1, s0, rfl, HR.out, H1.set4 h5.ge _ _ _ _, heap_set4 h5.1 _ _ _ _⟩))) _
  · refine ⟨_, rfl, rfl, fun K hK => ?_⟩
    go_simp
    refine hK _ _ (fun _ _ => H1.alloc _) ?_
    clear hK K
    have h5 : New4 (w.heap.size + 1 + 1 + 1) (.int .u64 0) (.int .u64 0) (.int .u64 0) (.int .u64 0) 24 _ _ := New4.here _ H1.size
    replace H1 := H1.alloc (.cells #[.int .u64 0, .int .u64 0, .int .u64 0, .int .u64 0] 24)
    generalize World.alloc _ _ = V4 at H1 h5 ⊢
    refine Drawn.only 1 (by kernel_rfl) rfl rfl (fun K hK => ?_)
    go_simp
    refine (mSize_d HX.out _).mono ?_
    rintro e w9 ⟨p3, p2, p1, p0, rfl, hd, hb⟩
    have HP := Lib.hid hd
    clear hd
    refine hK _ _ (fun _ _ => H1.call hb) ?_
    replace h5 := carry4 hb h5
    replace H1 := H1.call hb
    clear hK K hb
    refine Drawn.only 3 (by kernel_rfl) rfl rfl (fun K hK => ?_)
    go_simp
    refine (mSize_d HY.out _).mono ?_
    rintro e w9 ⟨q3, q2, q1, q0, rfl, hd, hb⟩
    have HQ := Lib.hid hd
    clear hd
    refine hK _ _ (fun _ _ => H1.call hb) ?_
    replace h5 := carry4 hb h5
    replace H1 := H1.call hb
    clear hK K hb
    refine Drawn.only 4 (by kernel_rfl) rfl rfl (fun K hK => ?_)
    go_simp
    refine (rMod_d HP.out HQ.out _).mono ?_
    rintro e w9 ⟨s3, s2, s1, s0, rfl, hd, hb⟩
    have HR := Lib.hid hd
    clear hd
    refine hK _ _ (fun _ _ => H1.call hb) ?_
    replace h5 := carry4 hb h5
    replace H1 := H1.call hb
    clear hK K hb
    obtain ⟨⟨c0, c1, c2, c3⟩, g0, g1, g2, g3⟩ := h5.cells
    refine Drawn.only 6 (by kernel_rfl) rfl rfl (fun K hK => ?_)
    go_simp
    refine hK _ _ (fun h => by simp at h) ?_
    exact Drawn.done (by kernel_rfl) (hK' _ _ (Met.intro (hJ _ _ ⟨_, p3, p2, p1, p0, q3, q2, q1, q0, s3, s2, s1, s0, rfl, HR.out, H1.set4 h5.ge _ _ _ _, heap_set4 h5.1 _ _ _ _⟩))) _

set_option maxRecDepth 100000 in
set_option maxHeartbeats 8000000 in
theorem mSDiv_d {x y b3 b2 b1 b0 a3 a2 a1 a0 : Nat} (hx : Dig x a0 a1 a2 a3) (hy : Dig y b0 b1 b2 b3) (w : World) :
    Calls Try.prog 11 #[.agg #[.int .u64 a3, .int .u64 a2, .int .u64 a1, .int .u64 a0], .agg #[.int .u64 b3, .int .u64 b2, .int .u64 b1, .int .u64 b0]] w (RetD (sgn (mag x / mag y) (neg x != neg y)) w) := by
  have H := ((((Fx.start w).new #[.int .u64 a3, .int .u64 a2, .int .u64 a1, .int .u64 a0] 24).new #[.int .u64 b3, .int .u64 b2, .int .u64 b1, .int .u64 b0] 24).new #[.int .u64 0, .int .u64 0, .int .u64 0, .int .u64 0] 24).1
  have HX := Lib.hid hx; have HY := Lib.hid hy
  clear hx hy
  have HFN := Lib.hid (show sgn (mag x / mag y) (neg x != neg y) = sgn (mag x / mag y) (neg x != neg y) from rfl)
  generalize hfin : sgn (mag x / mag y) (neg x != neg y) = r at *
  have HFI := Lib.hid hfin
  clear hfin HFN
  go_enter Try.func11, Try.ntmps11
  go_wp2_with fail
  have HS := Lib.hid H.read3
  refine wp_cut (fun a' W => ∃ b5 p3 p2 p1 p0 q3 q2 q1 q0 s3 s2 s1 s0 : Nat, a' = ⟨#[.agg #[.int .u64 a3, .int .u64 a2, .int .u64 a1, .int .u64 a0], .agg #[.int .u64 b3, .int .u64 b2, .int .u64 b1, .int .u64 b0], .pointer (some ⟨w.heap.size, 0, none⟩), .pointer (some ⟨w.heap.size + 1, 0, none⟩), .pointer (some ⟨w.heap.size + 1 + 1, 0, none⟩), .pointer (some ⟨b5, 0, none⟩), .agg #[.int .u64 a3, .int .u64 a2, .int .u64 a1, .int .u64 a0], .agg #[.int .u64 p3, .int .u64 p2, .int .u64 p1, .int .u64 p0], .agg #[.int .u64 b3, .int .u64 b2, .int .u64 b1, .int .u64 b0], .agg #[.int .u64 q3, .int .u64 q2, .int .u64 q1, .int .u64 q0], .agg #[.int .u64 s3, .int .u64 s2, .int .u64 s1, .int .u64 s0], undef, undef, undef, undef, undef, undef, undef, undef], []⟩ ∧ Dig (mag x / mag y) s0 s1 s2 s3 ∧
      Fr w w.heap.size (w.heap.size + 1 + 1 + 1) [(w.heap.size + 1 + 1, #[.int .u64 0, .int .u64 0, .int .u64 0, .int .u64 0], 24), (w.heap.size + 1, #[.int .u64 b3, .int .u64 b2, .int .u64 b1, .int .u64 b0], 24), (w.heap.size, #[.int .u64 a3, .int .u64 a2, .int .u64 a1, .int .u64 a0], 24)] W ∧ W.heap[b5]? = some (.cells #[.int .u64 s3, .int .u64 s2, .int .u64 s1, .int .u64 s0] 24 (0, 0))) ?rest ?tree
  case rest =>
    rintro a' W ⟨b5, p3, p2, p1, p0, q3, q2, q1, q0, s3, s2, s1, s0, rfl, hs, F, e5⟩
    clear H HS
    have HSD := Lib.hid hs; clear hs
    have H := F.add e5
    clear e5 F
    go_wp2_with fail
    have H0 := H.drew
    have HS := Lib.hid (fun W' (hW : Fr w w.heap.size (W.heap.size) ((b5, #[.int .u64 s3, .int .u64 s2, .int .u64 s1, .int .u64 s0], 24) :: [(w.heap.size + 1 + 1, #[.int .u64 0, .int .u64 0, .int .u64 0, .int .u64 0], 24), (w.heap.size + 1, #[.int .u64 b3, .int .u64 b2, .int .u64 b1, .int .u64 b0], 24), (w.heap.size, #[.int .u64 a3, .int .u64 a2, .int .u64 a1, .int .u64 a0], 24)]) W') => And.intro (hW.row (.tail _ (.tail _ (.head _)))) (hW.row (.tail _ (.tail _ (.tail _ (.head _))))))
    refine Drawn.startEx (fun _ => false) H (by kernel_rfl) ?_
    clear H
    refine Drawn.take 0 (some 11) (v := ?_) rfl rfl (by kernel_rfl) (by kernel_rfl) (by kernel_rfl) (by kernel_rfl) (by kernel_rfl) rfl (fun _ _ _ h => h) (Or.inl ⟨rfl, ?_⟩) H0 ?_
    rotate_left
    · intro W hW; have hW := HS.out W hW; go_simp; try with_reducible rfl
    simp only [put_list, List.set]
    refine Drawn.take 2 (some 13) (v := ?_) rfl rfl (by kernel_rfl) (by kernel_rfl) (by kernel_rfl) (by kernel_rfl) (by kernel_rfl) rfl (fun _ _ _ h => h) (Or.inl ⟨rfl, ?_⟩) H0 ?_
    rotate_left
    · intro W hW; have hW := HS.out W hW; go_simp; try with_reducible rfl
    simp only [put_list, List.set]
    refine Drawn.only 1 (by kernel_rfl) rfl rfl (fun K hK => ?_)
    go_simp
    refine (rNeg_c HX.out _).mono ?_
    rintro e w9 ⟨rfl, hb⟩
    refine hK _ _ (fun _ _ => H0.call hb) ?_
    replace H0 := H0.call hb
    clear hK K hb
    refine Drawn.only 3 (by kernel_rfl) rfl rfl (fun K hK => ?_)
    go_simp
    refine (rNeg_c HY.out _).mono ?_
    rintro e w9 ⟨rfl, hb⟩
    refine hK _ _ (fun _ _ => H0.call hb) ?_
    replace H0 := H0.call hb
    clear hK K hb
    refine Drawn.take 4 (some 15) (v := ?_) rfl rfl (by kernel_rfl) (by kernel_rfl) (by kernel_rfl) (by kernel_rfl) (by kernel_rfl) rfl (fun _ _ _ h => h) (Or.inl ⟨rfl, ?_⟩) H0 ?_
    rotate_left
    · intro W hW; have hW := HS.out W hW; go_simp; try with_reducible rfl
    simp only [put_list, List.set]
    refine Drawn.done (by kernel_rfl) ?_ _
    rw [show decide (W256 / 2 ≤ x) = neg x from rfl, show decide (W256 / 2 ≤ y) = neg y from rfl]
    have FF := Lib.hid H0
    clear H0 HS
    have HB2 : (!(neg x == neg y)) = (neg x != neg y) := rfl
    rw [HB2]
    clear HB2
    generalize (neg x != neg y) = nx at *
    cases nx
    · have HM2 := Lib.hid (show r = (mag x / mag y) from by rw [← HFI.out]; rfl)
      have kA := FF.out.row (.head _)
      have K := FF.out.know (_, _, _) (.tail _ (.head _))
      obtain ⟨⟨c0, c1, c2, c3⟩, g0, g1, g2, g3⟩ := cells4 K.2
      replace K := Lib.hid K
      have HB := Lib.hid FF.out.below
      clear FF
      go_wp2_with fail
      exact bodyPost_ret (results_cell_row Try.results11 _ _ _ _ _ _ _ rfl (heap_set4 K.out.2 _ _ _ _) Try.underlying24 rfl (by kernel_rfl)) rfl
        ⟨_, _, _, _, rfl, by rw [HM2.out]; exact HSD.out, below_set4 HB.out (by omega) _ _ _ _⟩
    · have HM2 := Lib.hid (show r = (0 + W256 - (mag x / mag y)) % W256 from by rw [← HFI.out]; rfl)
      have kA := FF.out.row (.head _)
      go_wp2_with fail
      refine (mNeg_d HSD.out _).mono ?_
      rintro e w2 ⟨t3, t2, t1, t0, rfl, hr, hb2⟩
      have F2 := FF.out.call hb2
      have K := F2.know (_, _, _) (.tail _ (.head _))
      obtain ⟨⟨c0, c1, c2, c3⟩, g0, g1, g2, g3⟩ := cells4 K.2
      replace K := Lib.hid K
      have HB := Lib.hid F2.below
      have HR2 := Lib.hid hr
      clear F2 FF hb2 kA hr
      go_wp2_with fail
      exact bodyPost_ret (results_cell_row Try.results11 _ _ _ _ _ _ _ rfl (heap_set4 K.out.2 _ _ _ _) Try.underlying24 rfl (by kernel_rfl)) rfl
        ⟨_, _, _, _, rfl, by rw [HM2.out]; exact HR2.out, below_set4 HB.out (by omega) _ _ _ _⟩
  intro J K' hJ hK'
  have H0 := H.drew
  refine Drawn.startEx (fun i => i == 6) H (by kernel_rfl) ?_
  clear H
  refine Drawn.take 0 (some 6) (v := ?_) rfl rfl (by kernel_rfl) (by kernel_rfl) (by kernel_rfl) (by kernel_rfl) (by kernel_rfl) rfl (fun _ _ _ h => h) (Or.inl ⟨rfl, ?_⟩) H0 ?_
  rotate_left
  · intro W hW; have hW := HS.out W hW; go_simp; try with_reducible rfl
  simp only [put_list, List.set]
  refine Drawn.take 2 (some 8) (v := ?_) rfl rfl (by kernel_rfl) (by kernel_rfl) (by kernel_rfl) (by kernel_rfl) (by kernel_rfl) rfl (fun _ _ _ h => h) (Or.inl ⟨rfl, ?_⟩) H0 ?_
  rotate_left
  · intro W hW; have hW := HS.out W hW; go_simp; try with_reducible rfl
  simp only [put_list, List.set]
  have H1 := H0
  clear H0
  generalize World.drew _ = W0 at H1 ⊢
  refine Drawn.among [1, 5] (by kernel_rfl) (by decide) ?_
  intro i hi
  simp only [List.mem_cons, List.not_mem_nil, or_false] at hi
  rcases hi with rfl | rfl
  · refine ⟨_, rfl, rfl, fun K hK => ?_⟩
    go_simp
    refine (mSize_d HX.out _).mono ?_
    rintro e w9 ⟨p3, p2, p1, p0, rfl, hd, hb⟩
    have HP := Lib.hid hd
    clear hd
    refine hK _ _ (fun _ _ => H1.call hb) ?_
    replace H1 := H1.call hb
    clear hK K hb
    refine Drawn.among [3, 5] (by kernel_rfl) (by decide) ?_
    intro i hi
    simp only [List.mem_cons, List.not_mem_nil, or_false] at hi
    rcases hi with rfl | rfl
    · refine ⟨_, rfl, rfl, fun K hK => ?_⟩
      go_simp
      refine (mSize_d HY.out _).mono ?_
      rintro e w9 ⟨q3, q2, q1, q0, rfl, hd, hb⟩
      have HQ := Lib.hid hd
      clear hd
      refine hK _ _ (fun _ _ => H1.call hb) ?_
      replace H1 := H1.call hb
      clear hK K hb
      refine Drawn.among [4, 5] (by kernel_rfl) (by decide) ?_
      intro i hi
      simp only [List.mem_cons, List.not_mem_nil, or_false] at hi
      rcases hi with rfl | rfl
      · refine ⟨_, rfl, rfl, fun K hK => ?_⟩
        go_simp
        refine (rDiv_d HP.out HQ.out _).mono ?_
        rintro e w9 ⟨s3, s2, s1, s0, rfl, hd, hb⟩
        have HR := Lib.hid hd
        clear hd
        refine hK _ _ (fun _ _ => H1.call hb) ?_
        replace H1 := H1.call hb
        clear hK K hb
        refine Drawn.only 5 (by kernel_rfl) rfl rfl (fun K hK => ?_)
        go_simp
        refine hK _ _ (fun _ _ => H1.alloc _) ?_
        clear hK K
        have h5 : New4 (w.heap.size + 1 + 1 + 1) (.int .u64 0) (.int .u64 0) (.int .u64 0) (.int .u64 0) 24 _ _ := New4.here _ H1.size
        replace H1 := H1.alloc (.cells #[.int .u64 0, .int .u64 0, .int .u64 0, .int .u64 0] 24)
        generalize World.alloc _ _ = V1 at H1 h5 ⊢
        obtain ⟨⟨c0, c1, c2, c3⟩, g0, g1, g2, g3⟩ := h5.cells
        refine Drawn.only 6 (by kernel_rfl) rfl rfl (fun K hK => ?_)
        go_simp
        refine hK _ _ (fun h => by simp at h) ?_
        exact Drawn.done (by kernel_rfl) (hK' _ _ (Met.intro (hJ _ _ ⟨_, p3, p2, p1, p0, q3, q2, q1, q0, s3, s2, s1, s0, rfl, HR.out, H1.set4 h5.ge _ _ _ _, heap_set4 h5.1 _ _ _ _⟩))) _
      · refine ⟨_, rfl, rfl, fun K hK => ?_⟩
        go_simp
        refine hK _ _ (fun _ _ => H1.alloc _) ?_
        clear hK K
        have h5 : New4 (w.heap.size + 1 + 1 + 1) (.int .u64 0) (.int .u64 0) (.int .u64 0) (.int .u64 0) 24 _ _ := New4.here _ H1.size
        replace H1 := H1.alloc (.cells #[.int .u64 0, .int .u64 0, .int .u64 0, .int .u64 0] 24)
        generalize World.alloc _ _ = V2 at H1 h5 ⊢
        refine Drawn.only 4 (by kernel_rfl) rfl rfl (fun K hK => ?_)
        go_simp
        refine (rDiv_d HP.out HQ.out _).mono ?_
        rintro e w9 ⟨s3, s2, s1, s0, rfl, hd, hb⟩
        have HR := Lib.hid hd
        clear hd
        refine hK _ _ (fun _ _ => H1.call hb) ?_
        replace h5 := carry4 hb h5
        replace H1 := H1.call hb
        clear hK K hb
        obtain ⟨⟨c0, c1, c2, c3⟩, g0, g1, g2, g3⟩ := h5.cells
        refine Drawn.only 6 (by kernel_rfl) rfl rfl (fun K hK => ?_)
        go_simp
        refine hK _ _ (fun h => by simp at h) ?_
        exact Drawn.done (by kernel_rfl) (hK' _ _ (Met.intro (hJ _ _ ⟨_, p3, p2, p1, p0, q3, q2, q1, q0, s3, s2, s1, s0, rfl, HR.out, H1.set4 h5.ge _ _ _ _, heap_set4 h5.1 _ _ _ _⟩))) _
    · refine ⟨_, rfl, rfl, fun K hK => ?_⟩
      go_simp
      refine hK _ _ (fun _ _ => H1.alloc _) ?_
      clear hK K
      have h5 : New4 (w.heap.size + 1 + 1 + 1) (.int .u64 0) (.int .u64 0) (.int .u64 0) (.int .u64 0) 24 _ _ := New4.here _ H1.size
      replace H1 := H1.alloc (.cells #[.int .u64 0, .int .u64 0, .int .u64 0, .int .u64 0] 24)
      generalize World.alloc _ _ = V3 at H1 h5 ⊢
      refine Drawn.only 3 (by kernel_rfl) rfl rfl (fun K hK => ?_)
      go_simp
      refine (mSize_d HY.out _).mono ?_
      rintro e w9 ⟨q3, q2, q1, q0, rfl, hd, hb⟩
      have HQ := Lib.hid hd
      clear hd
      refine hK _ _ (fun _ _ => H1.call hb) ?_
      replace h5 := carry4 hb h5
      replace H1 := H1.call hb
      clear hK K hb
      refine Drawn.only 4 (by kernel_rfl) rfl rfl (fun K hK => ?_)
      go_simp
      refine (rDiv_d HP.out HQ.out _).mono ?_
      rintro e w9 ⟨s3, s2, s1, s0, rfl, hd, hb⟩
      have HR := Lib.hid hd
      clear hd
      refine hK _ _ (fun _ _ => H1.call hb) ?_
      replace h5 := carry4 hb h5
      replace H1 := H1.call hb
      clear hK K hb
      obtain ⟨⟨c0, c1, c2, c3⟩, g0, g1, g2, g3⟩ := h5.cells
      refine Drawn.only 6 (by kernel_rfl) rfl rfl (fun K hK => ?_)
      go_simp
      refine hK _ _ (fun h => by simp at h) ?_
      exact Drawn.done (by kernel_rfl) (hK' _ _ (Met.intro (hJ _ _ ⟨_, p3, p2, p1, p0, q3, q2, q1, q0, s3, s2, s1, s0, rfl, HR.out, H1.set4 h5.ge _ _ _ _, heap_set4 h5.1 _ _ _ _⟩))) _
  · refine ⟨_, rfl, rfl, fun K hK => ?_⟩
    go_simp
    refine hK _ _ (fun _ _ => H1.alloc _) ?_
    clear hK K
    have h5 : New4 (w.heap.size + 1 + 1 + 1) (.int .u64 0) (.int .u64 0) (.int .u64 0) (.int .u64 0) 24 _ _ := New4.here _ H1.size
    replace H1 := H1.alloc (.cells #[.int .u64 0, .int .u64 0, .int .u64 0, .int .u64 0] 24)
    generalize World.alloc _ _ = V4 at H1 h5 ⊢
    refine Drawn.only 1 (by kernel_rfl) rfl rfl (fun K hK => ?_)
    go_simp
    refine (mSize_d HX.out _).mono ?_
    rintro e w9 ⟨p3, p2, p1, p0, rfl, hd, hb⟩
    have HP := Lib.hid hd
    clear hd
    refine hK _ _ (fun _ _ => H1.call hb) ?_
    replace h5 := carry4 hb h5
    replace H1 := H1.call hb
    clear hK K hb
    refine Drawn.only 3 (by kernel_rfl) rfl rfl (fun K hK => ?_)
    go_simp
    refine (mSize_d HY.out _).mono ?_
    rintro e w9 ⟨q3, q2, q1, q0, rfl, hd, hb⟩
    have HQ := Lib.hid hd
    clear hd
    refine hK _ _ (fun _ _ => H1.call hb) ?_
    replace h5 := carry4 hb h5
    replace H1 := H1.call hb
    clear hK K hb
    refine Drawn.only 4 (by kernel_rfl) rfl rfl (fun K hK => ?_)
    go_simp
    refine (rDiv_d HP.out HQ.out _).mono ?_
    rintro e w9 ⟨s3, s2, s1, s0, rfl, hd, hb⟩
    have HR := Lib.hid hd
    clear hd
    refine hK _ _ (fun _ _ => H1.call hb) ?_
    replace h5 := carry4 hb h5
    replace H1 := H1.call hb
    clear hK K hb
    obtain ⟨⟨c0, c1, c2, c3⟩, g0, g1, g2, g3⟩ := h5.cells
    refine Drawn.only 6 (by kernel_rfl) rfl rfl (fun K hK => ?_)
    go_simp
    refine hK _ _ (fun h => by simp at h) ?_
    exact Drawn.done (by kernel_rfl) (hK' _ _ (Met.intro (hJ _ _ ⟨_, p3, p2, p1, p0, q3, q2, q1, q0, s3, s2, s1, s0, rfl, HR.out, H1.set4 h5.ge _ _ _ _, heap_set4 h5.1 _ _ _ _⟩))) _
end

section
open Go.RowKit Go.Joins
attribute [local go_sem ↓] Go.wp_at_zero Go.wp_at_succ

theorem Fr.grown {w W w1 : World} {B N : Nat} {L : List (Nat × Array Value × TypeId)} {row : Option Nat} (h : Fr w B N L W) (hg : W.grownBy w1 row) (hr : ∀ k, row = some k → N ≤ k) : Fr w B N L w1 :=
  ⟨h.below.grown hg (Nat.le_trans h.le h.size) (fun k hk => Nat.le_trans h.le (hr k hk)), h.le, Nat.le_trans h.size hg.size, fun x hx => ⟨(h.know x hx).1, by
    have hx1 := (h.know x hx).1
    rw [hg.block _ (Nat.lt_of_lt_of_le hx1 h.size) (fun e => by have := hr _ e.symm; omega)]
    exact (h.know x hx).2⟩⟩
theorem BytesRow.congr {w : World} {v : Value} {n : Nat} {b c : Nat → Nat} (h : BytesRow w v n b) (hc : ∀ j, j < n → b j = c j) : BytesRow w v n c := by
  obtain ⟨g, cap, e, hg, hh⟩ := h
  exact ⟨g, cap, e, hg, fun j hj => by rw [hh j hj, hc j hj]⟩
theorem digs_more {x : Nat} (hx : x < W256) : digs x 32 ++ [Value.int .i64 0] = (List.range 33).map fun j => Value.int .i64 (byteOf x j : Nat) := by
  have e : byteOf x 32 = 0 := by
    unfold byteOf
    rw [← W256_bytes, Nat.div_eq_of_lt hx]
  rw [show (33 : Nat) = 32 + 1 from rfl, List.range_succ, List.map_append, List.map_singleton, e]
  rfl
theorem sum_all {x y : Nat} (hx : x < W256) (hy : y < W256) : x + y < 256 ^ 33 ∧ ∀ j, j < 33 → sumAt (byteOf x) (upTo 32 (byteOf y)) j = byteOf (x + y) j := by
  have hl : x + y < 256 ^ 33 := by
    rw [W256_bytes] at hx hy
    rw [Nat.pow_succ]
    omega
  have h := sum_low (byteOf x) (upTo 32 (byteOf y)) 33
  have hlb : lowB (upTo 32 (byteOf y)) 33 = y := by
    show lowB (upTo 32 (byteOf y)) 32 + upTo 32 (byteOf y) 32 * 256 ^ 32 = y
    rw [lowB_congr (a := upTo 32 (byteOf y)) (b := byteOf y) (fun j hj => if_pos hj), lowB_all hy, show upTo 32 (byteOf y) 32 = 0 from if_neg (by omega), Nat.zero_mul, Nat.add_zero]
  have hla : lowB (byteOf x) 33 = x := by
    rw [lowB_byte, Nat.mod_eq_of_lt]
    rw [W256_bytes] at hx
    rw [Nat.pow_succ]
    omega
  rw [hla, hlb] at h
  have hs := lowB_lt (sumAt_lt (byteOf x) (upTo 32 (byteOf y))) 33
  have hc : cry (byteOf x) (upTo 32 (byteOf y)) 33 = 0 := by
    rcases Nat.eq_zero_or_pos (cry (byteOf x) (upTo 32 (byteOf y)) 33) with e | e
    · exact e
    · have := Nat.mul_le_mul_right (256 ^ 33) e
      omega
  rw [hc, Nat.zero_mul, Nat.add_zero] at h
  exact ⟨hl, fun j hj => by rw [← h, lowB_inj (sumAt_lt _ _) hj]⟩

set_option maxRecDepth 100000 in
set_option maxHeartbeats 4000000 in
theorem mAdd_d {x y z a3 a2 a1 a0 b3 b2 b1 b0 m3 m2 m1 m0 : Nat} (hx : Dig x a0 a1 a2 a3) (hy : Dig y b0 b1 b2 b3) (hz : Dig z m0 m1 m2 m3) (w : World) :
    Calls Try.prog 15 #[.agg #[.int .u64 a3, .int .u64 a2, .int .u64 a1, .int .u64 a0], .agg #[.int .u64 b3, .int .u64 b2, .int .u64 b1, .int .u64 b0], .agg #[.int .u64 m3, .int .u64 m2, .int .u64 m1, .int .u64 m0]] w (RetD (modOf (x + y) z) w) := by
  have H := (((((Fx.start w).new #[.int .u64 a3, .int .u64 a2, .int .u64 a1, .int .u64 a0] 24).new #[.int .u64 b3, .int .u64 b2, .int .u64 b1, .int .u64 b0] 24).new #[.int .u64 m3, .int .u64 m2, .int .u64 m1, .int .u64 m0] 24).new #[.int .u64 0, .int .u64 0, .int .u64 0, .int .u64 0] 24).1
  have HX := Lib.hid hx; have HY := Lib.hid hy; have HZ := Lib.hid hz
  have HXY := Lib.hid (sum_all hx.lt hy.lt).1
  have HSM := Lib.hid (sum_all hx.lt hy.lt).2
  have HDG := Lib.hid (digs_more hx.lt)
  obtain ⟨i0, hi, hz0, hz1, hz2⟩ := info_parts Try.infoInt
  have HI := Lib.hid (And.intro hi (And.intro hz0 (And.intro hz1 hz2)))
  clear hx hy hz hi hz0 hz1 hz2
  go_enter Try.func15, Try.ntmps15
  go_wp2_with fail
  have H0 := H.drew
  have HS := Lib.hid (fun W (hW : Fr w w.heap.size (w.heap.size + 1 + 1 + 1 + 1) [(w.heap.size + 1 + 1 + 1, #[.int .u64 0, .int .u64 0, .int .u64 0, .int .u64 0], 24), (w.heap.size + 1 + 1, #[.int .u64 m3, .int .u64 m2, .int .u64 m1, .int .u64 m0], 24), (w.heap.size + 1, #[.int .u64 b3, .int .u64 b2, .int .u64 b1, .int .u64 b0], 24), (w.heap.size, #[.int .u64 a3, .int .u64 a2, .int .u64 a1, .int .u64 a0], 24)] W) => And.intro (hW.row (.tail _ (.head _))) (And.intro (hW.row (.tail _ (.tail _ (.head _)))) (hW.row (.tail _ (.tail _ (.tail _ (.head _)))))))
  refine Drawn.startEx (fun i => i == 9) H (by kernel_rfl) ?_
  clear H
  refine Drawn.take 0 (some 7) (v := ?_) rfl rfl (by kernel_rfl) (by kernel_rfl) (by kernel_rfl) (by kernel_rfl) (by kernel_rfl) rfl (fun _ _ _ h => h) (Or.inl ⟨rfl, ?_⟩) H0 ?_
  rotate_left
  · intro W hW; have hW := HS.out W hW; go_simp; try with_reducible rfl
  simp only [put_list, List.set]
  refine Drawn.take 4 (some 11) (v := ?_) rfl rfl (by kernel_rfl) (by kernel_rfl) (by kernel_rfl) (by kernel_rfl) (by kernel_rfl) rfl (fun _ _ _ h => h) (Or.inl ⟨rfl, ?_⟩) H0 ?_
  rotate_left
  · intro W hW; have hW := HS.out W hW; go_simp; try with_reducible rfl
  simp only [put_list, List.set]
  refine Drawn.take 7 (some 14) (v := ?_) rfl rfl (by kernel_rfl) (by kernel_rfl) (by kernel_rfl) (by kernel_rfl) (by kernel_rfl) rfl (fun _ _ _ h => h) (Or.inl ⟨rfl, ?_⟩) H0 ?_
  rotate_left
  · intro W hW; have hW := HS.out W hW; go_simp; try with_reducible rfl
  simp only [put_list, List.set]
  generalize World.drew _ = W0 at H0 ⊢
  refine Drawn.among [1, 2] (by kernel_rfl) (by decide) ?_
  intro i hi
  simp only [List.mem_cons, List.not_mem_nil, or_false] at hi
  rcases hi with rfl | rfl
  · refine ⟨_, rfl, rfl, fun K hK => ?_⟩
    go_simp
    refine (Digits_c HX.out _).mono ?_
    rintro e w1 ⟨v1, rfl, ho, hb⟩
    replace ho := ownsRow_from ho (base' := w.heap.size + 1 + 1 + 1 + 1) H0.size
    refine hK _ _ (fun _ _ => H0.call hb) ?_
    replace H0 := H0.call hb
    clear hK K hb
    refine Drawn.only 2 (by kernel_rfl) rfl rfl (fun K hK => ?_)
    go_simp
    refine hK _ _ (fun _ _ => H0.alloc _) ?_
    clear hK K
    have hc : (w1.alloc (.cells #[.int .i64 0] 3)).cell? ⟨w1.heap.size, 0, none⟩ = some (.int .i64 0) := cell_of (heap_alloc_new _ _) 0
    replace ho := ho.alloc (.cells #[.int .i64 0] 3)
    replace H0 := H0.alloc (.cells #[.int .i64 0] 3)
    generalize hb9 : w1.heap.size = b9 at *
    generalize World.alloc _ _ = V1 at H0 ho hc ⊢
    have hnews : ∀ j u, [Value.int .i64 0][j]? = some u → V1.cell? ((⟨b9, 0, none⟩ : Addr).add j) = some u := by
      intro j u hj
      match j, hj with
      | 0, hj =>
        simp at hj
        subst hj
        rw [show (⟨b9, 0, none⟩ : Addr).add 0 = ⟨b9, 0, none⟩ from by unfold Addr.add; split <;> simp_all]
        exact hc
    clear hc hb9
    refine Drawn.only 3 (by kernel_rfl) rfl rfl (fun K hK => ?_)
    refine wp_append_lies _ _ _ _ rfl (w.heap.size + 1 + 1 + 1 + 1) 3 i0 _ 1 8 Try.underlying39 HI.out.1 HI.out.2.1 HI.out.2.2.1 HI.out.2.2.2 rfl (by omega) v1 32 (digs x 32) rfl ho ⟨b9, 0, none⟩ 1 1 [.int .i64 0] rfl rfl hnews (by intro u hu; simp at hu; subst hu; rfl) (by omega) (by simp [maxLen]) (by omega) H0.size _ rfl ?_
    intro g cap w2 hown hgrow _ _
    have hB := H0.grown hgrow (fun k hk => (ho.lt k hk).1)
    refine hK _ _ (fun _ _ => hB) ?_
    clear hK K H0 ho hnews hgrow
    have H0 := hB
    clear hB
    have r4 : BytesRow w2 (.slice (some ⟨g, 0, none⟩) 33 cap) 33 (byteOf x) := BytesRow.of_owns (HDG.out ▸ hown) (by decide)
    clear hown
    refine Drawn.only 5 (by kernel_rfl) rfl rfl (fun K hK => ?_)
    go_simp
    refine (Digits_b HY.out _).mono ?_
    rintro e w9 ⟨v5, rfl, r5, hb⟩
    refine hK _ _ (fun _ _ => H0.call hb) ?_
    replace H0 := H0.call hb
    replace r4 := r4.call hb
    clear hK K hb
    refine Drawn.only 6 (by kernel_rfl) rfl rfl (fun K hK => ?_)
    go_simp
    refine (Sum_c (by decide) (by decide) (byteOf_lt x) (byteOf_lt y) _ r4 r5).mono ?_
    rintro e w8 ⟨v6, rfl, r6, hb⟩
    refine hK _ _ (fun _ _ => H0.call hb) ?_
    replace H0 := H0.call hb
    clear hK K hb r4 r5
    have HV := Lib.hid (r6.congr HSM.out)
    have HR := Lib.hid (fun W h => mRest_d (n := 33) (v := v6) (Or.inr (Or.inl rfl)) HXY.out HZ.out W h)
    clear r6
    refine Drawn.only 8 (by kernel_rfl) rfl rfl (fun K hK => ?_)
    go_simp
    refine (HR.out _ HV.out).mono ?_
    rintro e w7 ⟨p53, p52, p51, p50, rfl, hd, hb⟩
    refine hK _ _ (fun _ _ => H0.call hb) ?_
    replace H0 := H0.call hb
    clear hK K hb
    have D5 := Lib.hid hd
    clear hd
    have K0 := H0.know (_, _, _) List.mem_cons_self
    obtain ⟨⟨r0, r1, r2, r3⟩, g0, g1, g2, g3⟩ := cells4 K0.2
    replace K0 := Lib.hid K0
    refine Drawn.only 9 (by kernel_rfl) rfl rfl (fun K hK => ?_)
    go_simp
    refine hK _ _ (fun h => by simp at h) ?_
    clear hK K
    refine Drawn.done (by kernel_rfl) ?_ _
    go_wp2_with fail
    exact bodyPost_ret (results_cell_row Try.results15 _ _ _ _ _ _ _ rfl (heap_set4 K0.out.2 _ _ _ _) Try.underlying24 rfl (by kernel_rfl)) rfl
      ⟨_, _, _, _, rfl, D5.out, below_set4 H0.below (by omega) _ _ _ _⟩
  · refine ⟨_, rfl, rfl, fun K hK => ?_⟩
    go_simp
    refine hK _ _ (fun _ _ => H0.alloc _) ?_
    clear hK K
    have hc : (W0.alloc (.cells #[.int .i64 0] 3)).cell? ⟨W0.heap.size, 0, none⟩ = some (.int .i64 0) := cell_of (heap_alloc_new _ _) 0
    have hlt9 : W0.heap.size < (W0.alloc (.cells #[.int .i64 0] 3)).heap.size := by simp
    replace H0 := H0.alloc (.cells #[.int .i64 0] 3)
    generalize hb9 : W0.heap.size = b9 at *
    generalize World.alloc _ _ = V1 at H0 hc hlt9 ⊢
    clear hb9
    refine Drawn.only 1 (by kernel_rfl) rfl rfl (fun K hK => ?_)
    go_simp
    refine (Digits_c HX.out _).mono ?_
    rintro e w1 ⟨v1, rfl, ho, hb⟩
    replace ho := ownsRow_from ho (base' := w.heap.size + 1 + 1 + 1 + 1) H0.size
    replace hc := (hb.cell (p := ⟨b9, 0, none⟩) hlt9).trans hc
    refine hK _ _ (fun _ _ => H0.call hb) ?_
    replace H0 := H0.call hb
    clear hK K hb hlt9
    have hnews : ∀ j u, [Value.int .i64 0][j]? = some u → w1.cell? ((⟨b9, 0, none⟩ : Addr).add j) = some u := by
      intro j u hj
      match j, hj with
      | 0, hj =>
        simp at hj
        subst hj
        rw [show (⟨b9, 0, none⟩ : Addr).add 0 = ⟨b9, 0, none⟩ from by unfold Addr.add; split <;> simp_all]
        exact hc
    clear hc
    refine Drawn.only 3 (by kernel_rfl) rfl rfl (fun K hK => ?_)
    refine wp_append_lies _ _ _ _ rfl (w.heap.size + 1 + 1 + 1 + 1) 3 i0 _ 1 8 Try.underlying39 HI.out.1 HI.out.2.1 HI.out.2.2.1 HI.out.2.2.2 rfl (by omega) v1 32 (digs x 32) rfl ho ⟨b9, 0, none⟩ 1 1 [.int .i64 0] rfl rfl hnews (by intro u hu; simp at hu; subst hu; rfl) (by omega) (by simp [maxLen]) (by omega) H0.size _ rfl ?_
    intro g cap w2 hown hgrow _ _
    have hB := H0.grown hgrow (fun k hk => (ho.lt k hk).1)
    refine hK _ _ (fun _ _ => hB) ?_
    clear hK K H0 ho hnews hgrow
    have H0 := hB
    clear hB
    have r4 : BytesRow w2 (.slice (some ⟨g, 0, none⟩) 33 cap) 33 (byteOf x) := BytesRow.of_owns (HDG.out ▸ hown) (by decide)
    clear hown
    refine Drawn.only 5 (by kernel_rfl) rfl rfl (fun K hK => ?_)
    go_simp
    refine (Digits_b HY.out _).mono ?_
    rintro e w9 ⟨v5, rfl, r5, hb⟩
    refine hK _ _ (fun _ _ => H0.call hb) ?_
    replace H0 := H0.call hb
    replace r4 := r4.call hb
    clear hK K hb
    refine Drawn.only 6 (by kernel_rfl) rfl rfl (fun K hK => ?_)
    go_simp
    refine (Sum_c (by decide) (by decide) (byteOf_lt x) (byteOf_lt y) _ r4 r5).mono ?_
    rintro e w8 ⟨v6, rfl, r6, hb⟩
    refine hK _ _ (fun _ _ => H0.call hb) ?_
    replace H0 := H0.call hb
    clear hK K hb r4 r5
    have HV := Lib.hid (r6.congr HSM.out)
    have HR := Lib.hid (fun W h => mRest_d (n := 33) (v := v6) (Or.inr (Or.inl rfl)) HXY.out HZ.out W h)
    clear r6
    refine Drawn.only 8 (by kernel_rfl) rfl rfl (fun K hK => ?_)
    go_simp
    refine (HR.out _ HV.out).mono ?_
    rintro e w7 ⟨p53, p52, p51, p50, rfl, hd, hb⟩
    refine hK _ _ (fun _ _ => H0.call hb) ?_
    replace H0 := H0.call hb
    clear hK K hb
    have D5 := Lib.hid hd
    clear hd
    have K0 := H0.know (_, _, _) List.mem_cons_self
    obtain ⟨⟨r0, r1, r2, r3⟩, g0, g1, g2, g3⟩ := cells4 K0.2
    replace K0 := Lib.hid K0
    refine Drawn.only 9 (by kernel_rfl) rfl rfl (fun K hK => ?_)
    go_simp
    refine hK _ _ (fun h => by simp at h) ?_
    clear hK K
    refine Drawn.done (by kernel_rfl) ?_ _
    go_wp2_with fail
    exact bodyPost_ret (results_cell_row Try.results15 _ _ _ _ _ _ _ rfl (heap_set4 K0.out.2 _ _ _ _) Try.underlying24 rfl (by kernel_rfl)) rfl
      ⟨_, _, _, _, rfl, D5.out, below_set4 H0.below (by omega) _ _ _ _⟩
end

section
open Go.RowKit Go.Joins
attribute [local go_sem ↓] Go.wp_at_zero Go.wp_at_succ

theorem top_byte {x k : Nat} (h : x < 256 ^ (k + 1)) : (byteOf x k = 0 → x < 256 ^ k) ∧ (byteOf x k ≠ 0 → 256 ^ k ≤ x) := by
  have hp : 0 < 256 ^ k := Nat.pow_pos (by decide)
  rw [Nat.pow_succ] at h
  have hq : x / 256 ^ k < 256 := (Nat.div_lt_iff_lt_mul hp).2 (by rw [Nat.mul_comm]; exact h)
  have e : byteOf x k = x / 256 ^ k := by unfold byteOf; exact Nat.mod_eq_of_lt hq
  rw [e]
  refine ⟨fun h0 => ?_, fun h0 => ?_⟩
  · rcases Nat.lt_or_ge x (256 ^ k) with h1 | h1
    · exact h1
    · have := Nat.div_pos h1 hp
      omega
  · rcases Nat.lt_or_ge x (256 ^ k) with h1 | h1
    · exact absurd (Nat.div_eq_of_lt h1) h0
    · exact h1

set_option maxRecDepth 100000 in
set_option maxHeartbeats 4000000 in
theorem mSizeN_c {x a3 a2 a1 a0 : Nat} (hx : Dig x a0 a1 a2 a3) (w : World) :
    Calls Try.prog 23 #[.agg #[.int .u64 a3, .int .u64 a2, .int .u64 a1, .int .u64 a0]] w (RetSize x w) := by
  have H := ((Fx.start w).new #[.int .u64 a3, .int .u64 a2, .int .u64 a1, .int .u64 a0] 24).1
  have HX := Lib.hid hx; clear hx
  go_enter Try.func23, Try.ntmps23
  go_wp2_with fail
  refine (Digits_b HX.out _).mono ?_
  rintro e w1 ⟨v, rfl, ⟨g, cap, rfl, hg, hc⟩, hb1⟩
  have HB := Lib.hid (H.call hb1).below
  have HC := Lib.hid hc
  have HX32 := Lib.hid (show x < 256 ^ 32 by rw [← W256_bytes]; exact HX.out.lt)
  clear H hb1 hc hg
  go_wp2_with fail
  go_loopw [4] (fun i wr => ∃ k : Nat, i = .int .i64 k ∧ k ≤ 32 ∧ x < 256 ^ k ∧ wr = w1) (fun i _ => (intOf i).toNat)
  case atStart => exact ⟨32, rfl, by omega, HX32.out, rfl⟩
  case round =>
    obtain ⟨k, rfl, hk, hlt, rfl⟩ := hrel
    have HL := Lib.hid hlt
    clear hlt HX32
    rcases k with _ | k
    · have HS := Lib.hid (show SizeOf x 0 from ⟨by omega, by have := HL.out; simpa using this, fun h => absurd h (by omega)⟩)
      go_wp2_with fail
      go_ret
      exact ⟨0, HS.out, rfl, HB.out⟩
    · have hp : (0 : Int) < ((k + 1 : Nat) : Int) := by omega
      have c0 := HC.out k (by omega)
      obtain ⟨h1, h2⟩ := top_byte HL.out
      have HT := Lib.hid (And.intro h1 h2)
      clear h1 h2
      obtain ⟨m, hm⟩ : ∃ m, m = k + 1 := ⟨_, rfl⟩
      have HMK := Lib.hid hm
      have b1 : (0 : Int) ≤ (k : Int) ∧ (k : Int) < 32 := by omega
      by_cases h0 : byteOf x k = 0
      · have HE := Lib.hid (HT.out.1 h0)
        rw [h0] at c0
        clear hm HT
        go_wp2_with fail
        clear hp c0 b1 h0
        go_roundw
        case rel => exact ⟨k, rfl, by omega, HE.out, trivial⟩
        case measure => simp [intOf] <;> omega
      · have HS := Lib.hid (show SizeOf x (k + 1) from ⟨hk, by have := HL.out; rwa [show (256 : Nat) = 2 ^ 8 by rfl, ← Nat.pow_mul] at this, fun _ => by have := HT.out.2 h0; rwa [show (256 : Nat) = 2 ^ 8 by rfl, ← Nat.pow_mul] at this⟩)
        have hy : ¬ ((byteOf x k : Nat) : Int) = 0 := by omega
        clear HT h0
        generalize byteOf x k = y at *
        go_wp2_with fail
        go_ret
        exact ⟨k + 1, HS.out, rfl, HB.out⟩
end

section
open Go.RowKit Go.Joins
attribute [local go_sem ↓] Go.wp_at_zero Go.wp_at_succ

/-- What Exp knows at the head of a round. -/
structure ES (w : World) (a0 a1 a2 a3 bo gd cap y o0 o1 o2 o3 : Nat) (W : World) : Prop where
  below : Below w.heap.size w W
  box : W.heap[w.heap.size]? = some (.cells #[.int .u64 a3, .int .u64 a2, .int .u64 a1, .int .u64 a0] 24 (0, 0))
  res : W.heap[w.heap.size + 1 + 1]? = some (.cells #[.int .u64 0, .int .u64 0, .int .u64 0, .int .u64 0] 24 (0, 0))
  out : W.heap[bo]? = some (.cells #[.int .u64 o3, .int .u64 o2, .int .u64 o1, .int .u64 o0] 24 (0, 0))
  ge : w.heap.size + 1 + 1 < bo
  ne : gd ≠ bo
  row : BytesRow W (.slice (some ⟨gd, 0, none⟩) 32 cap) 32 (byteOf y)
theorem ES.call {w W W' : World} {a0 a1 a2 a3 bo gd cap y o0 o1 o2 o3 : Nat} (h : ES w a0 a1 a2 a3 bo gd cap y o0 o1 o2 o3 W) (hb : Below W.heap.size W W') : ES w a0 a1 a2 a3 bo gd cap y o0 o1 o2 o3 W' :=
  ⟨h.below.trans (hb.mono h.below.size), (hb.block _ (lt_of h.box)).trans h.box, (hb.block _ (lt_of h.res)).trans h.res, (hb.block _ (lt_of h.out)).trans h.out, h.ge, h.ne, h.row.call hb⟩
theorem ES.set {w W : World} {a0 a1 a2 a3 bo gd cap y o0 o1 o2 o3 p0 p1 p2 p3 : Nat} (h : ES w a0 a1 a2 a3 bo gd cap y o0 o1 o2 o3 W) :
    ES w a0 a1 a2 a3 bo gd cap y p0 p1 p2 p3 ((((W.setCell ⟨bo, 0, none⟩ (.int .u64 p3)).setCell ⟨bo, 1, none⟩ (.int .u64 p2)).setCell ⟨bo, 2, none⟩ (.int .u64 p1)).setCell ⟨bo, 3, none⟩ (.int .u64 p0)) := by
  have g := h.ge
  exact ⟨below_set4 h.below (by omega) _ _ _ _, (heap_far (by omega) _ _ _ _).trans h.box, (heap_far (by omega) _ _ _ _).trans h.res, heap_set4 h.out _ _ _ _, g, h.ne, h.row.far h.ne _ _ _ _⟩

theorem exp_bit (x y i : Nat) :
    (y / 2 ^ i % 2 = 0 → x ^ (y / 2 ^ i) % W256 = (x ^ (y / 2 ^ (i + 1)) % W256) * (x ^ (y / 2 ^ (i + 1)) % W256) % W256) ∧
    (y / 2 ^ i % 2 = 1 → x ^ (y / 2 ^ i) % W256 = (x ^ (y / 2 ^ (i + 1)) % W256) * (x ^ (y / 2 ^ (i + 1)) % W256) % W256 * x % W256) := by
  have h1 : y / 2 ^ (i + 1) = y / 2 ^ i / 2 := by rw [Nat.div_div_eq_div_mul, Nat.pow_succ]
  rw [h1]
  generalize y / 2 ^ i = z
  refine ⟨fun h => ?_, fun h => ?_⟩
  · rw [← Nat.mul_mod, ← Nat.pow_add, show z / 2 + z / 2 = z by omega]
  · rw [← Nat.mul_mod, ← Nat.pow_add, Nat.mod_mul_mod, ← Nat.pow_succ, show (z / 2 + z / 2).succ = z by omega]

set_option maxRecDepth 100000 in
set_option maxHeartbeats 8000000 in
theorem mExp_d {x y b3 b2 b1 b0 a3 a2 a1 a0 : Nat} (hx : Dig x a0 a1 a2 a3) (hy : Dig y b0 b1 b2 b3) (w : World) :
    Calls Try.prog 19 #[.agg #[.int .u64 a3, .int .u64 a2, .int .u64 a1, .int .u64 a0], .agg #[.int .u64 b3, .int .u64 b2, .int .u64 b1, .int .u64 b0]] w (RetD (x ^ y % W256) w) := by
  have H := ((((Fx.start w).new #[.int .u64 a3, .int .u64 a2, .int .u64 a1, .int .u64 a0] 24).new #[.int .u64 b3, .int .u64 b2, .int .u64 b1, .int .u64 b0] 24).new #[.int .u64 0, .int .u64 0, .int .u64 0, .int .u64 0] 24).1
  have HX := Lib.hid hx; have HY := Lib.hid hy
  clear hx hy
  go_enter Try.func19, Try.ntmps19
  go_wp2_with fail
  refine (rFrom_any 1 _).mono ?_
  rintro e w1 ⟨rfl, hb1⟩
  have H1 := H.call hb1
  have kB := H1.row (.tail _ (.head _))
  have nB := H1.lt (.tail _ (.head _))
  replace H1 := Lib.hid H1
  clear H hb1
  go_wp2_with fail
  refine (Digits_c HY.out _).mono ?_
  rintro e w2 ⟨v, rfl, ho, hb2⟩
  obtain ⟨gd, cap, rfl⟩ := ownsRow_form ho (by omega)
  have hE := (H1.out.up).new #[.int .u64 0, .int .u64 0, .int .u64 0, .int .u64 1] 24
  have hE2 := hE.call hb2
  have H3 := Lib.hid (show ES w a0 a1 a2 a3 w1.heap.size gd cap y 1 0 0 0 w2 from
    ⟨hE2.below, (hE2.know _ (.tail _ (.tail _ (.tail _ (.head _))))).2, (hE2.know _ (.tail _ (.head _))).2, (hE2.know _ (.head _)).2, H1.out.lt (.head _), by
      have := (ho.lt gd rfl).1
      simp at this
      omega, BytesRow.of_owns ho (by decide)⟩)
  have HD0 := Lib.hid (show Dig (x ^ (y / 2 ^ 256) % W256) 1 0 0 0 from by
    rw [Nat.div_eq_of_lt (by have := HY.out.lt; rwa [show W256 = 2 ^ 256 by decide +kernel] at this), Nat.pow_zero, show 1 % W256 = 1 by decide +kernel]
    exact dig_small (by decide))
  clear ho hb2 hE hE2 H1 kB nB
  generalize w1.heap.size = bo at *
  go_wp2_with fail
  go_loopw [7] (fun i wr => ∃ (t : Nat) (z : Int) (o0 o1 o2 o3 : Nat), i = .int .i64 z ∧ z = (t : Int) - 1 ∧ t ≤ 256 ∧ Dig (x ^ (y / 2 ^ t) % W256) o0 o1 o2 o3 ∧ ES w a0 a1 a2 a3 bo gd cap y o0 o1 o2 o3 wr) (fun i _ => (intOf i + 1).toNat)
  case atStart => exact ⟨256, _, 1, 0, 0, 0, rfl, by omega, by omega, HD0.out, H3.out⟩
  case round =>
    clear H3 HD0
    obtain ⟨t, z, o0, o1, o2, o3, rfl, hz, ht, hD, hS⟩ := hrel
    have HD := Lib.hid hD
    clear hD
    obtain ⟨⟨c0, c1, c2, c3⟩, f0, f1, f2, f3⟩ := cells4 hS.out
    rcases t with _ | i
    · have hz1 : z = -1 := by omega
      subst hz1
      have HR := Lib.hid (show Dig (x ^ y % W256) o0 o1 o2 o3 from by have h := HD.out; rwa [Nat.pow_zero, Nat.div_one] at h)
      obtain ⟨⟨d0, d1, d2, d3⟩, g0, g1, g2, g3⟩ := cells4 hS.res
      have HRS := Lib.hid hS.res
      have HB := Lib.hid hS.below
      clear hz ht hS HD
      go_wp2_with fail
      exact bodyPost_ret (results_cell_row Try.results19 _ _ _ _ _ _ _ rfl (heap_set4 HRS.out _ _ _ _) Try.underlying24 rfl (by kernel_rfl)) rfl
        ⟨_, _, _, _, rfl, HR.out, below_set4 HB.out (by omega) _ _ _ _⟩
    · have hz1 : z = (i : Int) := by omega
      subst hz1
      clear hz
      obtain ⟨he0, he1⟩ := exp_bit x y i
      have HE0 := Lib.hid he0; have HE1 := Lib.hid he1
      clear he0 he1
      have hbyt : byteOf y (i / 8) / 2 ^ (i % 8) % 2 = y / 2 ^ i % 2 := by
        have h1 : (byteOf y (i / 8)).testBit (i % 8) = y.testBit i := by
          rw [byteOf_testBit, show 8 * (i / 8) + i % 8 = i by omega]; simp; omega
        rw [Nat.testBit_eq_decide_div_mod_eq, Nat.testBit_eq_decide_div_mod_eq, decide_eq_decide] at h1
        have h2 : byteOf y (i / 8) / 2 ^ (i % 8) % 2 < 2 := Nat.mod_lt _ (by decide)
        have h3 : y / 2 ^ i % 2 < 2 := Nat.mod_lt _ (by decide)
        omega
      have HBY := Lib.hid hbyt
      clear hbyt
      generalize hEv : x ^ (y / 2 ^ (i + 1)) % W256 = E at *
      clear hEv
      have HS := Lib.hid hS
      clear hS
      have hzi : (0 : Int) ≤ (i : Int) := by omega
      go_wp2_with fail
      refine (rMul_d HD.out HD.out _).mono ?_
      rintro e w3 ⟨p3, p2, p1, p0, rfl, hp, hb3⟩
      have H4 := Lib.hid (HS.out.call hb3)
      have HP := Lib.hid hp
      clear hb3 hp HS c0 c1 c2 c3 f0 f1 f2 f3
      obtain ⟨⟨c0, c1, c2, c3⟩, f0, f1, f2, f3⟩ := cells4 H4.out.out
      have H5 := Lib.hid (H4.out.set (p0 := p0) (p1 := p1) (p2 := p2) (p3 := p3))
      obtain ⟨g', cap', e', hg', hdc⟩ := H4.out.row
      injection e' with e1 e2 e3
      injection e1 with e1
      injection e1 with e1
      subst e1 e3
      have hi8 : i / 8 < 32 := by omega
      have cd0 := hdc (i / 8) hi8
      have cd := (World.cell?_of_block (a := ⟨gd, i / 8, none⟩) (heap_far (w := w3) H4.out.ne (.int .u64 (p3 : Nat)) (.int .u64 (p2 : Nat)) (.int .u64 (p1 : Nat)) (.int .u64 (p0 : Nat)))).trans cd0
      clear hdc hg' cd0
      have q1 : (i : Int).tdiv 8 = ((i / 8 : Nat) : Int) := by rw [Int.tdiv_eq_ediv_of_nonneg (by omega)]; omega
      have q2 : (i : Int) / 8 = ((i / 8 : Nat) : Int) := by omega
      have s1 : (i : Int).tmod 8 = ((i % 8 : Nat) : Int) := by rw [Int.tmod_eq_emod_of_nonneg (by omega)]; omega
      have s2 : (i : Int) % 8 = ((i % 8 : Nat) : Int) := by omega
      have bq : (0 : Int) ≤ ((i / 8 : Nat) : Int) ∧ ((i / 8 : Nat) : Int) < 32 := by omega
      have hi7 : i % 8 < 8 := Nat.mod_lt _ (by decide)
      have hw3 : IntKind.i64.wrap ((i / 8 : Nat) : Int) = ((i / 8 : Nat) : Int) := IntWalk.i64_in _ (by omega)
      have hsh : ((byteOf y (i / 8) : Nat) : Int) / 2 ^ (i % 8) = ((byteOf y (i / 8) / 2 ^ (i % 8) : Nat) : Int) := by simp
      have hbl : byteOf y (i / 8) < 256 := Nat.mod_lt _ (by decide)
      have hbit : y / 2 ^ i % 2 = 0 ∨ y / 2 ^ i % 2 = 1 := by omega
      generalize byteOf y (i / 8) / 2 ^ (i % 8) = sh at *
      have hm2 : (sh : Int).tmod 2 = ((y / 2 ^ i % 2 : Nat) : Int) := by
        rw [Int.tmod_eq_emod_of_nonneg (Int.natCast_nonneg _), ← HBY.out]; simp
      have hm3 : (sh : Int) % 2 = ((y / 2 ^ i % 2 : Nat) : Int) := by
        rw [← HBY.out]; simp
      generalize byteOf y (i / 8) = by' at *
      generalize hqv : i / 8 = q at *
      generalize hsv : i % 8 = sv at *
      generalize hbv : y / 2 ^ i % 2 = bt at *
      clear hqv hsv hbv HBY
      rcases hbit with rfl | rfl
      · have HF := Lib.hid (show Dig (x ^ (y / 2 ^ i) % W256) p0 p1 p2 p3 from by rw [HE0.out rfl]; exact HP.out)
        clear HE0 HE1 HP HD H4
        go_wp2_with fail
        clear c0 c1 c2 c3 f0 f1 f2 f3 cd q1 q2 s1 s2 bq hw3 hsh hm2 hm3 hzi
        go_roundw
        case rel => exact ⟨i, _, p0, p1, p2, p3, rfl, rfl, by omega, HF.out, H5.out⟩
        case measure => simp [intOf] <;> omega
      · obtain ⟨⟨a0', a1', a2', a3'⟩, _⟩ := cells4 H5.out.box
        go_wp2_with fail
        refine (rMul_d HP.out HX.out _).mono ?_
        rintro e w5 ⟨m3, m2, m1, m0, rfl, hm, hb5⟩
        have HF := Lib.hid (show Dig (x ^ (y / 2 ^ i) % W256) m0 m1 m2 m3 from by rw [HE1.out trivial]; exact hm)
        have H6 := Lib.hid (H5.out.call hb5)
        clear hb5 hm HE0 HE1 HP HD H4 H5 c0 c1 c2 c3 f0 f1 f2 f3 a0' a1' a2' a3' cd
        obtain ⟨⟨c0, c1, c2, c3⟩, f0, f1, f2, f3⟩ := cells4 H6.out.out
        have H7 := Lib.hid (H6.out.set (p0 := m0) (p1 := m1) (p2 := m2) (p3 := m3))
        clear H6
        go_wp2_with fail
        clear c0 c1 c2 c3 f0 f1 f2 f3 q1 q2 s1 s2 bq hw3 hsh hm2 hm3 hzi
        go_roundw
        case rel => exact ⟨i, _, m0, m1, m2, m3, rfl, rfl, by omega, HF.out, H7.out⟩
        case measure => simp [intOf] <;> omega
end

section
open Go.RowKit Go.Joins
attribute [local go_sem ↓] Go.wp_at_zero Go.wp_at_succ

def dl (f : Nat → Nat) : List Value := (List.range 32).map fun j => Value.int .i64 (f j : Int)
theorem dl_at (f : Nat → Nat) {j : Nat} (hj : j < 32) : (dl f)[j]? = some (.int .i64 (f j : Nat)) := by simp [dl, hj]
theorem dl_set (f : Nat → Nat) {q : Nat} (hq : q < 32) (v : Nat) : (dl f).set q (.int .i64 (v : Int)) = dl (ups f q v) := by
  apply List.ext_getElem?
  intro j
  rw [List.getElem?_set]
  by_cases hj : j < 32
  · rw [dl_at _ hj, dl_at _ hj]
    by_cases e : q = j
    · subst e
      rw [if_pos rfl, if_pos (by simp [dl]; omega)]
      unfold ups
      rw [if_pos rfl]
    · rw [if_neg e]
      unfold ups
      rw [if_neg (Ne.symm e)]
  · have h1 : (dl f)[j]? = none := by simp [dl]; omega
    have h2 : (dl (ups f q v))[j]? = none := by simp [dl]; omega
    rw [h1, h2, if_neg (by omega)]
theorem dl_congr {f g : Nat → Nat} (h : ∀ j, j < 32 → f j = g j) : dl f = dl g := by
  unfold dl
  apply List.map_congr_left
  intro j hj
  rw [h j (by simpa using hj)]
/-- The bytes behind the sign, up to m, filled with F. -/
def sxt (k x F m j : Nat) : Nat := if k < j ∧ j < m then F else byteOf x j
theorem sxt_start (k x F : Nat) : sxt k x F (k + 1) = byteOf x := by
  funext j
  exact if_neg (by omega)
structure GS (w : World) (g cap : Nat) (f : Nat → Nat) (W : World) : Prop where
  below : Below w.heap.size w W
  res : W.heap[w.heap.size + 1 + 1]? = some (.cells #[.int .u64 0, .int .u64 0, .int .u64 0, .int .u64 0] 24 (0, 0))
  ge : w.heap.size + 1 + 1 < g
  own : W.ownsRow w.heap.size 3 1 (.slice (some ⟨g, 0, none⟩) 32 cap) 32 (dl f)
theorem GS.step {w W : World} {g cap k x F m : Nat} (h : GS w g cap (sxt k x F m) W) (hm : k + 1 ≤ m) (hm2 : m < 32) : GS w g cap (sxt k x F (m + 1)) (W.setCell ⟨g, m, none⟩ (.int .i64 (F : Int))) := by
  have hg := h.ge
  refine ⟨h.below.setCell (by show w.heap.size ≤ g; omega) _, (heap_setCell_other _ _ _ _ (by show ¬ _ = g; omega)).trans h.res, hg, ?_⟩
  have hs := (h.own.stored m (.int .i64 (F : Int))).1
  rw [dl_set _ hm2] at hs
  rw [dl_congr (g := sxt k x F (m + 1)) fun j _ => by
    unfold ups sxt
    by_cases e : j = m
    · rw [if_pos e, if_pos (by omega)]
    · rw [if_neg e]
      by_cases e2 : k < j ∧ j < m
      · rw [if_pos e2, if_pos (by omega)]
      · rw [if_neg e2, if_neg (by omega)]] at hs
  exact hs

set_option maxRecDepth 100000 in
set_option maxHeartbeats 8000000 in
theorem mSext_out {k x k3 k2 k1 k0 a3 a2 a1 a0 : Nat} (hk : Dig k k0 k1 k2 k3) (hx : Dig x a0 a1 a2 a3) (hl : ¬ k < 31) (w : World) :
    Calls Try.prog 21 #[.agg #[.int .u64 k3, .int .u64 k2, .int .u64 k1, .int .u64 k0], .agg #[.int .u64 a3, .int .u64 a2, .int .u64 a1, .int .u64 a0]] w (RetD (sext k x) w) := by
  have H := ((((Fx.start w).new #[.int .u64 k3, .int .u64 k2, .int .u64 k1, .int .u64 k0] 24).new #[.int .u64 a3, .int .u64 a2, .int .u64 a1, .int .u64 a0] 24).new #[.int .u64 0, .int .u64 0, .int .u64 0, .int .u64 0] 24).1
  have HK := Lib.hid hk; have HX := Lib.hid hx
  have HDC := Lib.hid (show decide (k < 31) = false from by simpa using hl)
  have HE := Lib.hid (show sext k x = x from if_neg hl)
  clear hl
  clear hk hx
  go_enter Try.func21, Try.ntmps21
  go_wp2_with fail
  have H0 := H.drew
  have HS := Lib.hid (fun W (hW : Fr w w.heap.size (w.heap.size + 1 + 1 + 1) [(w.heap.size + 1 + 1, #[.int .u64 0, .int .u64 0, .int .u64 0, .int .u64 0], 24), (w.heap.size + 1, #[.int .u64 a3, .int .u64 a2, .int .u64 a1, .int .u64 a0], 24), (w.heap.size, #[.int .u64 k3, .int .u64 k2, .int .u64 k1, .int .u64 k0], 24)] W) => And.intro (hW.row (.tail _ (.head _))) (hW.row (.tail _ (.tail _ (.head _)))))
  refine Drawn.startEx (fun _ => false) H (by kernel_rfl) ?_
  clear H
  refine Drawn.take 0 (some 8) (v := ?_) rfl rfl (by kernel_rfl) (by kernel_rfl) (by kernel_rfl) (by kernel_rfl) (by kernel_rfl) rfl (fun _ _ _ h => h) (Or.inl ⟨rfl, ?_⟩) H0 ?_
  rotate_left
  · intro W hW; have hW := HS.out W hW; go_simp; try with_reducible rfl
  simp only [put_list, List.set]
  refine Drawn.only 1 (by kernel_rfl) rfl rfl (fun K hK => ?_)
  go_simp
  refine (rFrom_any 31 _).mono ?_
  rintro e w9 ⟨rfl, hb⟩
  refine hK _ _ (fun _ _ => H0.call hb) ?_
  replace H0 := H0.call hb
  clear hK K hb
  refine Drawn.only 2 (by kernel_rfl) rfl rfl (fun K hK => ?_)
  go_simp
  refine (rLess_c HK.out (dig_small (show 31 < M64 by decide)) _).mono ?_
  rintro e w8 ⟨rfl, hb⟩
  rw [HDC.out]
  refine hK _ _ (fun _ _ => H0.call hb) ?_
  replace H0 := H0.call hb
  clear hK K hb
  refine Drawn.take 3 (some 11) (v := ?_) rfl rfl (by kernel_rfl) (by kernel_rfl) (by kernel_rfl) (by kernel_rfl) (by kernel_rfl) rfl (fun _ _ _ h => h) (Or.inl ⟨rfl, ?_⟩) H0 ?_
  rotate_left
  · intro W hW; have hW := HS.out W hW; go_simp; try with_reducible rfl
  simp only [put_list, List.set]
  refine Drawn.done (by kernel_rfl) ?_ _
  have kA := H0.row (.tail _ (.head _))
  have K0 := H0.know (_, _, _) List.mem_cons_self
  obtain ⟨⟨r0, r1, r2, r3⟩, g0, g1, g2, g3⟩ := cells4 K0.2
  replace K0 := Lib.hid K0
  have HB := Lib.hid H0.below
  clear H0 HS
  go_wp2_with fail
  exact bodyPost_ret (results_cell_row Try.results21 _ _ _ _ _ _ _ rfl (heap_set4 K0.out.2 _ _ _ _) Try.underlying24 rfl (by kernel_rfl)) rfl
      ⟨_, _, _, _, rfl, by rw [HE.out]; exact HX.out, below_set4 HB.out (by omega) _ _ _ _⟩

set_option maxRecDepth 100000 in
set_option maxHeartbeats 8000000 in
theorem mSext_in0 {k x a3 a2 a1 a0 : Nat} (hk : Dig k k 0 0 0) (hx : Dig x a0 a1 a2 a3) (hl : k < 31) (w : World) :
    Calls Try.prog 21 #[.agg #[.int .u64 (0 : Nat), .int .u64 (0 : Nat), .int .u64 (0 : Nat), .int .u64 k], .agg #[.int .u64 a3, .int .u64 a2, .int .u64 a1, .int .u64 a0]] w (RetD (sext k x) w) := by
  have H := ((((Fx.start w).new #[.int .u64 (0 : Nat), .int .u64 (0 : Nat), .int .u64 (0 : Nat), .int .u64 k] 24).new #[.int .u64 a3, .int .u64 a2, .int .u64 a1, .int .u64 a0] 24).new #[.int .u64 0, .int .u64 0, .int .u64 0, .int .u64 0] 24).1
  have HK := Lib.hid hk; have HX := Lib.hid hx
  have HDC := Lib.hid (show decide (k < 31) = true from by simpa using hl)
  clear hk hx
  go_enter Try.func21, Try.ntmps21
  go_wp2_with fail
  have H0 := H.drew
  have HS := Lib.hid (fun W (hW : Fr w w.heap.size (w.heap.size + 1 + 1 + 1) [(w.heap.size + 1 + 1, #[.int .u64 0, .int .u64 0, .int .u64 0, .int .u64 0], 24), (w.heap.size + 1, #[.int .u64 a3, .int .u64 a2, .int .u64 a1, .int .u64 a0], 24), (w.heap.size, #[.int .u64 (0 : Nat), .int .u64 (0 : Nat), .int .u64 (0 : Nat), .int .u64 k], 24)] W) => And.intro (hW.row (.tail _ (.head _))) (hW.row (.tail _ (.tail _ (.head _)))))
  refine Drawn.startEx (fun _ => false) H (by kernel_rfl) ?_
  clear H
  refine Drawn.take 0 (some 8) (v := ?_) rfl rfl (by kernel_rfl) (by kernel_rfl) (by kernel_rfl) (by kernel_rfl) (by kernel_rfl) rfl (fun _ _ _ h => h) (Or.inl ⟨rfl, ?_⟩) H0 ?_
  rotate_left
  · intro W hW; have hW := HS.out W hW; go_simp; try with_reducible rfl
  simp only [put_list, List.set]
  refine Drawn.only 1 (by kernel_rfl) rfl rfl (fun K hK => ?_)
  go_simp
  refine (rFrom_any 31 _).mono ?_
  rintro e w9 ⟨rfl, hb⟩
  refine hK _ _ (fun _ _ => H0.call hb) ?_
  replace H0 := H0.call hb
  clear hK K hb
  refine Drawn.only 2 (by kernel_rfl) rfl rfl (fun K hK => ?_)
  go_simp
  refine (rLess_c HK.out (dig_small (show 31 < M64 by decide)) _).mono ?_
  rintro e w8 ⟨rfl, hb⟩
  rw [HDC.out]
  refine hK _ _ (fun _ _ => H0.call hb) ?_
  replace H0 := H0.call hb
  clear hK K hb
  refine Drawn.take 3 (some 11) (v := ?_) rfl rfl (by kernel_rfl) (by kernel_rfl) (by kernel_rfl) (by kernel_rfl) (by kernel_rfl) rfl (fun _ _ _ h => h) (Or.inl ⟨rfl, ?_⟩) H0 ?_
  rotate_left
  · intro W hW; have hW := HS.out W hW; go_simp; try with_reducible rfl
  simp only [put_list, List.set]
  refine Drawn.done (by kernel_rfl) ?_ _
  have kA := H0.row (.tail _ (.head _))
  go_wp2_with fail
  refine (Digits_c HX.out _).mono ?_
  rintro e w7 ⟨v, rfl, ho, hb7⟩
  obtain ⟨g, cap, rfl⟩ := ownsRow_form ho (by omega)
  have H1 := H0.call hb7
  have hgl := (ho.lt g rfl).1
  have hsz := H0.size
  have H3 := Lib.hid (show GS w g cap (byteOf x) w7 from ⟨H1.below, (H1.know _ (.head _)).2, by omega, ownsRow_from ho (by omega)⟩)
  have kk := H1.row (.tail _ (.tail _ (.head _)))
  have c0 := (ho.cellAt k (by omega)).trans (show (digs x 32)[k]? = some (.int .i64 (byteOf x k : Nat)) from dl_at (byteOf x) (Nat.lt_trans hl (by decide)))
  clear ho hb7 H1 H0 HS kA hgl hsz
  by_cases h128 : byteOf x k < 128
  · have hF := h128
    have HT := Lib.hid (show ∀ j, j < 32 → sxt k x 0 32 j = byteOf (sext k x) j from fun j hj => by
      unfold sxt
      by_cases e : k < j
      · rw [if_pos ⟨e, hj⟩, sext_high hl e hj, if_pos hF]
      · rw [if_neg (by omega), sext_low hl (by omega)])
    have hbd : ¬ (128 : Int) ≤ ((byteOf x k : Nat) : Int) := by omega
    clear h128
    have HL := Lib.hid hl
    have hkk := Nat.lt_trans hl (show 31 < 32 by decide)
    have bk : (0 : Int) ≤ (k : Int) ∧ (k : Int) < 32 := by omega
    have wk : IntKind.i64.wrap (k : Int) = (k : Int) := IntWalk.i64_in _ (by omega)
    have wk2 : IntKind.i64.wrap ((k : Int) + 1) = (k : Int) + 1 := IntWalk.i64_in _ (by omega)
    clear hl
    generalize byteOf x k = bx at *
    go_wp2_with fail
    go_loopw [7] (fun i wr => ∃ m : Nat, i = .int .i64 m ∧ k + 1 ≤ m ∧ m ≤ 32 ∧ GS w g cap (sxt k x 0 m) wr) (fun i _ => 32 - (intOf i).toNat)
    case atStart => exact ⟨k + 1, by go_num, by omega, by omega, by rw [sxt_start]; exact H3.out⟩
    case round =>
      clear H3 c0 hbd kk
      obtain ⟨m, rfl, hm1, hm2, hS⟩ := hrel
      by_cases hlt : m < 32
      · have hmi : (m : Int) < 32 := by omega
        have d0 := (hS.own.cellAt m (by omega)).trans (dl_at _ hlt)
        have e0 := hS.own.frozenAt m
        have HE := Lib.hid (hS.step hm1 hlt)
        clear hS
        generalize sxt k x 0 m m = old at *
        have bm : (0 : Int) ≤ (m : Int) ∧ (m : Int) < 32 := by omega
        clear bk wk wk2
        go_wp2_with fail
        go_roundw
        case rel => exact ⟨m + 1, by go_num, by omega, by omega, HE.out⟩
        case measure => simp [intOf] <;> omega
      · obtain rfl : m = 32 := by omega
        have HB := Lib.hid (show BytesRow wr (.slice (some ⟨g, 0, none⟩) 32 cap) 32 (byteOf (sext k x)) from ⟨g, cap, rfl, (hS.own.lt g rfl).2, fun j hj => by rw [hS.own.cellAt j (by omega), dl_at _ hj, HT.out j hj]⟩)
        have HG := Lib.hid (And.intro hS.below hS.res)
        clear hS bk wk wk2
        go_wp2_with fail
        refine (Join_b (by decide) (by decide) _ HB.out (byteOf_lt _)).mono ?_
        rintro e w5 ⟨m3, m2, m1, m0, rfl, hd, hb5⟩
        have HD := Lib.hid hd
        have hres := (hb5.block _ (lt_of HG.out.2)).trans HG.out.2
        have HBW := Lib.hid (HG.out.1.trans (hb5.mono HG.out.1.size))
        obtain ⟨⟨r0, r1, r2, r3⟩, g0, g1, g2, g3⟩ := cells4 hres
        have HRS := Lib.hid hres
        clear hd hb5 hres HG HB
        go_wp2_with fail
        exact bodyPost_ret (results_cell_row Try.results21 _ _ _ _ _ _ _ rfl (heap_set4 HRS.out _ _ _ _) Try.underlying24 rfl (by kernel_rfl)) rfl
            ⟨_, _, _, _, rfl, by rw [← lowB_all (sext_lt HL.out)]; exact HD.out, below_set4 HBW.out (by omega) _ _ _ _⟩
  · have hF := h128
    have HT := Lib.hid (show ∀ j, j < 32 → sxt k x 255 32 j = byteOf (sext k x) j from fun j hj => by
      unfold sxt
      by_cases e : k < j
      · rw [if_pos ⟨e, hj⟩, sext_high hl e hj, if_neg hF]
      · rw [if_neg (by omega), sext_low hl (by omega)])
    have hbd : (128 : Int) ≤ ((byteOf x k : Nat) : Int) := by omega
    clear h128
    have HL := Lib.hid hl
    have hkk := Nat.lt_trans hl (show 31 < 32 by decide)
    have bk : (0 : Int) ≤ (k : Int) ∧ (k : Int) < 32 := by omega
    have wk : IntKind.i64.wrap (k : Int) = (k : Int) := IntWalk.i64_in _ (by omega)
    have wk2 : IntKind.i64.wrap ((k : Int) + 1) = (k : Int) + 1 := IntWalk.i64_in _ (by omega)
    clear hl
    generalize byteOf x k = bx at *
    go_wp2_with fail
    go_loopw [7] (fun i wr => ∃ m : Nat, i = .int .i64 m ∧ k + 1 ≤ m ∧ m ≤ 32 ∧ GS w g cap (sxt k x 255 m) wr) (fun i _ => 32 - (intOf i).toNat)
    case atStart => exact ⟨k + 1, by go_num, by omega, by omega, by rw [sxt_start]; exact H3.out⟩
    case round =>
      clear H3 c0 hbd kk
      obtain ⟨m, rfl, hm1, hm2, hS⟩ := hrel
      by_cases hlt : m < 32
      · have hmi : (m : Int) < 32 := by omega
        have d0 := (hS.own.cellAt m (by omega)).trans (dl_at _ hlt)
        have e0 := hS.own.frozenAt m
        have HE := Lib.hid (hS.step hm1 hlt)
        clear hS
        generalize sxt k x 255 m m = old at *
        have bm : (0 : Int) ≤ (m : Int) ∧ (m : Int) < 32 := by omega
        clear bk wk wk2
        go_wp2_with fail
        go_roundw
        case rel => exact ⟨m + 1, by go_num, by omega, by omega, HE.out⟩
        case measure => simp [intOf] <;> omega
      · obtain rfl : m = 32 := by omega
        have HB := Lib.hid (show BytesRow wr (.slice (some ⟨g, 0, none⟩) 32 cap) 32 (byteOf (sext k x)) from ⟨g, cap, rfl, (hS.own.lt g rfl).2, fun j hj => by rw [hS.own.cellAt j (by omega), dl_at _ hj, HT.out j hj]⟩)
        have HG := Lib.hid (And.intro hS.below hS.res)
        clear hS bk wk wk2
        go_wp2_with fail
        refine (Join_b (by decide) (by decide) _ HB.out (byteOf_lt _)).mono ?_
        rintro e w5 ⟨m3, m2, m1, m0, rfl, hd, hb5⟩
        have HD := Lib.hid hd
        have hres := (hb5.block _ (lt_of HG.out.2)).trans HG.out.2
        have HBW := Lib.hid (HG.out.1.trans (hb5.mono HG.out.1.size))
        obtain ⟨⟨r0, r1, r2, r3⟩, g0, g1, g2, g3⟩ := cells4 hres
        have HRS := Lib.hid hres
        clear hd hb5 hres HG HB
        go_wp2_with fail
        exact bodyPost_ret (results_cell_row Try.results21 _ _ _ _ _ _ _ rfl (heap_set4 HRS.out _ _ _ _) Try.underlying24 rfl (by kernel_rfl)) rfl
            ⟨_, _, _, _, rfl, by rw [← lowB_all (sext_lt HL.out)]; exact HD.out, below_set4 HBW.out (by omega) _ _ _ _⟩

theorem mSext_d {k x k3 k2 k1 k0 a3 a2 a1 a0 : Nat} (hk : Dig k k0 k1 k2 k3) (hx : Dig x a0 a1 a2 a3) (w : World) :
    Calls Try.prog 21 #[.agg #[.int .u64 k3, .int .u64 k2, .int .u64 k1, .int .u64 k0], .agg #[.int .u64 a3, .int .u64 a2, .int .u64 a1, .int .u64 a0]] w (RetD (sext k x) w) := by
  by_cases hl : k < 31
  · have hd := dig_small (n := k) (by unfold M64; omega)
    obtain ⟨rfl, rfl, rfl, rfl⟩ := hk.inj hd
    exact mSext_in0 hd hx hl w
  · exact mSext_out hk hx hl w
end
end Go.Proofs.Ythbfhfgmanafpaa
