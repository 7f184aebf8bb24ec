/- The contract of word.divide. -/
import Derived.Test.YthbfhfgmanafpaaDivC
import Derived.Test.YthbfhfgmanafpaaMoveD
import Derived.Test.YthbfhfgmanafpaaAmong
namespace Go.Proofs.Ythbfhfgmanafpaa
open Go.RowKit
attribute [local go_sem ↓] Go.wp_at_zero Go.wp_at_succ

/-- What a call hands back whose results are two variables of several cells. -/
theorem results_cell_cell {P : Program} {fn : Func} {p q : Tmp} {ty ty' : TypeId} (h : fn.results = #[.cell p ty, .cell q ty']) (tmps : Array Value) (w : World) (g g' : Nat) (t t' : TypeId) (cs cs' : Array Value) (fr fr' : Nat × Nat) (d d' : TypeDesc)
    (hp : tmps.getD p undef = .pointer (some ⟨g, 0, none⟩)) (hq : tmps.getD q undef = .pointer (some ⟨g', 0, none⟩)) (hg : w.heap[g]? = some (.cells cs t fr)) (hg' : w.heap[g']? = some (.cells cs' t' fr'))
    (hu : P.underlying ty = some d) (hd : (match d with | .struct _ | .array _ _ => true | _ => false) = true) (hi : (P.info? ty).map (·.size) = some cs.size)
    (hu' : P.underlying ty' = some d') (hd' : (match d' with | .struct _ | .array _ _ => true | _ => false) = true) (hi' : (P.info? ty').map (·.size) = some cs'.size) :
    (results fn tmps).run P w = .ok (.tuple #[.agg cs, .agg cs']) w := by
  have hp' : tmps[p]?.getD undef = .pointer (some ⟨g, 0, none⟩) := by simpa using hp
  have hq' : tmps[q]?.getD undef = .pointer (some ⟨g', 0, none⟩) := by simpa using hq
  simp [results, h, hp', hq', asAddr, run_loadVar_row w g t ty cs fr d hg hu hd hi, run_loadVar_row w g' t' ty' cs' fr' d' hg' hu' hd' hi']

/-- A call that hands back a quotient and a rest as limbs. -/
def RetLL (q r : Nat) (w : World) (e : Ending) (w' : World) : Prop :=
  ∃ q0 q1 q2 q3 r0 r1 r2 r3 : Nat, e = .returned (.tuple #[.agg #[.int .u64 q0, .int .u64 q1, .int .u64 q2, .int .u64 q3], .agg #[.int .u64 r0, .int .u64 r1, .int .u64 r2, .int .u64 r3]]) ∧
    Dig q q0 q1 q2 q3 ∧ Dig r r0 r1 r2 r3 ∧ Below w.heap.size w w'

theorem eq_limbs (a0 a1 a2 a3 b0 b1 b2 b3 : Int) (w : World) :
    (binOp .eql 45 (.agg #[.int .u64 a0, .int .u64 a1, .int .u64 a2, .int .u64 a3]) (.agg #[.int .u64 b0, .int .u64 b1, .int .u64 b2, .int .u64 b3])).run Try.prog w =
      .ok (.bool (a0 == b0 && (a1 == b1 && (a2 == b2 && a3 == b3)))) w := by
  have u3 := Try.underlying22
  have a3' := Try.isAgg22
  have z3 := Try.sizeOf22
  rw [run_eql_struct, show (10000 : Nat) = 9999 + 1 from rfl, Op.equalIn]
  simp only [Sem.run_bind, run_underlying Try.underlying45, Result.andThen_ok]
  simp only [Std.Legacy.Range.forIn_eq_forIn_range', Std.Legacy.Range.size, Nat.sub_zero, Nat.add_sub_cancel, Nat.div_one, List.range'_succ, List.range'_zero, List.forIn_cons, List.forIn_nil]
  go_simp
  by_cases h0 : a0 = b0 <;> by_cases h1 : a1 = b1 <;> by_cases h2 : a2 = b2 <;> by_cases h3 : a3 = b3 <;> simp [h0, h1, h2, h3]

set_option maxRecDepth 100000 in
set_option maxHeartbeats 1000000 in
theorem divide_zero {a0 a1 a2 a3 : Nat} (w : World) :
    Calls Try.prog 63 #[.agg #[.int .u64 a0, .int .u64 a1, .int .u64 a2, .int .u64 a3], .agg #[.int .u64 (0 : Nat), .int .u64 (0 : Nat), .int .u64 (0 : Nat), .int .u64 (0 : Nat)]] w (RetLL 0 0 w) := by
  have hE := fun w => eq_limbs 0 0 0 0 0 0 0 0 w
  go_enter Try.func63, Try.ntmps63
  go_wp2_with fail
  refine bodyPost_ret (v := .tuple #[.agg #[.int .u64 0, .int .u64 0, .int .u64 0, .int .u64 0], .agg #[.int .u64 0, .int .u64 0, .int .u64 0, .int .u64 0]])
    (by simp [results, Try.results63, go_sem]) rfl ⟨0, 0, 0, 0, 0, 0, 0, 0, rfl, dig_nil, dig_nil, ?_⟩
  exact ((((Below.refl _ _).alloc (Nat.le_refl _) _).alloc (by simp) _).alloc (by simp; omega) _).alloc (by simp; omega) _

/-- Two blocks of four that the call has made. -/
structure TwoS (w : World) (b1 b2 x0 x1 x2 x3 y0 y1 y2 y3 : Nat) (W : World) : Prop where
  below : Below w.heap.size w W
  ge1 : w.heap.size ≤ b1
  ge2 : w.heap.size ≤ b2
  h1 : W.heap[b1]? = some (.cells #[.int .u64 x0, .int .u64 x1, .int .u64 x2, .int .u64 x3] 45 (0, 0))
  h2 : W.heap[b2]? = some (.cells #[.int .u64 y0, .int .u64 y1, .int .u64 y2, .int .u64 y3] 45 (0, 0))
theorem TwoS.call {w W w1 : World} {b1 b2 x0 x1 x2 x3 y0 y1 y2 y3 : Nat} (h : TwoS w b1 b2 x0 x1 x2 x3 y0 y1 y2 y3 W) (hb : Below W.heap.size W w1) : TwoS w b1 b2 x0 x1 x2 x3 y0 y1 y2 y3 w1 :=
  ⟨h.below.trans (hb.mono h.below.size), h.ge1, h.ge2, (hb.block _ (lt_of h.h1)).trans h.h1, (hb.block _ (lt_of h.h2)).trans h.h2⟩
theorem TwoS.drew {w W : World} {b1 b2 x0 x1 x2 x3 y0 y1 y2 y3 : Nat} (h : TwoS w b1 b2 x0 x1 x2 x3 y0 y1 y2 y3 W) : TwoS w b1 b2 x0 x1 x2 x3 y0 y1 y2 y3 W.drew := ⟨h.below.drew, h.ge1, h.ge2, h.h1, h.h2⟩
theorem TwoS.set1 {w W : World} {b1 b2 x0 x1 x2 x3 y0 y1 y2 y3 : Nat} (h : TwoS w b1 b2 x0 x1 x2 x3 y0 y1 y2 y3 W) (hne : b1 ≠ b2) (u0 u1 u2 u3 : Nat) :
    TwoS w b1 b2 u0 u1 u2 u3 y0 y1 y2 y3 ((((W.setCell ⟨b1, 0, none⟩ (.int .u64 u0)).setCell ⟨b1, 1, none⟩ (.int .u64 u1)).setCell ⟨b1, 2, none⟩ (.int .u64 u2)).setCell ⟨b1, 3, none⟩ (.int .u64 u3)) :=
  ⟨below_set4 h.below h.ge1 _ _ _ _, h.ge1, h.ge2, heap_set4 h.h1 _ _ _ _, (heap_far (Ne.symm hne) _ _ _ _).trans h.h2⟩
theorem TwoS.set2 {w W : World} {b1 b2 x0 x1 x2 x3 y0 y1 y2 y3 : Nat} (h : TwoS w b1 b2 x0 x1 x2 x3 y0 y1 y2 y3 W) (hne : b1 ≠ b2) (u0 u1 u2 u3 : Nat) :
    TwoS w b1 b2 x0 x1 x2 x3 u0 u1 u2 u3 ((((W.setCell ⟨b2, 0, none⟩ (.int .u64 u0)).setCell ⟨b2, 1, none⟩ (.int .u64 u1)).setCell ⟨b2, 2, none⟩ (.int .u64 u2)).setCell ⟨b2, 3, none⟩ (.int .u64 u3)) :=
  ⟨below_set4 h.below h.ge2 _ _ _ _, h.ge1, h.ge2, (heap_far hne _ _ _ _).trans h.h1, heap_set4 h.h2 _ _ _ _⟩

/-- The long division is the short one, moved. -/
theorem moved {a b z q r : Nat} (hq : a * 2 ^ z = q * (b * 2 ^ z) + r) (hr : r < b * 2 ^ z) : q = a / b ∧ r / 2 ^ z = a % b := by
  have hp : 0 < 2 ^ z := Nat.pow_pos (by decide)
  have e1 : q = a / b := by
    rw [← Nat.mul_div_mul_right a b hp, hq, Nat.mul_comm q, Nat.mul_add_div (by omega), Nat.div_eq_of_lt hr, Nat.add_zero]
  refine ⟨e1, ?_⟩
  have e2 : r = (a % b) * 2 ^ z := by
    have h := Nat.div_add_mod a b
    have h2 : a * 2 ^ z = b * (a / b) * 2 ^ z + a % b * 2 ^ z := by rw [← Nat.add_mul, h]
    rw [← e1, Nat.mul_comm b q, Nat.mul_assoc] at h2
    omega
  rw [e2, Nat.mul_div_cancel _ hp]

theorem parts_of {a z : Nat} (hz : z ≤ 255) : a * 2 ^ z = a / 2 ^ (256 - z) * W256 + a * 2 ^ z % W256 := by
  have e : W256 = 2 ^ (256 - z) * 2 ^ z := by rw [← Nat.pow_add, show 256 - z + z = 256 by omega]; rfl
  have h := Nat.div_add_mod (a * 2 ^ z) W256
  have e2 : a * 2 ^ z / W256 = a / 2 ^ (256 - z) := by rw [e, Nat.mul_div_mul_right _ _ (Nat.pow_pos (by decide))]
  rw [e2, Nat.mul_comm] at h
  exact h.symm
theorem rest_small {a b z : Nat} (ha : a < W256) (hz : z ≤ 255) (hb : W256 / 2 ≤ b * 2 ^ z) : a / 2 ^ (256 - z) < b * 2 ^ z := by
  have e : W256 = 2 ^ (256 - z) * 2 ^ z := by rw [← Nat.pow_add, show 256 - z + z = 256 by omega]; rfl
  have h1 : a / 2 ^ (256 - z) < 2 ^ z := (Nat.div_lt_iff_lt_mul (Nat.pow_pos (by decide))).2 (by rw [Nat.mul_comm, ← e]; exact ha)
  have h2 : 2 ^ z ≤ 2 ^ 255 := Nat.pow_le_pow_right (by decide) hz
  have h3 : W256 / 2 = 2 ^ 255 := by rfl
  omega
theorem top_limb {d d0 d1 d2 d3 : Nat} (h : Dig d d0 d1 d2 d3) (ht : W256 / 2 ≤ d) : M64 / 2 ≤ d3 := by
  obtain ⟨h0, h1, h2, h3, rfl⟩ := h
  unfold W256 M64 at *
  omega
theorem not_zeros {b b0 b1 b2 b3 : Nat} (hb : Dig b b0 b1 b2 b3) (h0 : b ≠ 0) : ((b0 : Int) == 0 && ((b1 : Int) == 0 && ((b2 : Int) == 0 && (b3 : Int) == 0))) = false := by
  obtain ⟨_, _, _, _, rfl⟩ := hb
  rcases Nat.eq_zero_or_pos b0 with h | h
  · rcases Nat.eq_zero_or_pos b1 with k | k
    · rcases Nat.eq_zero_or_pos b2 with l | l
      · rcases Nat.eq_zero_or_pos b3 with m | m
        · subst h k l m; simp at h0
        · rw [show ((b3 : Int) == 0) = false by simp; omega]; simp
      · rw [show ((b2 : Int) == 0) = false by simp; omega]; simp
    · rw [show ((b1 : Int) == 0) = false by simp; omega]; simp
  · rw [show ((b0 : Int) == 0) = false by simp; omega]; simp

set_option maxRecDepth 100000 in
set_option maxHeartbeats 4000000 in
theorem divide_some {a b a0 a1 a2 a3 b0 b1 b2 b3 : Nat} (ha : Dig a a0 a1 a2 a3) (hb : Dig b b0 b1 b2 b3) (h0 : b ≠ 0) (w : World) :
    Calls Try.prog 63 #[.agg #[.int .u64 a0, .int .u64 a1, .int .u64 a2, .int .u64 a3], .agg #[.int .u64 b0, .int .u64 b1, .int .u64 b2, .int .u64 b3]] w (RetLL (a / b) (a % b) w) := by
  have hE : ∀ w, (binOp .eql 45 (.agg #[.int .u64 b0, .int .u64 b1, .int .u64 b2, .int .u64 b3]) (.agg #[.int .u64 0, .int .u64 0, .int .u64 0, .int .u64 0])).run Try.prog w = .ok (.bool false) w := by
    intro w
    rw [eq_limbs, not_zeros hb h0]
  have HE := Lib.hid hE; clear hE
  have H := ((((Fx.start w).new #[.int .u64 a0, .int .u64 a1, .int .u64 a2, .int .u64 a3] 45).new #[.int .u64 b0, .int .u64 b1, .int .u64 b2, .int .u64 b3] 45).new #[.int .u64 0, .int .u64 0, .int .u64 0, .int .u64 0] 45).new #[.int .u64 0, .int .u64 0, .int .u64 0, .int .u64 0] 45
  have LZ := Lib.hid (fun W => leadingZeros_c hb h0 W)
  have HA := Lib.hid ha; have HB := Lib.hid hb; have H0 := Lib.hid h0
  clear ha hb h0
  have hE := HE.out
  go_enter Try.func63, Try.ntmps63
  go_wp2_with fail
  clear hE HE
  refine (LZ.out _).mono ?_
  rintro e w1 ⟨z, ⟨hz, hz1, hz2⟩, rfl, hb1⟩
  have H1 := H.1.call hb1
  have z1 := H1.size
  have kB := H1.row (.tail _ (.tail _ (.head _)))
  replace H1 := Lib.hid H1
  have R1 := Lib.hid (fun W => raise_c HB.out (n := z) (by omega) W)
  have R2 := Lib.hid (fun W => raise_c HA.out (n := z) (by omega) W)
  have R3 := Lib.hid (fun W => lower_c HA.out (n := 256 - z) (by omega) W)
  have hz256 : (256 : Int) - (z : Int) = ((256 - z : Nat) : Int) := by omega
  have hzi : (0 : Int) ≤ (z : Int) ∧ (z : Int) ≤ 255 := by omega
  have HZ := Lib.hid hz; have HZ1 := Lib.hid hz1; have HZ2 := Lib.hid hz2
  clear hb1 H LZ hz hz1 hz2
  generalize hy : 256 - z = y at *
  have HY := Lib.hid hy; clear hy
  go_wp2_with fail
  refine (R1.out _).mono ?_
  rintro e w2 ⟨d, d0, d1, d2, d3, rfl, hd, hdv, hb2⟩
  rw [Nat.mod_eq_of_lt HZ2.out] at hdv
  have H2 := ((H1.out.call hb2).up).new #[.int .u64 d0, .int .u64 d1, .int .u64 d2, .int .u64 d3] 45
  have kA := (H1.out.call hb2).row (.tail _ (.tail _ (.tail _ (.head _))))
  have nA := (H1.out.call hb2).lt (.tail _ (.tail _ (.tail _ (.head _))))
  replace H2 := Lib.hid H2
  have HD := Lib.hid hd; have HDV := Lib.hid hdv
  have z2 := (H1.out.call hb2).size
  clear hb2 H1 hd hdv R1 kB z1
  go_wp2_with fail
  refine (R2.out _).mono ?_
  rintro e w3 ⟨l, l0, l1, l2, l3, rfl, hl, hlv, hb3⟩
  have H3 := ((H2.out.call hb3).up).new #[.int .u64 l0, .int .u64 l1, .int .u64 l2, .int .u64 l3] 45
  have kA := (H2.out.call hb3).row (.tail _ (.tail _ (.tail _ (.tail _ (.head _)))))
  have nA := (H2.out.call hb3).lt (.tail _ (.tail _ (.tail _ (.tail _ (.head _)))))
  replace H3 := Lib.hid H3
  have HL := Lib.hid hl; have HLV := Lib.hid hlv
  have z3 := (H2.out.call hb3).size
  clear hb3 H2 hl hlv R2
  go_wp2_with fail
  refine (R3.out _).mono ?_
  rintro e w4 ⟨r, r0, r1, r2, r3, rfl, hr, hrv, hb4⟩
  have H4 := H3.out.call hb4
  have k3 := (H4.know _ (.tail _ (.tail _ (.head _)))).2
  have c3 := cells4 k3
  have n3 := H4.lt (.tail _ (.tail _ (.head _)))
  have K3 := Lib.hid k3; clear k3
  replace H4 := Lib.hid H4
  have HR := Lib.hid hr; have HRV := Lib.hid hrv
  clear hb4 H3 hr hrv R3 kA nA
  go_wp2_with fail
  clear c3 n3
  have H5 : TwoS w (w.heap.size + 1 + 1) (w.heap.size + 1 + 1 + 1) 0 0 0 0 r0 r1 r2 r3 ((((w4.setCell ⟨w.heap.size + 1 + 1 + 1, 0, none⟩ (.int .u64 r0)).setCell ⟨w.heap.size + 1 + 1 + 1, 1, none⟩ (.int .u64 r1)).setCell ⟨w.heap.size + 1 + 1 + 1, 2, none⟩ (.int .u64 r2)).setCell ⟨w.heap.size + 1 + 1 + 1, 3, none⟩ (.int .u64 r3)) :=
    TwoS.set2 (y0 := 0) (y1 := 0) (y2 := 0) (y3 := 0) ⟨H4.out.below, by omega, by omega, (H4.out.know _ (.tail _ (.tail _ (.tail _ (.head _))))).2, K3.out⟩ (by omega) _ _ _ _
  have n2 := H4.out.lt (.tail _ (.head _))
  have n3 := H4.out.lt (.head _)
  have H6 : DivS (w.heap.size + 1 + 1 + 1) w3.heap.size w2.heap.size r0 r1 r2 r3 l0 l1 l2 l3 d0 d1 d2 d3 ((((w4.setCell ⟨w.heap.size + 1 + 1 + 1, 0, none⟩ (.int .u64 r0)).setCell ⟨w.heap.size + 1 + 1 + 1, 1, none⟩ (.int .u64 r1)).setCell ⟨w.heap.size + 1 + 1 + 1, 2, none⟩ (.int .u64 r2)).setCell ⟨w.heap.size + 1 + 1 + 1, 3, none⟩ (.int .u64 r3)) :=
    ⟨H5.h2, (heap_far (by omega) _ _ _ _).trans (H4.out.know _ (.head _)).2, (heap_far (by omega) _ _ _ _).trans (H4.out.know _ (.tail _ (.head _))).2⟩
  generalize World.setCell _ _ _ = W at H5 H6 ⊢
  have hlt : r < d := by rw [HRV.out, HDV.out, ← HY.out]; exact rest_small HA.out.lt HZ.out HZ1.out
  have h3 : M64 / 2 ≤ d3 := top_limb HD.out (by rw [HDV.out]; exact HZ1.out)
  refine (divide_down HR.out HL.out HD.out hlt h3 W H6 (by omega) (by omega)).mono ?_
  rintro e w6 ⟨q, q0, q1, q2, q3, s, s0, s1, s2, s3, rfl, hq, hs, hsd, hqd, hbr, hO⟩
  have H7 : TwoS w (w.heap.size + 1 + 1) (w.heap.size + 1 + 1 + 1) 0 0 0 0 s0 s1 s2 s3 w6 := by
    have hz := lt_of H5.h1
    refine ⟨H5.below.trans (hO.below H5.below.size (fun k hk => by omega)), by omega, by omega, (hO.block _ hz (by omega)).trans H5.h1, hbr⟩
  have hm : q = a / b ∧ s / 2 ^ z = a % b := by
    refine moved ?_ (by rw [← HDV.out]; exact hsd)
    rw [parts_of HZ.out, HY.out, ← HRV.out, ← HLV.out, hqd, HDV.out]
  have HM := Lib.hid hm; have HQ := Lib.hid hq
  have Lo := Lib.hid (fun W => lower_c hs (n := z) (by have := HZ.out; omega) W)
  rw [hm.2] at Lo
  clear hlt h3 hq hs hsd hqd hbr hO H5 H6 hm n2 n3
  have c7 := cells4 H7.h1
  have n7 := lt_of H7.h1
  have hne : w.heap.size + 1 + 1 ≠ w.heap.size + 1 + 1 + 1 := by omega
  have H8 := H7.set1 hne q0 q1 q2 q3
  replace H7 := Lib.hid H7
  replace H8 := Lib.hid H8
  go_wp2_with fail
  generalize World.setCell _ _ _ = W2 at H8 ⊢
  have H0 := H8.out.drew
  have HS := Lib.hid (fun W (hW : TwoS w (w.heap.size + 1 + 1) (w.heap.size + 1 + 1 + 1) q0 q1 q2 q3 s0 s1 s2 s3 W) => And.intro (cells4 hW.h1) (cells4 hW.h2))
  clear c7 n7 H8 H7 hz256
  refine Drawn.start (TwoS w (w.heap.size + 1 + 1) (w.heap.size + 1 + 1 + 1) q0 q1 q2 q3 s0 s1 s2 s3) (fun i => i == 5) (by kernel_rfl) ?_
  refine Drawn.take 0 (some 28) (v := ?_) rfl rfl (by kernel_rfl) (by kernel_rfl) (by kernel_rfl) (by kernel_rfl) (by kernel_rfl) rfl (fun _ _ _ h => h) (Or.inl ⟨rfl, ?_⟩) H0 ?_
  rotate_left
  · intro W hW; have hW := HS.out W hW; go_simp; try with_reducible rfl
  simp only [put_list, List.set]
  refine Drawn.take 1 (some 29) (v := ?_) rfl rfl (by kernel_rfl) (by kernel_rfl) (by kernel_rfl) (by kernel_rfl) (by kernel_rfl) rfl (fun _ _ _ h => h) (Or.inl ⟨rfl, ?_⟩) H0 ?_
  rotate_left
  · intro W hW; have hW := HS.out W hW; go_simp; try with_reducible rfl
  simp only [put_list, List.set]
  refine Drawn.take 2 (some 30) (v := ?_) rfl rfl (by kernel_rfl) (by kernel_rfl) (by kernel_rfl) (by kernel_rfl) (by kernel_rfl) rfl (fun _ _ _ h => h) (Or.inl ⟨rfl, ?_⟩) H0 ?_
  rotate_left
  · intro W hW; have hW := HS.out W hW; go_simp; try with_reducible rfl
  simp only [put_list, List.set]
  refine Drawn.only 3 (by kernel_rfl) rfl rfl (fun K hK => ?_)
  go_simp
  refine (Lo.out _).mono ?_
  rintro e w7 ⟨u, u0, u1, u2, u3, rfl, hu, huv, hb7⟩
  refine hK _ _ (fun _ _ => H0.call hb7) ?_
  replace H0 := H0.call hb7
  have HU := Lib.hid hu; have HUV := Lib.hid huv
  clear hK K hb7 hu huv
  obtain ⟨c1, c2⟩ := HS.out _ H0
  refine Drawn.only 4 (by kernel_rfl) rfl rfl (fun K hK => ?_)
  go_simp
  refine hK _ _ (fun _ _ => H0.set1 hne q0 q1 q2 q3) ?_
  clear hK K c1 c2
  replace H0 := H0.set1 hne q0 q1 q2 q3
  obtain ⟨c1, c2⟩ := HS.out _ H0
  generalize World.setCell _ _ _ = W3 at H0 c1 c2 ⊢
  refine Drawn.only 5 (by kernel_rfl) rfl rfl (fun K hK => ?_)
  go_simp
  refine hK _ _ (fun h => by simp at h) ?_
  clear hK K c1 c2
  replace H0 := H0.set2 hne u0 u1 u2 u3
  generalize World.setCell _ _ _ = W4 at H0 ⊢
  refine Drawn.done (by kernel_rfl) ?_ _
  go_wp2_with fail
  refine bodyPost_ret (results_cell_cell Try.results63 _ _ _ _ _ _ _ _ _ _ _ _ rfl rfl H0.h1 H0.h2 Try.underlying45 rfl (by kernel_rfl) Try.underlying45 rfl (by kernel_rfl)) rfl
    ⟨q0, q1, q2, q3, u0, u1, u2, u3, rfl, HM.out.1 ▸ HQ.out, HUV.out ▸ HU.out, H0.below⟩

end Go.Proofs.Ythbfhfgmanafpaa
