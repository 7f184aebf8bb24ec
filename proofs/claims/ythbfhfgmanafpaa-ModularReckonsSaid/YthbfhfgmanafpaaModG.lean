/- Contracts of package modular: SignExtend, SDiv. -/
import Derived.Test.YthbfhfgmanafpaaModD
import Derived.Deep.Cut
namespace Go.Proofs.Ythbfhfgmanafpaa
open Go.RowKit
attribute [local go_sem ↓] Go.wp_at_zero Go.wp_at_succ

/-- A number's lowest k and 1 bytes, signed. -/
def sext (k a : Nat) : Nat := if k < 31 then sarOf ((31 - k) * 8) (a * 2 ^ ((31 - k) * 8) % W256) else a

theorem room_of {k : Nat} (hk : k < 31) : (31 + W256 - k) % W256 * 8 % W256 = (31 - k) * 8 := by
  rw [show 31 + W256 - k = (31 - k) + W256 by omega, Nat.add_mod_right]
  unfold W256 M64
  omega

set_option maxRecDepth 100000 in
set_option maxHeartbeats 4000000 in
theorem SignExtend_out {k a k3 k2 k1 k0 a3 a2 a1 a0 : Nat} (hk : Dig k k0 k1 k2 k3) (ha : Dig a a0 a1 a2 a3) (hl : ¬ k < 31) (w : World) :
    Calls Try.prog 20 #[.agg #[.int .u64 k3, .int .u64 k2, .int .u64 k1, .int .u64 k0], .agg #[.int .u64 a3, .int .u64 a2, .int .u64 a1, .int .u64 a0]] w (RetD (sext k a) w) := by
  have H := ((((Fx.start w).new #[.int .u64 k3, .int .u64 k2, .int .u64 k1, .int .u64 k0] 24).new #[.int .u64 a3, .int .u64 a2, .int .u64 a1, .int .u64 a0] 24).new #[.int .u64 0, .int .u64 0, .int .u64 0, .int .u64 0] 24).1
  have Le := Lib.hid (fun W => Less_c hk (dig_small (show 31 < M64 by decide)) W)
  unfold RetB at Le
  rw [decide_eq_false hl] at Le
  have HK := Lib.hid hk; have HA := Lib.hid ha; have HL := Lib.hid hl
  clear hk ha hl
  go_enter Try.func20, Try.ntmps20
  go_wp2_with fail
  refine (from_any 31 _).mono ?_
  rintro e w1 ⟨rfl, hb1⟩
  have H1 := ((H.call hb1).up).new #[.int .u64 0, .int .u64 0, .int .u64 0, .int .u64 31] 24
  have kK := (H.call hb1).row (.tail _ (.tail _ (.head _)))
  have nK := (H.call hb1).lt (.tail _ (.tail _ (.head _)))
  replace H1 := Lib.hid H1
  clear hb1 H
  go_wp2_with fail
  refine (Le.out _).mono ?_
  rintro e w2 ⟨rfl, hb2⟩
  have H2 := H1.out.call hb2
  clear hb2 H1 Le kK nK
  have kA := H2.row (.tail _ (.tail _ (.head _)))
  have K := (H2.know _ (.tail _ (.head _))).2
  have k0 := cells4 K
  have n2 := H2.lt (.tail _ (.head _))
  replace K := Lib.hid K; replace H2 := Lib.hid H2
  go_wp2_with fail
  exact bodyPost_ret (results_cell_row Try.results20 _ _ _ _ _ _ _ rfl (heap_set4 K.out _ _ _ _) Try.underlying24 rfl (by kernel_rfl)) rfl
    ⟨_, _, _, _, rfl, by rw [show sext k a = a from if_neg HL.out]; exact HA.out, below_set4 H2.out.below (by omega) _ _ _ _⟩

set_option maxRecDepth 100000 in
set_option maxHeartbeats 4000000 in
theorem SignExtend_in {k a k3 k2 k1 k0 a3 a2 a1 a0 : Nat} (hk : Dig k k0 k1 k2 k3) (ha : Dig a a0 a1 a2 a3) (hl : k < 31) (w : World) :
    Calls Try.prog 20 #[.agg #[.int .u64 k3, .int .u64 k2, .int .u64 k1, .int .u64 k0], .agg #[.int .u64 a3, .int .u64 a2, .int .u64 a1, .int .u64 a0]] w (RetD (sext k a) w) := by
  have H := ((((Fx.start w).new #[.int .u64 k3, .int .u64 k2, .int .u64 k1, .int .u64 k0] 24).new #[.int .u64 a3, .int .u64 a2, .int .u64 a1, .int .u64 a0] 24).new #[.int .u64 0, .int .u64 0, .int .u64 0, .int .u64 0] 24).1
  have Le := Lib.hid (fun W => Less_c hk (dig_small (show 31 < M64 by decide)) W)
  unfold RetB at Le
  rw [decide_eq_true hl] at Le
  have HK := Lib.hid hk; have HA := Lib.hid ha; have HL := Lib.hid hl
  clear hk ha hl
  go_enter Try.func20, Try.ntmps20
  go_wp2_with fail
  refine (from_any 31 _).mono ?_
  rintro e w1 ⟨rfl, hb1⟩
  have H1 := ((H.call hb1).up).new #[.int .u64 0, .int .u64 0, .int .u64 0, .int .u64 31] 24
  have kK := (H.call hb1).row (.tail _ (.tail _ (.head _)))
  have nK := (H.call hb1).lt (.tail _ (.tail _ (.head _)))
  replace H1 := Lib.hid H1
  clear hb1 H
  go_wp2_with fail
  refine (Le.out _).mono ?_
  rintro e w2 ⟨rfl, hb2⟩
  have H2 := H1.out.call hb2
  clear hb2 H1 Le kK nK
  have k31 := H2.row (.head _)
  have kK := H2.row (.tail _ (.tail _ (.tail _ (.head _))))
  replace H2 := Lib.hid H2
  go_wp2_with fail
  refine (Sub_d (dig_small (show 31 < M64 by decide)) HK.out _).mono ?_
  rintro e w3 ⟨s3, s2, s1, s0, rfl, hs, hb3⟩
  have H3 := Lib.hid (H2.out.call hb3)
  have HS3 := Lib.hid hs
  clear hb3 H2 k31 kK hs
  go_wp2_with fail
  refine (from_any 8 _).mono ?_
  rintro e w4 ⟨rfl, hb4⟩
  have H4 := Lib.hid (H3.out.call hb4)
  clear hb4 H3
  go_wp2_with fail
  refine (Mul_d HS3.out (dig_small (show 8 < M64 by decide)) _).mono ?_
  rintro e w5 ⟨r3, r2, r1, r0, rfl, hr, hb5⟩
  rw [room_of HL.out] at hr
  have H := ((H4.out.call hb5).up).new #[.int .u64 r3, .int .u64 r2, .int .u64 r1, .int .u64 r0] 24
  have HR := Lib.hid hr
  have HE := Lib.hid (show sarOf ((31 - k) * 8) (a * 2 ^ (min ((31 - k) * 8) 256) % W256) = sext k a by
    unfold sext; rw [if_pos HL.out, Nat.min_eq_left (by omega)])
  clear hb5 H4 hr
  go_wp2_with fail
  have H0 := H.drew
  have HS := Lib.hid (fun W (hW : Fr w w.heap.size (w5.heap.size + 1) [(w5.heap.size, #[.int .u64 r3, .int .u64 r2, .int .u64 r1, .int .u64 r0], 24), (w1.heap.size, #[.int .u64 0, .int .u64 0, .int .u64 0, .int .u64 31], 24), (w.heap.size + 1 + 1, #[.int .u64 0, .int .u64 0, .int .u64 0, .int .u64 0], 24), (w.heap.size + 1, #[.int .u64 a3, .int .u64 a2, .int .u64 a1, .int .u64 a0], 24), (w.heap.size, #[.int .u64 k3, .int .u64 k2, .int .u64 k1, .int .u64 k0], 24)] W) => And.intro (hW.row (.head _)) (And.intro (hW.row (.tail _ (.head _))) (And.intro (hW.row (.tail _ (.tail _ (.tail _ (.head _))))) (hW.row (.tail _ (.tail _ (.tail _ (.tail _ (.head _)))))))))
  refine Drawn.startEx (fun i => i == 5) H (by kernel_rfl) ?_
  clear H
  refine Drawn.take 0 (some 18) (v := ?_) rfl rfl (by kernel_rfl) (by kernel_rfl) (by kernel_rfl) (by kernel_rfl) (by kernel_rfl) rfl (fun _ _ _ h => h) (Or.inl ⟨rfl, ?_⟩) H0 ?_
  rotate_left
  · intro W hW; have hW := HS.out W hW; go_simp; try with_reducible rfl
  simp only [put_list, List.set]
  refine Drawn.take 1 (some 19) (v := ?_) rfl rfl (by kernel_rfl) (by kernel_rfl) (by kernel_rfl) (by kernel_rfl) (by kernel_rfl) rfl (fun _ _ _ h => h) (Or.inl ⟨rfl, ?_⟩) H0 ?_
  rotate_left
  · intro W hW; have hW := HS.out W hW; go_simp; try with_reducible rfl
  simp only [put_list, List.set]
  refine Drawn.take 2 (some 20) (v := ?_) rfl rfl (by kernel_rfl) (by kernel_rfl) (by kernel_rfl) (by kernel_rfl) (by kernel_rfl) rfl (fun _ _ _ h => h) (Or.inl ⟨rfl, ?_⟩) H0 ?_
  rotate_left
  · intro W hW; have hW := HS.out W hW; go_simp; try with_reducible rfl
  simp only [put_list, List.set]
  refine Drawn.only 3 (by kernel_rfl) rfl rfl (fun K hK => ?_)
  go_simp
  refine (Shl_d HR.out HA.out _).mono ?_
  rintro e w9 ⟨p33, p32, p31, p30, rfl, hd, hb⟩
  refine hK _ _ (fun _ _ => H0.call hb) ?_
  replace H0 := H0.call hb
  clear hK K hb
  have D3 := Lib.hid hd
  clear hd
  refine Drawn.only 4 (by kernel_rfl) rfl rfl (fun K hK => ?_)
  go_simp
  refine (Sar_d HR.out D3.out _).mono ?_
  rintro e w9 ⟨p43, p42, p41, p40, rfl, hd, hb⟩
  refine hK _ _ (fun _ _ => H0.call hb) ?_
  replace H0 := H0.call hb
  clear hK K hb
  have D4 := Lib.hid hd
  clear hd
  have K0 := H0.know (_, _, _) (.tail _ (.tail _ (.head _)))
  obtain ⟨⟨r0, r1, r2, r3⟩, g0, g1, g2, g3⟩ := cells4 K0.2
  replace K0 := Lib.hid K0
  refine Drawn.only 5 (by kernel_rfl) rfl rfl (fun K hK => ?_)
  go_simp
  refine hK _ _ (fun h => by simp at h) ?_
  clear hK K
  refine Drawn.done (by kernel_rfl) ?_ _
  go_wp2_with fail
  exact bodyPost_ret (results_cell_row Try.results20 _ _ _ _ _ _ _ rfl (heap_set4 K0.out.2 _ _ _ _) Try.underlying24 rfl (by kernel_rfl)) rfl
    ⟨_, _, _, _, rfl, HE.out ▸ D4.out, below_set4 H0.below (by omega) _ _ _ _⟩

theorem SignExtend_c {k a k3 k2 k1 k0 a3 a2 a1 a0 : Nat} (hk : Dig k k0 k1 k2 k3) (ha : Dig a a0 a1 a2 a3) (w : World) :
    Calls Try.prog 20 #[.agg #[.int .u64 k3, .int .u64 k2, .int .u64 k1, .int .u64 k0], .agg #[.int .u64 a3, .int .u64 a2, .int .u64 a1, .int .u64 a0]] w (RetD (sext k a) w) := by
  by_cases hl : k < 31
  · exact SignExtend_in hk ha hl w
  · exact SignExtend_out hk ha hl w

theorem Fr.add {w W : World} {B N : Nat} {L : List (Nat × Array Value × TypeId)} (h : Fr w B N L W) {b : Nat} {cs : Array Value} {t : TypeId} (hb : W.heap[b]? = some (.cells cs t (0, 0))) : Fr w B W.heap.size ((b, cs, t) :: L) W := by
  have hu := h.up
  refine ⟨hu.below, hu.le, hu.size, fun x hx => ?_⟩
  rcases List.mem_cons.1 hx with rfl | hx
  · exact ⟨lt_of hb, hb⟩
  · exact hu.know x hx

set_option maxRecDepth 100000 in
set_option maxHeartbeats 4000000 in
theorem SDiv_c {x y a3 a2 a1 a0 b3 b2 b1 b0 : Nat} (hx : Dig x a0 a1 a2 a3) (hy : Dig y b0 b1 b2 b3) (w : World) :
    Calls Try.prog 10 #[.agg #[.int .u64 a3, .int .u64 a2, .int .u64 a1, .int .u64 a0], .agg #[.int .u64 b3, .int .u64 b2, .int .u64 b1, .int .u64 b0]] w (RetD (sgn (mag x / mag y) (neg x != neg y)) w) := by
  have H := ((((Fx.start w).new #[.int .u64 a3, .int .u64 a2, .int .u64 a1, .int .u64 a0] 24).new #[.int .u64 b3, .int .u64 b2, .int .u64 b1, .int .u64 b0] 24).new #[.int .u64 0, .int .u64 0, .int .u64 0, .int .u64 0] 24).1
  have HX := Lib.hid hx; have HY := Lib.hid hy
  clear hx hy
  go_enter Try.func10, Try.ntmps10
  go_wp2_with fail
  have HS := Lib.hid (fun W (hW : Fr w w.heap.size (w.heap.size + 1 + 1 + 1) [(w.heap.size + 1 + 1, #[.int .u64 0, .int .u64 0, .int .u64 0, .int .u64 0], 24), (w.heap.size + 1, #[.int .u64 b3, .int .u64 b2, .int .u64 b1, .int .u64 b0], 24), (w.heap.size, #[.int .u64 a3, .int .u64 a2, .int .u64 a1, .int .u64 a0], 24)] W) => And.intro (hW.row (.tail _ (.head _))) (hW.row (.tail _ (.tail _ (.head _)))))
  refine wp_cut (fun a' Wc => ∃ b5 u3 u2 u1 u0 v3 v2 v1 v0 q3 q2 q1 q0 : Nat, a' = ⟨#[.agg #[.int .u64 a3, .int .u64 a2, .int .u64 a1, .int .u64 a0], .agg #[.int .u64 b3, .int .u64 b2, .int .u64 b1, .int .u64 b0], .pointer (some ⟨w.heap.size, 0, none⟩), .pointer (some ⟨w.heap.size + 1, 0, none⟩), .pointer (some ⟨w.heap.size + 1 + 1, 0, none⟩), .pointer (some ⟨b5, 0, none⟩), .agg #[.int .u64 a3, .int .u64 a2, .int .u64 a1, .int .u64 a0], .agg #[.int .u64 u3, .int .u64 u2, .int .u64 u1, .int .u64 u0], .agg #[.int .u64 b3, .int .u64 b2, .int .u64 b1, .int .u64 b0], .agg #[.int .u64 v3, .int .u64 v2, .int .u64 v1, .int .u64 v0], .agg #[.int .u64 q3, .int .u64 q2, .int .u64 q1, .int .u64 q0], undef, undef, undef, undef, undef, undef, undef], []⟩ ∧ Dig (mag x / mag y) q0 q1 q2 q3 ∧ Fr w w.heap.size (Wc.heap.size) [(b5, #[.int .u64 q3, .int .u64 q2, .int .u64 q1, .int .u64 q0], 24), (w.heap.size + 1 + 1, #[.int .u64 0, .int .u64 0, .int .u64 0, .int .u64 0], 24), (w.heap.size + 1, #[.int .u64 b3, .int .u64 b2, .int .u64 b1, .int .u64 b0], 24), (w.heap.size, #[.int .u64 a3, .int .u64 a2, .int .u64 a1, .int .u64 a0], 24)] Wc) ?rest ?tree
  case rest =>
    rintro a' Wc ⟨b5, u3, u2, u1, u0, v3, v2, v1, v0, q3, q2, q1, q0, rfl, hq, F2⟩
    clear H HS
    have HQ := Lib.hid hq; clear hq
    have n2 := F2.le
    have n3 := F2.lt (.tail _ (.head _))
    go_wp2_with fail
    have H0 := F2.drew
    have HS := Lib.hid (fun W (hW : Fr w w.heap.size (Wc.heap.size) [(b5, #[.int .u64 q3, .int .u64 q2, .int .u64 q1, .int .u64 q0], 24), (w.heap.size + 1 + 1, #[.int .u64 0, .int .u64 0, .int .u64 0, .int .u64 0], 24), (w.heap.size + 1, #[.int .u64 b3, .int .u64 b2, .int .u64 b1, .int .u64 b0], 24), (w.heap.size, #[.int .u64 a3, .int .u64 a2, .int .u64 a1, .int .u64 a0], 24)] W) => And.intro (hW.row (.head _)) (And.intro (hW.row (.tail _ (.tail _ (.head _)))) (hW.row (.tail _ (.tail _ (.tail _ (.head _)))))))
    refine Drawn.startEx (fun i => i == 7) F2 (by kernel_rfl) ?_
    clear F2 n2
    refine Drawn.take 0 (some 11) (v := ?_) rfl rfl (by kernel_rfl) (by kernel_rfl) (by kernel_rfl) (by kernel_rfl) (by kernel_rfl) rfl (fun _ _ _ h => h) (Or.inl ⟨rfl, ?_⟩) H0 ?_
    rotate_left
    · intro W hW; have hW := HS.out W hW; go_simp; try with_reducible rfl
    simp only [put_list, List.set]
    refine Drawn.take 1 (some 12) (v := ?_) rfl rfl (by kernel_rfl) (by kernel_rfl) (by kernel_rfl) (by kernel_rfl) (by kernel_rfl) rfl (fun _ _ _ h => h) (Or.inl ⟨rfl, ?_⟩) H0 ?_
    rotate_left
    · intro W hW; have hW := HS.out W hW; go_simp; try with_reducible rfl
    simp only [put_list, List.set]
    refine Drawn.take 3 (some 14) (v := ?_) rfl rfl (by kernel_rfl) (by kernel_rfl) (by kernel_rfl) (by kernel_rfl) (by kernel_rfl) rfl (fun _ _ _ h => h) (Or.inl ⟨rfl, ?_⟩) H0 ?_
    rotate_left
    · intro W hW; have hW := HS.out W hW; go_simp; try with_reducible rfl
    simp only [put_list, List.set]
    refine Drawn.only 2 (by kernel_rfl) rfl rfl (fun K hK => ?_)
    go_simp
    refine (negative_c HX.out _).mono ?_
    rintro e w9 ⟨rfl, hb⟩
    refine hK _ _ (fun _ _ => H0.call hb) ?_
    replace H0 := H0.call hb
    clear hK K hb
    refine Drawn.only 4 (by kernel_rfl) rfl rfl (fun K hK => ?_)
    go_simp
    refine (negative_c HY.out _).mono ?_
    rintro e w9 ⟨rfl, hb⟩
    refine hK _ _ (fun _ _ => H0.call hb) ?_
    replace H0 := H0.call hb
    clear hK K hb
    refine Drawn.take 5 (some 16) (v := ?_) rfl rfl (by kernel_rfl) (by kernel_rfl) (by kernel_rfl) (by kernel_rfl) (by kernel_rfl) rfl (fun _ _ _ h => h) (Or.inl ⟨rfl, ?_⟩) H0 ?_
    rotate_left
    · intro W hW; have hW := HS.out W hW; go_simp; try with_reducible rfl
    simp only [put_list, List.set]
    refine Drawn.only 6 (by kernel_rfl) rfl rfl (fun K hK => ?_)
    go_simp
    refine (signed_c HQ.out (neg x != neg y) _).mono ?_
    rintro e w9 ⟨p63, p62, p61, p60, rfl, hd, hb⟩
    refine hK _ _ (fun _ _ => H0.call hb) ?_
    replace H0 := H0.call hb
    clear hK K hb
    have D6 := Lib.hid hd
    clear hd
    have K0 := H0.know (_, _, _) (.tail _ (.head _))
    obtain ⟨⟨r0, r1, r2, r3⟩, g0, g1, g2, g3⟩ := cells4 K0.2
    replace K0 := Lib.hid K0
    refine Drawn.only 7 (by kernel_rfl) rfl rfl (fun K hK => ?_)
    go_simp
    refine hK _ _ (fun h => by simp at h) ?_
    clear hK K
    refine Drawn.done (by kernel_rfl) ?_ _
    go_wp2_with fail
    exact bodyPost_ret (results_cell_row Try.results10 _ _ _ _ _ _ _ rfl (heap_set4 K0.out.2 _ _ _ _) Try.underlying24 rfl (by kernel_rfl)) rfl
      ⟨_, _, _, _, rfl, D6.out, below_set4 H0.below (by omega) _ _ _ _⟩
  intro J K' hJ hK'
  have H0 := H.drew
  refine Drawn.startEx (fun i => i == 6) H (by kernel_rfl) ?_
  clear H
  refine Drawn.take 0 (some 6) (v := ?_) rfl rfl (by kernel_rfl) (by kernel_rfl) (by kernel_rfl) (by kernel_rfl) (by kernel_rfl) rfl (fun _ _ _ h => h) (Or.inl ⟨rfl, ?_⟩) H0 ?_
  rotate_left
  · intro W hW; have hW := HS.out W hW; go_simp; try with_reducible rfl
  simp only [put_list, List.set]
  refine Drawn.take 2 (some 8) (v := ?_) rfl rfl (by kernel_rfl) (by kernel_rfl) (by kernel_rfl) (by kernel_rfl) (by kernel_rfl) rfl (fun _ _ _ h => h) (Or.inl ⟨rfl, ?_⟩) H0 ?_
  rotate_left
  · intro W hW; have hW := HS.out W hW; go_simp; try with_reducible rfl
  simp only [put_list, List.set]
  have H1 := H0
  clear H0
  generalize World.drew _ = W0 at H1 ⊢
  refine Drawn.among [1, 5] (by kernel_rfl) (by decide) ?_
  intro i hi
  simp only [List.mem_cons, List.not_mem_nil, or_false] at hi
  rcases hi with rfl | rfl
  · refine ⟨_, rfl, rfl, fun K hK => ?_⟩
    go_simp
    refine (magnitude_c HX.out _).mono ?_
    rintro e w1 ⟨u3, u2, u1, u0, rfl, hu, hb⟩
    have HU := Lib.hid hu; clear hu
    refine hK _ _ (fun _ _ => H1.call hb) ?_
    replace H1 := H1.call hb
    clear hK K hb
    refine Drawn.among [3, 5] (by kernel_rfl) (by decide) ?_
    intro i hi
    simp only [List.mem_cons, List.not_mem_nil, or_false] at hi
    rcases hi with rfl | rfl
    · refine ⟨_, rfl, rfl, fun K hK => ?_⟩
      go_simp
      refine (magnitude_c HY.out _).mono ?_
      rintro e w2 ⟨v3, v2, v1, v0, rfl, hv, hb⟩
      have HV := Lib.hid hv; clear hv
      refine hK _ _ (fun _ _ => H1.call hb) ?_
      replace H1 := H1.call hb
      clear hK K hb
      refine Drawn.among [4, 5] (by kernel_rfl) (by decide) ?_
      intro i hi
      simp only [List.mem_cons, List.not_mem_nil, or_false] at hi
      rcases hi with rfl | rfl
      · refine ⟨_, rfl, rfl, fun K hK => ?_⟩
        go_simp
        refine (Div_d HU.out HV.out _).mono ?_
        rintro e w3 ⟨q3, q2, q1, q0, rfl, hq, hb⟩
        have HQ := Lib.hid hq; clear hq
        refine hK _ _ (fun _ _ => H1.call hb) ?_
        replace H1 := H1.call hb
        clear hK K hb
        refine Drawn.only 5 (by kernel_rfl) rfl rfl (fun K hK => ?_)
        go_simp
        refine hK _ _ (fun _ _ => H1.alloc _) ?_
        clear hK K
        have h5 : New4 (w.heap.size + 1 + 1 + 1) (.int .u64 0) (.int .u64 0) (.int .u64 0) (.int .u64 0) 24 _ _ := New4.here _ H1.size
        replace H1 := H1.alloc (.cells #[.int .u64 0, .int .u64 0, .int .u64 0, .int .u64 0] 24)
        generalize World.alloc _ _ = V1 at H1 h5 ⊢
        obtain ⟨⟨c0, c1, c2, c3⟩, r0, r1, r2, r3⟩ := h5.cells
        refine Drawn.only 6 (by kernel_rfl) rfl rfl (fun K hK => ?_)
        go_simp
        refine hK _ _ (fun h => by simp at h) ?_
        exact Drawn.done (by kernel_rfl) (hK' _ _ (Met.intro (hJ _ _ ⟨_, _, _, _, _, _, _, _, _, _, _, _, _, rfl, HQ.out, (H1.set4 h5.ge _ _ _ _).add (heap_set4 h5.1 _ _ _ _)⟩))) _
      · refine ⟨_, rfl, rfl, fun K hK => ?_⟩
        go_simp
        refine hK _ _ (fun _ _ => H1.alloc _) ?_
        clear hK K
        have h5 : New4 (w.heap.size + 1 + 1 + 1) (.int .u64 0) (.int .u64 0) (.int .u64 0) (.int .u64 0) 24 _ _ := New4.here _ H1.size
        replace H1 := H1.alloc (.cells #[.int .u64 0, .int .u64 0, .int .u64 0, .int .u64 0] 24)
        generalize World.alloc _ _ = V2 at H1 h5 ⊢
        refine Drawn.only 4 (by kernel_rfl) rfl rfl (fun K hK => ?_)
        go_simp
        refine (Div_d HU.out HV.out _).mono ?_
        rintro e w3 ⟨q3, q2, q1, q0, rfl, hq, hb⟩
        have HQ := Lib.hid hq; clear hq
        refine hK _ _ (fun _ _ => H1.call hb) ?_
        replace h5 := carry4 hb h5
        replace H1 := H1.call hb
        clear hK K hb
        obtain ⟨⟨c0, c1, c2, c3⟩, r0, r1, r2, r3⟩ := h5.cells
        refine Drawn.only 6 (by kernel_rfl) rfl rfl (fun K hK => ?_)
        go_simp
        refine hK _ _ (fun h => by simp at h) ?_
        exact Drawn.done (by kernel_rfl) (hK' _ _ (Met.intro (hJ _ _ ⟨_, _, _, _, _, _, _, _, _, _, _, _, _, rfl, HQ.out, (H1.set4 h5.ge _ _ _ _).add (heap_set4 h5.1 _ _ _ _)⟩))) _
    · refine ⟨_, rfl, rfl, fun K hK => ?_⟩
      go_simp
      refine hK _ _ (fun _ _ => H1.alloc _) ?_
      clear hK K
      have h5 : New4 (w.heap.size + 1 + 1 + 1) (.int .u64 0) (.int .u64 0) (.int .u64 0) (.int .u64 0) 24 _ _ := New4.here _ H1.size
      replace H1 := H1.alloc (.cells #[.int .u64 0, .int .u64 0, .int .u64 0, .int .u64 0] 24)
      generalize World.alloc _ _ = V3 at H1 h5 ⊢
      refine Drawn.only 3 (by kernel_rfl) rfl rfl (fun K hK => ?_)
      go_simp
      refine (magnitude_c HY.out _).mono ?_
      rintro e w2 ⟨v3, v2, v1, v0, rfl, hv, hb⟩
      have HV := Lib.hid hv; clear hv
      refine hK _ _ (fun _ _ => H1.call hb) ?_
      replace h5 := carry4 hb h5
      replace H1 := H1.call hb
      clear hK K hb
      refine Drawn.only 4 (by kernel_rfl) rfl rfl (fun K hK => ?_)
      go_simp
      refine (Div_d HU.out HV.out _).mono ?_
      rintro e w3 ⟨q3, q2, q1, q0, rfl, hq, hb⟩
      have HQ := Lib.hid hq; clear hq
      refine hK _ _ (fun _ _ => H1.call hb) ?_
      replace h5 := carry4 hb h5
      replace H1 := H1.call hb
      clear hK K hb
      obtain ⟨⟨c0, c1, c2, c3⟩, r0, r1, r2, r3⟩ := h5.cells
      refine Drawn.only 6 (by kernel_rfl) rfl rfl (fun K hK => ?_)
      go_simp
      refine hK _ _ (fun h => by simp at h) ?_
      exact Drawn.done (by kernel_rfl) (hK' _ _ (Met.intro (hJ _ _ ⟨_, _, _, _, _, _, _, _, _, _, _, _, _, rfl, HQ.out, (H1.set4 h5.ge _ _ _ _).add (heap_set4 h5.1 _ _ _ _)⟩))) _
  · refine ⟨_, rfl, rfl, fun K hK => ?_⟩
    go_simp
    refine hK _ _ (fun _ _ => H1.alloc _) ?_
    clear hK K
    have h5 : New4 (w.heap.size + 1 + 1 + 1) (.int .u64 0) (.int .u64 0) (.int .u64 0) (.int .u64 0) 24 _ _ := New4.here _ H1.size
    replace H1 := H1.alloc (.cells #[.int .u64 0, .int .u64 0, .int .u64 0, .int .u64 0] 24)
    generalize World.alloc _ _ = V4 at H1 h5 ⊢
    refine Drawn.only 1 (by kernel_rfl) rfl rfl (fun K hK => ?_)
    go_simp
    refine (magnitude_c HX.out _).mono ?_
    rintro e w1 ⟨u3, u2, u1, u0, rfl, hu, hb⟩
    have HU := Lib.hid hu; clear hu
    refine hK _ _ (fun _ _ => H1.call hb) ?_
    replace h5 := carry4 hb h5
    replace H1 := H1.call hb
    clear hK K hb
    refine Drawn.only 3 (by kernel_rfl) rfl rfl (fun K hK => ?_)
    go_simp
    refine (magnitude_c HY.out _).mono ?_
    rintro e w2 ⟨v3, v2, v1, v0, rfl, hv, hb⟩
    have HV := Lib.hid hv; clear hv
    refine hK _ _ (fun _ _ => H1.call hb) ?_
    replace h5 := carry4 hb h5
    replace H1 := H1.call hb
    clear hK K hb
    refine Drawn.only 4 (by kernel_rfl) rfl rfl (fun K hK => ?_)
    go_simp
    refine (Div_d HU.out HV.out _).mono ?_
    rintro e w3 ⟨q3, q2, q1, q0, rfl, hq, hb⟩
    have HQ := Lib.hid hq; clear hq
    refine hK _ _ (fun _ _ => H1.call hb) ?_
    replace h5 := carry4 hb h5
    replace H1 := H1.call hb
    clear hK K hb
    obtain ⟨⟨c0, c1, c2, c3⟩, r0, r1, r2, r3⟩ := h5.cells
    refine Drawn.only 6 (by kernel_rfl) rfl rfl (fun K hK => ?_)
    go_simp
    refine hK _ _ (fun h => by simp at h) ?_
    exact Drawn.done (by kernel_rfl) (hK' _ _ (Met.intro (hJ _ _ ⟨_, _, _, _, _, _, _, _, _, _, _, _, _, rfl, HQ.out, (H1.set4 h5.ge _ _ _ _).add (heap_set4 h5.1 _ _ _ _)⟩))) _

end Go.Proofs.Ythbfhfgmanafpaa
