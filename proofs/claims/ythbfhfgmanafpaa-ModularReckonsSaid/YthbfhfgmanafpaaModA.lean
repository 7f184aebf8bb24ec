/- Contracts of package modular: negative, signed, magnitude, SMod, plus, AddMod. -/
import Derived.Test.YthbfhfgmanafpaaDivE
import Derived.Test.YthbfhfgmanafpaaSar
namespace Go.Proofs.Ythbfhfgmanafpaa
open Go.RowKit
attribute [local go_sem ↓] Go.wp_at_zero Go.wp_at_succ

def neg (x : Nat) : Bool := decide (W256 / 2 ≤ x)
/-- x with its sign turned round, where that is asked for. -/
def sgn (x : Nat) (t : Bool) : Nat := if t then (0 + W256 - x) % W256 else x
def mag (x : Nat) : Nat := sgn x (neg x)

/-- The rest; 0, if y is 0. -/
def modOf (x y : Nat) : Nat := if y = 0 then 0 else x % y
theorem Mod_m {x y b3 b2 b1 b0 a3 a2 a1 a0 : Nat} (hx : Dig x a0 a1 a2 a3) (hy : Dig y b0 b1 b2 b3) (w : World) :
    Calls Try.prog 28 #[.agg #[.int .u64 a3, .int .u64 a2, .int .u64 a1, .int .u64 a0], .agg #[.int .u64 b3, .int .u64 b2, .int .u64 b1, .int .u64 b0]] w (RetD (modOf x y) w) := Mod_d hx hy w

def RetBB (b : Bool) (w : World) (e : Ending) (w' : World) : Prop := e = .returned (.bool b) ∧ Below w.heap.size w w'

set_option maxRecDepth 100000 in
set_option maxHeartbeats 400000 in
theorem negative_c {x a3 a2 a1 a0 : Nat} (hx : Dig x a0 a1 a2 a3) (w : World) :
    Calls Try.prog 35 #[.agg #[.int .u64 a3, .int .u64 a2, .int .u64 a1, .int .u64 a0]] w (RetBB (neg x) w) := by
  have hb := top_and a3 hx.h3
  have hh := dig_half hx
  unfold neg
  by_cases hs : x < W256 / 2
  · rw [if_pos (hh.1 hs)] at hb
    rw [decide_eq_false (by omega)]
    clear hs hh hx
    go_enter Try.func35, Try.ntmps35
    go_wp2
    go_ret
    exact ⟨rfl, (Below.refl _ _).alloc (Nat.le_refl _) _⟩
  · rw [if_neg (fun h => hs (hh.2 h))] at hb
    rw [decide_eq_true (by omega)]
    clear hs hh hx
    go_enter Try.func35, Try.ntmps35
    go_wp2
    go_ret
    exact ⟨rfl, (Below.refl _ _).alloc (Nat.le_refl _) _⟩

set_option maxRecDepth 100000 in
set_option maxHeartbeats 1000000 in
theorem signed_c {x a3 a2 a1 a0 : Nat} (hx : Dig x a0 a1 a2 a3) (t : Bool) (w : World) :
    Calls Try.prog 34 #[.agg #[.int .u64 a3, .int .u64 a2, .int .u64 a1, .int .u64 a0], .bool t] w (RetD (sgn x t) w) := by
  have H := (((Fx.start w).new #[.int .u64 a3, .int .u64 a2, .int .u64 a1, .int .u64 a0] 24).new #[.int .u64 0, .int .u64 0, .int .u64 0, .int .u64 0] 24).1
  unfold sgn
  cases t
  · rw [if_neg (by simp)]
    have HX := Lib.hid hx; clear hx
    have K := Lib.hid (H.know _ (.head _)).2
    go_enter Try.func34, Try.ntmps34
    go_wp2_with fail
    exact bodyPost_ret (v := .agg #[.int .u64 a3, .int .u64 a2, .int .u64 a1, .int .u64 a0]) (by simp [results, Try.results34, go_sem]) rfl
      ⟨_, _, _, _, rfl, HX.out, ((Below.refl _ _).alloc (Nat.le_refl _) _).alloc (by simp) _⟩
  · rw [if_pos rfl]
    have S := Lib.hid (fun W => Sub_d dig_zero hx W); clear hx
    generalize (0 + W256 - x) % W256 = r at *
    go_enter Try.func34, Try.ntmps34
    go_wp2_with fail
    refine (S.out _).mono ?_
    rintro e w1 ⟨r3, r2, r1, r0, rfl, hr, hb1⟩
    have H1 := H.call hb1
    have K := H1.know (_, _, _) (.head _)
    obtain ⟨⟨k0, k1, k2, k3⟩, g0, g1, g2, g3⟩ := cells4 K.2
    have n1 := H1.lt (.head _)
    replace K := Lib.hid K; replace H1 := Lib.hid H1
    clear H hb1 S
    go_wp2_with fail
    exact bodyPost_ret (results_cell_row Try.results34 _ _ _ _ _ _ _ rfl (heap_set4 K.out.2 _ _ _ _) Try.underlying24 rfl (by kernel_rfl)) rfl
      ⟨_, _, _, _, rfl, hr, below_set4 H1.out.below (by omega) _ _ _ _⟩

set_option maxRecDepth 100000 in
set_option maxHeartbeats 4000000 in
theorem magnitude_c {x a3 a2 a1 a0 : Nat} (hx : Dig x a0 a1 a2 a3) (w : World) :
    Calls Try.prog 33 #[.agg #[.int .u64 a3, .int .u64 a2, .int .u64 a1, .int .u64 a0]] w (RetD (mag x) w) := by
  have H := (((Fx.start w).new #[.int .u64 a3, .int .u64 a2, .int .u64 a1, .int .u64 a0] 24).new #[.int .u64 0, .int .u64 0, .int .u64 0, .int .u64 0] 24).1
  have HX := Lib.hid hx
  clear hx
  go_enter Try.func33, Try.ntmps33
  go_wp2_with fail
  have H0 := H.drew
  have HS := Lib.hid (fun W (hW : Fr w w.heap.size (w.heap.size + 1 + 1) [(w.heap.size + 1, #[.int .u64 0, .int .u64 0, .int .u64 0, .int .u64 0], 24), (w.heap.size, #[.int .u64 a3, .int .u64 a2, .int .u64 a1, .int .u64 a0], 24)] W) => hW.row (.tail _ (.head _)))
  refine Drawn.startEx (fun i => i == 4) H (by kernel_rfl) ?_
  clear H
  refine Drawn.take 0 (some 3) (v := ?_) rfl rfl (by kernel_rfl) (by kernel_rfl) (by kernel_rfl) (by kernel_rfl) (by kernel_rfl) rfl (fun _ _ _ h => h) (Or.inl ⟨rfl, ?_⟩) H0 ?_
  rotate_left
  · intro W hW; have hW := HS.out W hW; go_simp; try with_reducible rfl
  simp only [put_list, List.set]
  refine Drawn.take 1 (some 4) (v := ?_) rfl rfl (by kernel_rfl) (by kernel_rfl) (by kernel_rfl) (by kernel_rfl) (by kernel_rfl) rfl (fun _ _ _ h => h) (Or.inl ⟨rfl, ?_⟩) H0 ?_
  rotate_left
  · intro W hW; have hW := HS.out W hW; go_simp; try with_reducible rfl
  simp only [put_list, List.set]
  refine Drawn.only 2 (by kernel_rfl) rfl rfl (fun K hK => ?_)
  go_simp
  refine (negative_c HX.out _).mono ?_
  rintro e w9 ⟨rfl, hb⟩
  refine hK _ _ (fun _ _ => H0.call hb) ?_
  replace H0 := H0.call hb
  clear hK K hb
  refine Drawn.only 3 (by kernel_rfl) rfl rfl (fun K hK => ?_)
  go_simp
  refine (signed_c HX.out (neg x) _).mono ?_
  rintro e w9 ⟨p33, p32, p31, p30, rfl, hd, hb⟩
  refine hK _ _ (fun _ _ => H0.call hb) ?_
  replace H0 := H0.call hb
  clear hK K hb
  have D3 := Lib.hid hd
  clear hd
  have K0 := H0.know (_, _, _) List.mem_cons_self
  obtain ⟨⟨r0, r1, r2, r3⟩, g0, g1, g2, g3⟩ := cells4 K0.2
  replace K0 := Lib.hid K0
  refine Drawn.only 4 (by kernel_rfl) rfl rfl (fun K hK => ?_)
  go_simp
  refine hK _ _ (fun h => by simp at h) ?_
  clear hK K
  refine Drawn.done (by kernel_rfl) ?_ _
  go_wp2_with fail
  exact bodyPost_ret (results_cell_row Try.results33 _ _ _ _ _ _ _ rfl (heap_set4 K0.out.2 _ _ _ _) Try.underlying24 rfl (by kernel_rfl)) rfl
    ⟨_, _, _, _, rfl, D3.out, below_set4 H0.below (by omega) _ _ _ _⟩

set_option maxRecDepth 100000 in
set_option maxHeartbeats 4000000 in
theorem SMod_c {x y a3 a2 a1 a0 b3 b2 b1 b0 : Nat} (hx : Dig x a0 a1 a2 a3) (hy : Dig y b0 b1 b2 b3) (w : World) :
    Calls Try.prog 12 #[.agg #[.int .u64 a3, .int .u64 a2, .int .u64 a1, .int .u64 a0], .agg #[.int .u64 b3, .int .u64 b2, .int .u64 b1, .int .u64 b0]] w (RetD (sgn (modOf (mag x) (mag y)) (neg x)) w) := by
  have H := ((((Fx.start w).new #[.int .u64 a3, .int .u64 a2, .int .u64 a1, .int .u64 a0] 24).new #[.int .u64 b3, .int .u64 b2, .int .u64 b1, .int .u64 b0] 24).new #[.int .u64 0, .int .u64 0, .int .u64 0, .int .u64 0] 24).1
  have HX := Lib.hid hx; have HY := Lib.hid hy
  clear hx hy
  go_enter Try.func12, Try.ntmps12
  go_wp2_with fail
  have H0 := H.drew
  have HS := Lib.hid (fun W (hW : Fr w w.heap.size (w.heap.size + 1 + 1 + 1) [(w.heap.size + 1 + 1, #[.int .u64 0, .int .u64 0, .int .u64 0, .int .u64 0], 24), (w.heap.size + 1, #[.int .u64 b3, .int .u64 b2, .int .u64 b1, .int .u64 b0], 24), (w.heap.size, #[.int .u64 a3, .int .u64 a2, .int .u64 a1, .int .u64 a0], 24)] W) => And.intro (hW.row (.tail _ (.head _))) (hW.row (.tail _ (.tail _ (.head _)))))
  refine Drawn.startEx (fun i => i == 8) H (by kernel_rfl) ?_
  clear H
  refine Drawn.take 0 (some 5) (v := ?_) rfl rfl (by kernel_rfl) (by kernel_rfl) (by kernel_rfl) (by kernel_rfl) (by kernel_rfl) rfl (fun _ _ _ h => h) (Or.inl ⟨rfl, ?_⟩) H0 ?_
  rotate_left
  · intro W hW; have hW := HS.out W hW; go_simp; try with_reducible rfl
  simp only [put_list, List.set]
  refine Drawn.take 2 (some 7) (v := ?_) rfl rfl (by kernel_rfl) (by kernel_rfl) (by kernel_rfl) (by kernel_rfl) (by kernel_rfl) rfl (fun _ _ _ h => h) (Or.inl ⟨rfl, ?_⟩) H0 ?_
  rotate_left
  · intro W hW; have hW := HS.out W hW; go_simp; try with_reducible rfl
  simp only [put_list, List.set]
  refine Drawn.take 5 (some 10) (v := ?_) rfl rfl (by kernel_rfl) (by kernel_rfl) (by kernel_rfl) (by kernel_rfl) (by kernel_rfl) rfl (fun _ _ _ h => h) (Or.inl ⟨rfl, ?_⟩) H0 ?_
  rotate_left
  · intro W hW; have hW := HS.out W hW; go_simp; try with_reducible rfl
  simp only [put_list, List.set]
  refine Drawn.only 1 (by kernel_rfl) rfl rfl (fun K hK => ?_)
  go_simp
  refine (magnitude_c HX.out _).mono ?_
  rintro e w9 ⟨p13, p12, p11, p10, rfl, hd, hb⟩
  refine hK _ _ (fun _ _ => H0.call hb) ?_
  replace H0 := H0.call hb
  clear hK K hb
  have D1 := Lib.hid hd
  clear hd
  refine Drawn.only 3 (by kernel_rfl) rfl rfl (fun K hK => ?_)
  go_simp
  refine (magnitude_c HY.out _).mono ?_
  rintro e w9 ⟨p33, p32, p31, p30, rfl, hd, hb⟩
  refine hK _ _ (fun _ _ => H0.call hb) ?_
  replace H0 := H0.call hb
  clear hK K hb
  have D3 := Lib.hid hd
  clear hd
  refine Drawn.only 4 (by kernel_rfl) rfl rfl (fun K hK => ?_)
  go_simp
  refine (Mod_m D1.out D3.out _).mono ?_
  rintro e w9 ⟨p43, p42, p41, p40, rfl, hd, hb⟩
  refine hK _ _ (fun _ _ => H0.call hb) ?_
  replace H0 := H0.call hb
  clear hK K hb
  have D4 := Lib.hid hd
  clear hd
  refine Drawn.only 6 (by kernel_rfl) rfl rfl (fun K hK => ?_)
  go_simp
  refine (negative_c HX.out _).mono ?_
  rintro e w9 ⟨rfl, hb⟩
  refine hK _ _ (fun _ _ => H0.call hb) ?_
  replace H0 := H0.call hb
  clear hK K hb
  refine Drawn.only 7 (by kernel_rfl) rfl rfl (fun K hK => ?_)
  go_simp
  refine (signed_c D4.out (neg x) _).mono ?_
  rintro e w9 ⟨p73, p72, p71, p70, rfl, hd, hb⟩
  refine hK _ _ (fun _ _ => H0.call hb) ?_
  replace H0 := H0.call hb
  clear hK K hb
  have D7 := Lib.hid hd
  clear hd
  have K0 := H0.know (_, _, _) List.mem_cons_self
  obtain ⟨⟨r0, r1, r2, r3⟩, g0, g1, g2, g3⟩ := cells4 K0.2
  replace K0 := Lib.hid K0
  refine Drawn.only 8 (by kernel_rfl) rfl rfl (fun K hK => ?_)
  go_simp
  refine hK _ _ (fun h => by simp at h) ?_
  clear hK K
  refine Drawn.done (by kernel_rfl) ?_ _
  go_wp2_with fail
  exact bodyPost_ret (results_cell_row Try.results12 _ _ _ _ _ _ _ rfl (heap_set4 K0.out.2 _ _ _ _) Try.underlying24 rfl (by kernel_rfl)) rfl
    ⟨_, _, _, _, rfl, D7.out, below_set4 H0.below (by omega) _ _ _ _⟩

/-- The rest of the sum by m, of two rests. -/
def plusM (x y m : Nat) : Nat := if x < (m + W256 - y) % W256 then (x + y) % W256 else (x + W256 - (m + W256 - y) % W256) % W256

set_option maxRecDepth 100000 in
set_option maxHeartbeats 2000000 in
theorem plus_m {x y m a3 a2 a1 a0 b3 b2 b1 b0 m3 m2 m1 m0 : Nat} (hx : Dig x a0 a1 a2 a3) (hy : Dig y b0 b1 b2 b3) (hm : Dig m m0 m1 m2 m3) (w : World) :
    Calls Try.prog 41 #[.agg #[.int .u64 a3, .int .u64 a2, .int .u64 a1, .int .u64 a0], .agg #[.int .u64 b3, .int .u64 b2, .int .u64 b1, .int .u64 b0], .agg #[.int .u64 m3, .int .u64 m2, .int .u64 m1, .int .u64 m0]] w (RetD (plusM x y m) w) := by
  have H := ((((Fx.start w).new #[.int .u64 a3, .int .u64 a2, .int .u64 a1, .int .u64 a0] 24).new #[.int .u64 b3, .int .u64 b2, .int .u64 b1, .int .u64 b0] 24).new #[.int .u64 m3, .int .u64 m2, .int .u64 m1, .int .u64 m0] 24).new #[.int .u64 0, .int .u64 0, .int .u64 0, .int .u64 0] 24
  have S := Lib.hid (fun W => Sub_d hm hy W)
  have HX := Lib.hid hx; have HY := Lib.hid hy; have HM := Lib.hid hm
  have HP := Lib.hid (show (x < (m + W256 - y) % W256 → plusM x y m = (x + y) % W256) ∧ (¬ x < (m + W256 - y) % W256 → plusM x y m = (x + W256 - (m + W256 - y) % W256) % W256) from ⟨fun h => if_pos h, fun h => if_neg h⟩)
  clear hx hy hm
  generalize (m + W256 - y) % W256 = l at *
  generalize plusM x y m = pm at *
  go_enter Try.func41, Try.ntmps41
  go_wp2_with fail
  refine (S.out _).mono ?_
  rintro e w1 ⟨l3, l2, l1, l0, rfl, hl, hb1⟩
  have H1 := ((H.1.call hb1).up).new #[.int .u64 l3, .int .u64 l2, .int .u64 l1, .int .u64 l0] 24
  have z1 := (H.1.call hb1).size
  have kA := (H.1.call hb1).row (.tail _ (.tail _ (.tail _ (.head _))))
  have nA := (H.1.call hb1).lt (.tail _ (.tail _ (.tail _ (.head _))))
  have HL := Lib.hid hl
  have Le := Lib.hid (fun W => Less_c HX.out HL.out W)
  replace H1 := Lib.hid H1
  clear H hb1 S hl
  unfold RetB at Le
  by_cases hlt : x < l
  · rw [decide_eq_true hlt] at Le
    have HE := Lib.hid (HP.out.1 hlt)
    clear hlt
    go_wp2_with fail
    refine (Le.out _).mono ?_
    rintro e w2 ⟨rfl, hb2⟩
    have H2 := H1.out.call hb2
    have kA := H2.row (.tail _ (.tail _ (.tail _ (.tail _ (.head _)))))
    have kB := H2.row (.tail _ (.tail _ (.tail _ (.head _))))
    have z2 := H2.size
    replace H2 := Lib.hid H2
    clear hb2 H1 Le
    go_wp2_with fail
    refine (Add_d HX.out HY.out _).mono ?_
    rintro e w3 ⟨r3, r2, r1, r0, rfl, hr, hb3⟩
    have H3 := H2.out.call hb3
    have K := H3.know (_, _, _) (.tail _ (.head _))
    have k0 := cells4 K.2
    have n3 := H3.lt (.tail _ (.head _))
    replace K := Lib.hid K; replace H3 := Lib.hid H3
    clear hb3 H2 kA kB
    go_wp2_with fail
    exact bodyPost_ret (results_cell_row Try.results41 _ _ _ _ _ _ _ rfl (heap_set4 K.out.2 _ _ _ _) Try.underlying24 rfl (by kernel_rfl)) rfl
      ⟨_, _, _, _, rfl, HE.out.symm ▸ hr, below_set4 H3.out.below (by omega) _ _ _ _⟩
  · rw [decide_eq_false hlt] at Le
    have HE := Lib.hid (HP.out.2 hlt)
    clear hlt
    go_wp2_with fail
    refine (Le.out _).mono ?_
    rintro e w2 ⟨rfl, hb2⟩
    have H2 := H1.out.call hb2
    have kA := H2.row (.tail _ (.tail _ (.tail _ (.tail _ (.head _)))))
    have kL := H2.row (.head _)
    have z2 := H2.size
    replace H2 := Lib.hid H2
    clear hb2 H1 Le
    go_wp2_with fail
    refine (Sub_d HX.out HL.out _).mono ?_
    rintro e w3 ⟨r3, r2, r1, r0, rfl, hr, hb3⟩
    have H3 := H2.out.call hb3
    have K := H3.know (_, _, _) (.tail _ (.head _))
    have k0 := cells4 K.2
    have n3 := H3.lt (.tail _ (.head _))
    replace K := Lib.hid K; replace H3 := Lib.hid H3
    clear hb3 H2 kA kL
    go_wp2_with fail
    exact bodyPost_ret (results_cell_row Try.results41 _ _ _ _ _ _ _ rfl (heap_set4 K.out.2 _ _ _ _) Try.underlying24 rfl (by kernel_rfl)) rfl
      ⟨_, _, _, _, rfl, HE.out.symm ▸ hr, below_set4 H3.out.below (by omega) _ _ _ _⟩

set_option maxRecDepth 100000 in
set_option maxHeartbeats 4000000 in
theorem AddMod_c {x y z a3 a2 a1 a0 b3 b2 b1 b0 m3 m2 m1 m0 : Nat} (hx : Dig x a0 a1 a2 a3) (hy : Dig y b0 b1 b2 b3) (hz : Dig z m0 m1 m2 m3) (w : World) :
    Calls Try.prog 14 #[.agg #[.int .u64 a3, .int .u64 a2, .int .u64 a1, .int .u64 a0], .agg #[.int .u64 b3, .int .u64 b2, .int .u64 b1, .int .u64 b0], .agg #[.int .u64 m3, .int .u64 m2, .int .u64 m1, .int .u64 m0]] w (RetD (plusM (modOf x z) (modOf y z) z) w) := by
  have H := (((((Fx.start w).new #[.int .u64 a3, .int .u64 a2, .int .u64 a1, .int .u64 a0] 24).new #[.int .u64 b3, .int .u64 b2, .int .u64 b1, .int .u64 b0] 24).new #[.int .u64 m3, .int .u64 m2, .int .u64 m1, .int .u64 m0] 24).new #[.int .u64 0, .int .u64 0, .int .u64 0, .int .u64 0] 24).1
  have HX := Lib.hid hx; have HY := Lib.hid hy; have HZ := Lib.hid hz
  clear hx hy hz
  go_enter Try.func14, Try.ntmps14
  go_wp2_with fail
  have H0 := H.drew
  have HS := Lib.hid (fun W (hW : Fr w w.heap.size (w.heap.size + 1 + 1 + 1 + 1) [(w.heap.size + 1 + 1 + 1, #[.int .u64 0, .int .u64 0, .int .u64 0, .int .u64 0], 24), (w.heap.size + 1 + 1, #[.int .u64 m3, .int .u64 m2, .int .u64 m1, .int .u64 m0], 24), (w.heap.size + 1, #[.int .u64 b3, .int .u64 b2, .int .u64 b1, .int .u64 b0], 24), (w.heap.size, #[.int .u64 a3, .int .u64 a2, .int .u64 a1, .int .u64 a0], 24)] W) => And.intro (hW.row (.tail _ (.head _))) (And.intro (hW.row (.tail _ (.tail _ (.head _)))) (hW.row (.tail _ (.tail _ (.tail _ (.head _)))))))
  refine Drawn.startEx (fun i => i == 8) H (by kernel_rfl) ?_
  clear H
  refine Drawn.take 0 (some 7) (v := ?_) rfl rfl (by kernel_rfl) (by kernel_rfl) (by kernel_rfl) (by kernel_rfl) (by kernel_rfl) rfl (fun _ _ _ h => h) (Or.inl ⟨rfl, ?_⟩) H0 ?_
  rotate_left
  · intro W hW; have hW := HS.out W hW; go_simp; try with_reducible rfl
  simp only [put_list, List.set]
  refine Drawn.take 1 (some 8) (v := ?_) rfl rfl (by kernel_rfl) (by kernel_rfl) (by kernel_rfl) (by kernel_rfl) (by kernel_rfl) rfl (fun _ _ _ h => h) (Or.inl ⟨rfl, ?_⟩) H0 ?_
  rotate_left
  · intro W hW; have hW := HS.out W hW; go_simp; try with_reducible rfl
  simp only [put_list, List.set]
  refine Drawn.take 3 (some 10) (v := ?_) rfl rfl (by kernel_rfl) (by kernel_rfl) (by kernel_rfl) (by kernel_rfl) (by kernel_rfl) rfl (fun _ _ _ h => h) (Or.inl ⟨rfl, ?_⟩) H0 ?_
  rotate_left
  · intro W hW; have hW := HS.out W hW; go_simp; try with_reducible rfl
  simp only [put_list, List.set]
  refine Drawn.take 4 (some 11) (v := ?_) rfl rfl (by kernel_rfl) (by kernel_rfl) (by kernel_rfl) (by kernel_rfl) (by kernel_rfl) rfl (fun _ _ _ h => h) (Or.inl ⟨rfl, ?_⟩) H0 ?_
  rotate_left
  · intro W hW; have hW := HS.out W hW; go_simp; try with_reducible rfl
  simp only [put_list, List.set]
  refine Drawn.take 6 (some 13) (v := ?_) rfl rfl (by kernel_rfl) (by kernel_rfl) (by kernel_rfl) (by kernel_rfl) (by kernel_rfl) rfl (fun _ _ _ h => h) (Or.inl ⟨rfl, ?_⟩) H0 ?_
  rotate_left
  · intro W hW; have hW := HS.out W hW; go_simp; try with_reducible rfl
  simp only [put_list, List.set]
  refine Drawn.only 2 (by kernel_rfl) rfl rfl (fun K hK => ?_)
  go_simp
  refine (Mod_m HX.out HZ.out _).mono ?_
  rintro e w9 ⟨p23, p22, p21, p20, rfl, hd, hb⟩
  refine hK _ _ (fun _ _ => H0.call hb) ?_
  replace H0 := H0.call hb
  clear hK K hb
  have D2 := Lib.hid hd
  clear hd
  refine Drawn.only 5 (by kernel_rfl) rfl rfl (fun K hK => ?_)
  go_simp
  refine (Mod_m HY.out HZ.out _).mono ?_
  rintro e w9 ⟨p53, p52, p51, p50, rfl, hd, hb⟩
  refine hK _ _ (fun _ _ => H0.call hb) ?_
  replace H0 := H0.call hb
  clear hK K hb
  have D5 := Lib.hid hd
  clear hd
  refine Drawn.only 7 (by kernel_rfl) rfl rfl (fun K hK => ?_)
  go_simp
  refine (plus_m D2.out D5.out HZ.out _).mono ?_
  rintro e w9 ⟨p73, p72, p71, p70, rfl, hd, hb⟩
  refine hK _ _ (fun _ _ => H0.call hb) ?_
  replace H0 := H0.call hb
  clear hK K hb
  have D7 := Lib.hid hd
  clear hd
  have K0 := H0.know (_, _, _) List.mem_cons_self
  obtain ⟨⟨r0, r1, r2, r3⟩, g0, g1, g2, g3⟩ := cells4 K0.2
  replace K0 := Lib.hid K0
  refine Drawn.only 8 (by kernel_rfl) rfl rfl (fun K hK => ?_)
  go_simp
  refine hK _ _ (fun h => by simp at h) ?_
  clear hK K
  refine Drawn.done (by kernel_rfl) ?_ _
  go_wp2_with fail
  exact bodyPost_ret (results_cell_row Try.results14 _ _ _ _ _ _ _ rfl (heap_set4 K0.out.2 _ _ _ _) Try.underlying24 rfl (by kernel_rfl)) rfl
    ⟨_, _, _, _, rfl, D7.out, below_set4 H0.below (by omega) _ _ _ _⟩

end Go.Proofs.Ythbfhfgmanafpaa
