/- The contracts of word.places and word.Byte. -/
import Derived.Test.YtofoiifckkafcaaDoorWordO
import Derived.Test.YtofoiifckkafcaaDoorPlaces
namespace Go.Proofs.YtofoiifckkafcaaDoor
open Go.RowKit
attribute [local go_sem ↓] Go.wp_at_zero Go.wp_at_succ

theorem index_limb (d0 d1 d2 d3 k : Nat) (hk : k < 4) (W : World) :
    (Instr.index 41 (.agg #[.int .u64 d0, .int .u64 d1, .int .u64 d2, .int .u64 d3]) (.int .i64 (k : Int))).run Tryd.prog W = .ok (.int .u64 (nth d0 d1 d2 d3 k : Nat)) W := by
  have h : k = 0 ∨ k = 1 ∨ k = 2 ∨ k = 3 := by omega
  rcases h with rfl | rfl | rfl | rfl <;> simp [Instr.index, run_underlying Tryd.underlying41, asIntOf, go_sem, nth]

set_option maxRecDepth 100000 in
set_option maxHeartbeats 1000000 in
theorem Byte_c {i x b3 b2 b1 b0 a3 a2 a1 a0 : Nat} (hi : Dig i b0 b1 b2 b3) (hx : Dig x a0 a1 a2 a3) (w : World) :
    Calls Tryd.prog 40 #[.agg #[.int .u64 b3, .int .u64 b2, .int .u64 b1, .int .u64 b0], .agg #[.int .u64 a3, .int .u64 a2, .int .u64 a1, .int .u64 a0]] w
      (RetW (fun s => s = if i < 32 then byteOf x (31 - i) else 0) w) := by
  have hS := Lib.hid (Small_c hi)
  have hlow := Lib.hid (fun h => low_of hi h)
  generalize hz : (if i < 32 then byteOf x (31 - i) else 0) = z
  have HZ := Lib.hid hz; clear hz
  have H := (((Fx.start w).new #[.int .u64 b3, .int .u64 b2, .int .u64 b1, .int .u64 b0] 24).new #[.int .u64 a3, .int .u64 a2, .int .u64 a1, .int .u64 a0] 24).new #[.int .u64 0, .int .u64 0, .int .u64 0, .int .u64 0] 24
  have H := H.1
  have HX := Lib.hid hx; have HI := Lib.hid hi
  clear hi hx
  go_enter Tryd.func40, Tryd.ntmps40
  go_wp2_with fail
  refine (hS.out _).mono ?_
  rintro e w1 ⟨rfl, hb1⟩
  replace H := H.call hb1
  clear hb1 hS
  by_cases hs : i < M64
  · rw [decide_eq_true hs]
    have e0 := hlow.out hs
    subst e0
    by_cases hk : i < 32
    · have hk' : ¬ (32 : Int) ≤ (i : Int) := by omega
      have hw : IntKind.i64.wrap (i : Int) = (i : Int) := by rw [IntKind.wrap_i64]; omega
      have c1 := H.c5 (.tail _ (.head _))
      clear hs hlow
      go_wp2_with fail
      refine (placeOf_any _ (by omega) (by omega) _).mono ?_
      rintro e w2 ⟨rfl, rfl⟩
      go_wp2_with fail
      refine (split_any _ _ _ _ _).mono ?_
      rintro e w3 ⟨rfl, hb3⟩
      replace H := H.call hb3
      clear hb3 c1
      obtain ⟨j, hj⟩ : ∃ j : Nat, j = 31 - i := ⟨_, rfl⟩
      have hj1 : (31 - (i : Int)) / 8 = ((j / 8 : Nat) : Int) := by omega
      have hj2 : (31 - (i : Int)) % 8 * 8 = ((j % 8 * 8 : Nat) : Int) := by omega
      rw [hj1, hj2]
      have hl := index_limb a0 a1 a2 a3 (j / 8) (by omega)
      have hv : nth a0 a1 a2 a3 (j / 8) / 2 ^ (j % 8 * 8) % 256 = z := by
        rw [← HZ.out, if_pos hk, ← hj]
        exact byteIn_eq HX.out (by omega)
      have hr : j % 8 * 8 < 64 := by omega
      have hn := HX.out.nth (j / 8)
      clear hj hj1 hj2
      generalize j / 8 = q at *
      generalize j % 8 * 8 = r at *
      generalize nth a0 a1 a2 a3 q = v at *
      have Hv := Lib.hid hv; have Hn := Lib.hid hn; clear hv hn
      go_wp2_with fail
      have hb : Go.bits .and .u64 ((v : Int) / 2 ^ r) 255 = (z : Int) := by
        have hq : v / 2 ^ r < M64 := Nat.lt_of_le_of_lt (Nat.div_le_self _ _) Hn.out
        have h := and64 (v / 2 ^ r) 255 hq (by decide)
        rw [nat_mask8, Hv.out] at h
        rw [← h]
        congr 1
      rw [hb]
      clear hb hl
      refine (from_any z _).mono ?_
      rintro e w4 ⟨rfl, hb4⟩
      replace H := H.call hb4
      have hz : z < M64 := by have := Hv.out; unfold M64; omega
      have HQ := Lib.hid (dig_one hz)
      clear hb4 hz hk hk'
      have K := H.know (_, _, _) List.mem_cons_self
      have hC := cells4 K.2
      obtain ⟨⟨r0, r1, r2, r3⟩, g0, g1, g2, g3⟩ := hC
      replace K := Lib.hid K
      go_wp2_with fail
      exact bodyPost_ret (results_cell_row Tryd.results40 _ _ _ _ _ _ _ rfl (heap_set4 K.out.2 _ _ _ _) Tryd.underlying24 rfl (by kernel_rfl)) rfl
        ⟨z, 0, 0, 0, z, rfl, HQ.out, rfl, below_set4 H.below (by omega) _ _ _ _⟩
    · have hk' : (32 : Int) ≤ (i : Int) := by omega
      have HQ := Lib.hid (show 0 = z by rw [← HZ.out, if_neg hk])
      clear hs hlow hk
      have K := H.know (_, _, _) List.mem_cons_self
      have hC := cells4 K.2
      obtain ⟨⟨r0, r1, r2, r3⟩, g0, g1, g2, g3⟩ := hC
      replace K := Lib.hid K
      go_wp2_with fail
      exact bodyPost_ret (results_cell_row Tryd.results40 _ _ _ _ _ _ _ rfl (heap_set4 K.out.2 _ _ _ _) Tryd.underlying24 rfl (by kernel_rfl)) rfl
        ⟨0, 0, 0, 0, 0, rfl, ⟨by decide, by decide, by decide, by decide, rfl⟩, HQ.out, below_set4 H.below (by omega) _ _ _ _⟩
  · rw [decide_eq_false hs]
    have HQ := Lib.hid (show 0 = z by rw [← HZ.out, if_neg (by unfold M64 at hs; omega)])
    clear hlow hs
    have K := H.know (_, _, _) List.mem_cons_self
    have hC := cells4 K.2
    obtain ⟨⟨r0, r1, r2, r3⟩, g0, g1, g2, g3⟩ := hC
    replace K := Lib.hid K
    go_wp2_with fail
    exact bodyPost_ret (results_cell_row Tryd.results40 _ _ _ _ _ _ _ rfl (heap_set4 K.out.2 _ _ _ _) Tryd.underlying24 rfl (by kernel_rfl)) rfl
      ⟨0, 0, 0, 0, 0, rfl, ⟨by decide, by decide, by decide, by decide, rfl⟩, HQ.out, below_set4 H.below (by omega) _ _ _ _⟩

end Go.Proofs.YtofoiifckkafcaaDoor
