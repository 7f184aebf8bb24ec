/- The reference's Rotations. -/
import Derived.Test.YtienelgkdhmelaaDoorKEql
import Derived.Test.YtienelgkdhmelaaDoorKMove
namespace Go.Proofs.YtienelgkdhmelaaDoor
open Go.RowKit

/-- The step of the walk that begins at a place. -/
def rxL : List Nat := [99, 0, 18, 6, 12, 7, 23, 2, 9, 22, 1, 3, 17, 16, 20, 13, 8, 4, 5, 15, 19, 10, 21, 14, 11]
def rx (i : Nat) : Nat := rxL.getD i 99
def rotT (k i : Nat) : Nat := if rx i < k then (rx i + 1) * (rx i + 2) / 2 % 64 else 0
theorem rx_facts : ∀ t < 24, pr t < 25 ∧ rx (pr t) = t ∧ pr (t + 1) < 25 ∧ pr (t + 1) % 5 = pr t / 5 ∧ pr (t + 1) / 5 = (2 * (pr t % 5) + 3 * (pr t / 5)) % 5 := by decide +kernel
theorem rx_back : ∀ i < 25, rx i < 24 → pr (rx i) = i := by decide +kernel
theorem rotT_step {k : Nat} (hk : k < 24) {j : Nat} (hj : j < 25) : upd (rotT k) (pr k) ((k + 1) * (k + 2) / 2 % 64) j = rotT (k + 1) j := by
  obtain ⟨_, h2, _⟩ := rx_facts k hk
  unfold upd rotT
  by_cases e : j = pr k
  · subst e; rw [if_pos rfl, h2, if_pos (by omega)]
  · have hne : rx j ≠ k := fun h => e (by rw [← h, rx_back j hj (by omega)])
    rw [if_neg e]
    by_cases e2 : rx j < k
    · rw [if_pos e2, if_pos (by omega)]
    · rw [if_neg e2, if_neg (by omega)]
theorem rotT_lt (k i : Nat) : rotT k i < 64 := by
  unfold rotT
  split
  · exact Nat.mod_lt _ (by decide)
  · omega
structure RoS (w : World) (k : Nat) (W : World) : Prop where
  below : Below w.heap.size w W
  row : W.heap[w.heap.size]? = some (.cells (blk .i64 25 (rotT k)) 3 (0, 0))
theorem RoS.step {w W : World} {k : Nat} (h : RoS w k W) (hk : k < 24) : RoS w (k + 1) (W.setCell ⟨w.heap.size, pr k, none⟩ (.int .i64 ((k + 1) * (k + 2) / 2 % 64 : Nat))) := by
  refine ⟨h.below.setCell (by simp) _, ?_⟩
  rw [heap_setCell_same _ _ _ _ _ _ h.row, blk_set]
  congr 2
  exact blk_congr _ fun j hj => rotT_step hk hj

set_option maxRecDepth 100000 in
set_option maxHeartbeats 1000000 in
theorem rots_c (w : World) :
    Calls Tryd.prog 18 #[] w fun e w' => e = .returned (.slice (some ⟨w.heap.size, 0, none⟩) 25 25) ∧ RoS w 24 w' := by
  have hmk : ∀ w : World, (Instr.makeSlice 40 (.int .i64 25) (.int .i64 25)).run Tryd.prog w = .ok (.slice (some ⟨w.heap.size, 0, none⟩) 25 25) (w.alloc (.cells (blk .i64 25 fun _ => 0) 3)) := fun _ => by kernel_rfl
  have H0 := Lib.hid (show RoS w 0 (w.alloc (.cells (blk .i64 25 fun _ => 0) 3)) from ⟨(Below.refl _ _).alloc (by omega) _, by rw [heap_last _ rfl, blk_congr .i64 (g := rotT 0) fun j _ => (if_neg (by omega)).symm]⟩)
  go_enter Tryd.func18, Tryd.ntmps18
  go_wp2_with fail
  go_loopw [2, 3, 4] (fun x y i wr => ∃ k : Nat, i = .int .i64 k ∧ k ≤ 24 ∧ x = .int .i64 (pr k % 5 : Nat) ∧ y = .int .i64 (pr k / 5 : Nat) ∧ RoS w k wr) (fun _ _ i _ => 24 - (intOf i).toNat)
  case atStart => exact ⟨0, rfl, by omega, rfl, rfl, H0.out⟩
  case round =>
    clear H0
    obtain ⟨k, rfl, hk, rfl, rfl, hS⟩ := hrel
    by_cases hlt : k < 24
    · have hlti : (k : Int) < 24 := by omega
      obtain ⟨h1, _, h3, h4, h5⟩ := rx_facts k hlt
      have c0 := (cell_of hS.row (pr k)).trans (blk_at _ _ h1)
      have e0 := free_of hS.row (pr k)
      have HE := Lib.hid (hS.step hlt)
      have HX := Lib.hid h4
      have HY := Lib.hid h5
      have hx : pr k % 5 < 5 := Nat.mod_lt _ (by decide)
      have hy : pr k / 5 < 5 := by omega
      have hp : pr k % 5 + 5 * (pr k / 5) = pr k := by omega
      have hm0 : 0 ≤ ((k : Int) + 1) * ((k : Int) + 2) := Int.mul_nonneg (by omega) (by omega)
      have hm2 : ((k : Int) + 1) * ((k : Int) + 2) / 2 = (((k + 1) * (k + 2) / 2 : Nat) : Int) := by simp
      have hmb : ((k : Int) + 1) * ((k : Int) + 2) ≤ 650 := by
        have := Nat.mul_le_mul (show k + 1 ≤ 24 by omega) (show k + 2 ≤ 25 by omega)
        have : (((k + 1) * (k + 2) : Nat) : Int) ≤ 650 := by omega
        simpa using this
      have hmn : (k + 1) * (k + 2) / 2 ≤ 325 := by
        have := Nat.mul_le_mul (show k + 1 ≤ 24 by omega) (show k + 2 ≤ 25 by omega)
        omega
      have w1 : IntKind.i64.wrap ((k : Int) + 1) = (k : Int) + 1 := IntWalk.i64_in _ (by omega)
      have w2 : IntKind.i64.wrap ((k : Int) + 2) = (k : Int) + 2 := IntWalk.i64_in _ (by omega)
      have w3 : IntKind.i64.wrap (((k : Int) + 1) * ((k : Int) + 2)) = ((k : Int) + 1) * ((k : Int) + 2) := IntWalk.i64_in _ (by omega)
      have w4 : (((k : Int) + 1) * ((k : Int) + 2)).tdiv 2 = (((k + 1) * (k + 2) / 2 : Nat) : Int) := by rw [Int.tdiv_eq_ediv_of_nonneg hm0, hm2]
      clear hS h3 h4 h5 hm0
      obtain ⟨z, hz⟩ : ∃ z, (k + 1) * (k + 2) / 2 % 64 = z := ⟨_, rfl⟩
      rw [hz] at HE
      generalize (k + 1) * (k + 2) / 2 = m at *
      have z1 : (m : Int).tmod 64 = (z : Int) := by rw [Int.tmod_eq_emod_of_nonneg (by omega)]; omega
      have z2 : (m : Int) % 64 = (z : Int) := by omega
      have HN := Lib.hid (show ((2 * (pr k % 5) + 3 * (pr k / 5)) % 5 : Nat) = (2 * (pr k % 5) + 3 * (pr k / 5)) % 5 from rfl)
      generalize pr k % 5 = x at *
      generalize pr k / 5 = y at *
      generalize pr k = p at *
      have v1 : (x : Int) + 5 * (y : Int) = (p : Int) := by omega
      obtain ⟨q, hq⟩ : ∃ q, (2 * x + 3 * y) % 5 = q := ⟨_, rfl⟩
      rw [hq] at HY
      have v2 : (2 * (x : Int) + 3 * (y : Int)).tmod 5 = (q : Int) := by rw [Int.tmod_eq_emod_of_nonneg (by omega)]; omega
      have v3 : (2 * (x : Int) + 3 * (y : Int)) % 5 = (q : Int) := by omega
      have bp : (0 : Int) ≤ (p : Int) ∧ (p : Int) < 25 := by omega
      clear hq hz hp hmn HN
      go_wp2_with fail
      go_roundw
      case rel => exact ⟨k + 1, by go_num, by omega, by rw [HX.out], by rw [HY.out], HE.out⟩
      case measure => simp [intOf]; omega
    · obtain rfl : k = 24 := by omega
      have HS := Lib.hid hS; clear hS
      go_wp2_with fail
      go_ret
      exact ⟨rfl, HS.out⟩
end Go.Proofs.YtienelgkdhmelaaDoor
