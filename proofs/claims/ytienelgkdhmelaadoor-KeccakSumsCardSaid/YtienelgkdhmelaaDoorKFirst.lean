/- The contract of firstBytes. -/
import Derived.Test.YtienelgkdhmelaaDoorKPerm
import Derived.Test.YtienelgkdhmelaaDoorKText
namespace Go.Proofs.YtienelgkdhmelaaDoor
open Go.RowKit

/-- What firstBytes knows: the state's block, the sum's with k bytes. -/
structure FirstS (w : World) (f : Nat → Nat) (k : Nat) (W : World) : Prop where
  below : Below w.heap.size w W
  lan : W.heap[w.heap.size]? = some (.cells (blk .u64 25 f) 34 (0, 0))
  sum : W.heap[w.heap.size + 1]? = some (.cells (blk .u8 32 (til (outN f) (fun _ => 0) k)) 45 (0, 0))
theorem FirstS.step {w W : World} {f : Nat → Nat} {k : Nat} (h : FirstS w f k W) : FirstS w f (k + 1) (W.setCell ⟨w.heap.size + 1, k, none⟩ (.int .u8 (outN f k : Nat))) := by
  refine ⟨h.below.setCell (by simp) _, (heap_setCell_other _ _ _ _ (by simp)).trans h.lan, ?_⟩
  rw [heap_setCell_same _ _ _ _ _ _ h.sum, blk_set]
  congr 2
  exact blk_congr _ fun j _ => til_step _ _ _ _

set_option maxRecDepth 100000 in
set_option maxHeartbeats 1000000 in
theorem first_c (f : Nat → Nat) (w : World) :
    Calls Tryd.prog 14 #[.agg (blk .u64 25 f)] w fun e w' => e = .returned (.string (txt 32 (outN f))) ∧ Below w.heap.size w w' := by
  have hz1 : ∀ w : World, (zeroValue 45).run Tryd.prog w = .ok (.agg (blk .u8 32 fun _ => 0)) w := fun _ => by kernel_rfl
  have H0 := Lib.hid (show FirstS w f 0 ((w.alloc (.cells (blk .u64 25 f) 34)).alloc (.cells (blk .u8 32 fun _ => 0) 45)) from
    ⟨((Below.refl _ _).alloc (by omega) _).alloc (by simp) _, by rw [heap_down _ (by simp), heap_last _ rfl], by rw [heap_last _ (by simp), til_zero]⟩)
  go_enter Tryd.func14, Tryd.ntmps14
  go_wp2_with fail
  go_loopw [5] (fun i wr => ∃ k : Nat, i = .int .i64 k ∧ k ≤ 32 ∧ FirstS w f k wr) (fun i _ => 32 - (intOf i).toNat)
  case atStart => exact ⟨0, rfl, by omega, H0.out⟩
  case round =>
    clear H0
    obtain ⟨k, rfl, hk, hS⟩ := hrel
    by_cases hlt : k < 32
    · have hlti : (k : Int) < 32 := by omega
      have c0 := (cell_of hS.lan (k / 8)).trans (blk_at _ _ (by omega))
      have d0 := (cell_of hS.sum k).trans (blk_at _ _ (by omega))
      rw [til_at] at d0
      have e0 := free_of hS.sum k
      have HE := Lib.hid hS.step
      have q1 : (k : Int).tdiv 8 = ((k / 8 : Nat) : Int) := by rw [Int.tdiv_eq_ediv_of_nonneg (by omega)]; omega
      have q2 : (k : Int) / 8 = ((k / 8 : Nat) : Int) := by omega
      have r1 : (k : Int).tmod 8 = ((k % 8 : Nat) : Int) := by rw [Int.tmod_eq_emod_of_nonneg (by omega)]; omega
      have r2 : (k : Int) % 8 = ((k % 8 : Nat) : Int) := by omega
      have hq : k / 8 < 4 := by omega
      have hr : k % 8 < 8 := by omega
      have ho : IntKind.u8.wrap ((f (k / 8) : Int) / 2 ^ (8 * (k % 8))) = (outN f k : Nat) := by
        rw [IntKind.wrap_u8]; unfold outN; simp
      clear hS
      generalize outN f k = o at *
      generalize f (k / 8) = x at *
      generalize k / 8 = q at *
      generalize k % 8 = r at *
      have bq : (0 : Int) ≤ (q : Int) ∧ (q : Int) < 25 := by omega
      have hn : ((r : Int) * 8).toNat = 8 * r := by omega
      go_wp2_with fail
      go_roundw
      case rel => exact ⟨k + 1, by go_num, by omega, HE.out⟩
      case measure => simp [intOf]; omega
    · obtain rfl : k = 32 := by omega
      have hc := fun cap => conv_blk wr (w.heap.size + 1) 32 cap (outN f) (outN_lt f) 45 (by rw [hS.sum, blk_congr .u8 (g := outN f) fun j hj => til_lt hj])
      have HB := Lib.hid hS.below
      clear hS
      go_wp2_with fail
      go_ret
      exact ⟨rfl, HB.out⟩
end Go.Proofs.YtienelgkdhmelaaDoor
