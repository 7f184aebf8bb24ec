/- The contract of Table. -/
import Derived.Test.YtialfpkmcafkmaaGreatCb
import Derived.StillTailTactics
namespace Go.Proofs.YtialfpkmcafkmaaGreat
open Go.RowKit

theorem row_setRow {w : World} {b : Nat} {cs cs' : Array Value} {t : TypeId} {fr : Nat × Nat} (h : w.heap[b]? = some (.cells cs t fr)) : (w.setRow b cs').heap[b]? = some (.cells cs' t fr) := by
  simp [World.setRow, Array.getElem?_modify, h]
theorem row_setRow_other {w : World} {b g : Nat} {cs' : Array Value} (h : ¬ b = g) : (w.setRow g cs').heap[b]? = w.heap[b]? := by
  have h' : ¬ g = b := fun e => h e.symm
  simp [World.setRow, Array.getElem?_modify, h']
theorem Below.setRow' {B g : Nat} {a w : World} (h : Below B a w) (hB : B ≤ g) (cs : Array Value) : Below B a (w.setRow g cs) :=
  ⟨h.os, h.tape, h.output, by have := h.size; simpa [World.setRow] using this, fun k hk => (row_setRow_other (by omega)).trans (h.block k hk)⟩
theorem heap_last {w : World} {n : Nat} (o : Obj) (h : n = w.heap.size) : (w.alloc o).heap[n]? = some o := by rw [heap_alloc_get, if_pos h]
theorem heap_down {w : World} {n : Nat} (o : Obj) (h : n < w.heap.size) : (w.alloc o).heap[n]? = w.heap[n]? := by rw [heap_alloc_get, if_neg (by omega)]

/-- The lowest bit of b. -/
def lowN (b : Nat) : Nat := (BitVec.ofNat 64 b &&& - BitVec.ofNat 64 b).toNat
theorem low_bits : ∀ b : Fin 256, Go.bits .and .i64 ((b.val : Nat) : Int) (-((b.val : Nat) : Int)) = ((lowN b.val : Nat) : Int) := by decide +kernel
theorem low_xor : ∀ b : Fin 256, Go.bits .xor .i64 ((b.val : Nat) : Int) ((lowN b.val : Nat) : Int) = ((b.val ^^^ lowN b.val : Nat) : Int) := by decide +kernel
theorem low_lt : ∀ b : Fin 256, b.val ≠ lowN b.val → lowN b.val < b.val ∧ b.val ^^^ lowN b.val < b.val := by decide +kernel

/-- The table. -/
def tabN (b : Nat) : Nat := mvk 8 b
theorem tab_lt {b : Nat} (h : b < 256) : tabN b < 2 ^ 32 := mvk_lt 8 (by omega)
theorem tab_low (b : Nat) : tabN (lowN b) ^^^ tabN (b ^^^ lowN b) = tabN b := by
  unfold tabN
  rw [← mvk_xor, Nat.xor_comm b, xor_twice]

/-- What Table knows behind k entries. -/
structure TabS (w : World) (k : Nat) (W : World) : Prop where
  below : Below w.heap.size w W
  out : W.heap[w.heap.size]? = some (.cells (blk .u32 256 fun _ => 0) 93 (0, 0))
  tab : W.heap[w.heap.size + 1]? = some (.cells (blk .u32 256 (til tabN (fun _ => 0) k)) 93 (0, 0))
theorem TabS.step {w W : World} {k : Nat} (h : TabS w k W) : TabS w (k + 1) (W.setCell ⟨w.heap.size + 1, k, none⟩ (.int .u32 (tabN k : Nat))) := by
  refine ⟨h.below.setCell (by simp) _, (heap_setCell_other _ _ _ _ (by simp)).trans h.out, ?_⟩
  rw [heap_setCell_same _ _ _ _ _ _ h.tab, blk_set]
  congr 2
  exact blk_congr _ fun j _ => til_step _ _ _ _
theorem TabS.drew {w W : World} {k : Nat} (h : TabS w k W) : TabS w k W.drew := ⟨h.below.drew, h.out, h.tab⟩

set_option maxRecDepth 100000 in
set_option maxHeartbeats 2000000 in
theorem table_c (w : World) :
    Calls Tryz.prog 64 #[] w fun e w' => e = .returned (.agg (blk .u32 256 tabN)) ∧ Below w.heap.size w w' := by
  have hz1 : ∀ w : World, (zeroValue 93).run Tryz.prog w = .ok (.agg (blk .u32 256 fun _ => 0)) w := fun _ => by kernel_rfl
  have H0 := Lib.hid (show TabS w 0 ((w.alloc (.cells (blk .u32 256 fun _ => 0) 93)).alloc (.cells (blk .u32 256 fun _ => 0) 93)) from
    ⟨((Below.refl _ _).alloc (by omega) _).alloc (by simp) _, by rw [heap_down _ (by simp), heap_last _ rfl], by rw [heap_last _ (by simp), til_zero]⟩)
  go_enter Tryz.func64, Tryz.ntmps64
  go_wp2_with fail
  go_loopw [4] (fun i wr => ∃ k : Nat, i = .int .i64 k ∧ k ≤ 256 ∧ TabS w k wr) (fun i _ => 256 - (intOf i).toNat)
  case atStart => exact ⟨0, rfl, by omega, H0.out⟩
  case round =>
    clear H0
    obtain ⟨k, rfl, hk, hS⟩ := hrel
    by_cases hlt : k < 256
    · have hlti : (k : Int) < 256 := by omega
      have b1 := low_bits ⟨k, hlt⟩
      have b2 := low_xor ⟨k, hlt⟩
      have b3 := low_lt ⟨k, hlt⟩
      simp only at b1 b2 b3
      have d0 := (cell_of hS.tab k).trans (blk_at _ _ hlt)
      rw [til_at] at d0
      have e0 := free_of hS.tab k
      by_cases hlow : k = lowN k
      · have R := Lib.hid (fun W => moved_c (show k < 2 ^ 32 by omega) W)
        have HE := Lib.hid hS.step
        have hw : IntKind.u32.wrap (k : Int) = (k : Int) := wrap32 (by omega)
        rw [show mvk 8 k = tabN k from rfl] at R
        rw [← hlow] at b1
        clear hS b2 b3 hlow
        generalize tabN k = z at *
        go_wp2_with (go_at_call 81; refine (R.out _).mono ?_)
        rintro e W ⟨rfl, rfl⟩
        clear R
        go_wp2_with fail
        go_roundw
        case rel => exact ⟨k + 1, by go_num, by omega, HE.out⟩
        case measure => simp [intOf]; omega
      · obtain ⟨l1, l2⟩ := b3 hlow
        have c1 := (cell_of hS.tab (lowN k)).trans (blk_at _ _ (show lowN k < 256 by omega))
        rw [til_lt l1] at c1
        have c2 := (cell_of hS.tab (k ^^^ lowN k)).trans (blk_at _ _ (show k ^^^ lowN k < 256 by omega))
        rw [til_lt l2] at c2
        have x0 := xor32 (tab_lt (show lowN k < 256 by omega)) (tab_lt (show k ^^^ lowN k < 256 by omega))
        rw [tab_low] at x0
        have HE := Lib.hid hS.drew.step
        have hd : ((k : Int) == (lowN k : Int)) = false := by rw [beq_eq_false_iff_ne]; omega
        have i1 : (0 : Int) ≤ (lowN k : Int) ∧ (lowN k : Int) < 256 := by omega
        have i2 : (0 : Int) ≤ (k ^^^ lowN k : Nat) ∧ ((k ^^^ lowN k : Nat) : Int) < 256 := by omega
        have i0 : (0 : Int) ≤ (k : Int) ∧ (k : Int) < 256 := by omega
        clear hS hlow
        generalize tabN (lowN k) = p at *
        generalize tabN (k ^^^ lowN k) = q at *
        generalize tabN k = z at *
        generalize k ^^^ lowN k = m at *
        generalize lowN k = l at *
        go_wp2_with fail
        go_still_tail 11, (by kernel_rfl)
        go_wp2_with fail
        go_roundw
        case rel => exact ⟨k + 1, by go_num, by omega, HE.out⟩
        case measure => simp [intOf]; omega
    · obtain rfl : k = 256 := by omega
      have HB := Lib.hid hS.below
      have HL := Lib.hid hS.tab
      have HM := Lib.hid hS.out
      have HZ := Lib.hid (fun g => show (Tryz.prog.info? 93).map (·.size) = some (blk .u32 256 g).size by rw [blk_size]; kernel_rfl)
      have HO := Lib.hid (blk_one .u32 256)
      rw [blk_congr .u32 (g := tabN) fun j hj => til_lt hj] at HL
      clear hS
      go_wp2_with (first | (refine wpList_load_row rfl 93 (.tmp 1) rfl (w.heap.size + 1) rfl 93 (blk .u32 256 tabN) (0, 0) _ HL.out Tryz.underlying93 rfl (HZ.out _) ?_) | (refine wpList_store_row rfl 93 (.tmp 0) (.tmp 31) rfl w.heap.size (blk .u32 256 tabN) rfl rfl 93 (blk .u32 256 fun _ => 0) HM.out (HZ.out _) (by rw [blk_size, blk_size]) (HO.out _) ?_))
      exact bodyPost_ret (results_cell_row Tryz.results64 _ _ _ _ _ _ _ rfl (row_setRow HM.out) Tryz.underlying93 rfl (HZ.out _)) rfl ⟨rfl, Below.setRow' HB.out (by omega) _⟩
end Go.Proofs.YtialfpkmcafkmaaGreat
