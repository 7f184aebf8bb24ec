/- The contract of Permute. -/
import Derived.Test.YtienelgkdhmelaaDoorKTurn
namespace Go.Proofs.YtienelgkdhmelaaDoor
open Go.RowKit

def permN (f : Nat → Nat) : Nat → Nat := stN f 24
theorem permN_lt {f : Nat → Nat} (hf : ∀ i, f i < M64) (i : Nat) : permN f i < M64 := stN_lt hf 24 i
theorem row_setRow {w : World} {b : Nat} {cs cs' : Array Value} {t : TypeId} {fr : Nat × Nat} (h : w.heap[b]? = some (.cells cs t fr)) : (w.setRow b cs').heap[b]? = some (.cells cs' t fr) := by
  simp [World.setRow, Array.getElem?_modify, h]
theorem row_setRow_other {w : World} {b g : Nat} {cs' : Array Value} (h : ¬ b = g) : (w.setRow g cs').heap[b]? = w.heap[b]? := by
  have h' : ¬ g = b := fun e => h e.symm
  simp [World.setRow, Array.getElem?_modify, h']
theorem Below.setRow' {B g : Nat} {a w : World} (h : Below B a w) (hB : B ≤ g) (cs : Array Value) : Below B a (w.setRow g cs) :=
  ⟨h.os, h.tape, h.output, by have := h.size; simpa [World.setRow] using this, fun k hk => (row_setRow_other (by omega)).trans (h.block k hk)⟩
theorem heap_last {w : World} {n : Nat} (o : Obj) (h : n = w.heap.size) : (w.alloc o).heap[n]? = some o := by rw [heap_alloc_get, if_pos h]
theorem heap_down {w : World} {n : Nat} (o : Obj) (h : n < w.heap.size) : (w.alloc o).heap[n]? = w.heap[n]? := by rw [heap_alloc_get, if_neg (by omega)]

/-- What Permute has made ahead of its rounds. -/
structure PermS (w : World) (f : Nat → Nat) (W : World) : Prop where
  below : Below w.heap.size w W
  size : W.heap.size = w.heap.size + 1 + 1 + 1 + 1
  out : W.heap[w.heap.size + 1]? = some (.cells (blk .u64 25 fun _ => 0) 27)
  lan : W.heap[w.heap.size + 1 + 1]? = some (.cells (blk .u64 25 f) 34)
  reg : W.heap[w.heap.size + 1 + 1 + 1]? = some (.cells #[.int .u8 1] 37)
theorem permS (w : World) (f : Nat → Nat) : PermS w f ((((((w.alloc (.cells (blk .u64 25 f) 27)).alloc (.cells (blk .u64 25 fun _ => 0) 27)).alloc (.cells (blk .u64 25 fun _ => 0) 34)).alloc (.cells #[.int .u8 0] 37)).setRow (w.heap.size + 1 + 1) (blk .u64 25 f)).setCell ⟨w.heap.size + 1 + 1 + 1, 0, none⟩ (.int .u8 1)) := by
  have z0 : ∀ (W : World) (o : Obj), (W.alloc o).heap.size = W.heap.size + 1 := alloc_size
  refine ⟨(Below.setRow' ((((((Below.refl _ _).alloc (by omega) _).alloc (by simp [z0]) _).alloc (by simp [z0]; omega) _).alloc (by simp [z0]; omega) _)) (by omega) _).setCell (by simp; omega) _, ?_, ?_, ?_, ?_⟩
  · simp [World.setCell, World.setRow, z0]
  · rw [heap_setCell_other _ _ _ _ (by simp), row_setRow_other (by omega), heap_down _ (by simp [z0]), heap_down _ (by simp [z0]), heap_last _ (by simp [z0])]
  · rw [heap_setCell_other _ _ _ _ (by simp)]
    refine row_setRow (cs := blk .u64 25 fun _ => 0) ?_
    rw [heap_down _ (by simp [z0]), heap_last _ (by simp [z0])]
  · refine (heap_setCell_same _ _ 0 #[.int .u8 0] _ (.int .u8 1) ?_).trans rfl
    rw [row_setRow_other (by omega), heap_last _ (by simp [z0])]
theorem PermS.start {w W : World} {f : Nat → Nat} (h : PermS w f W) : TurnS W (w.heap.size + 1 + 1) (w.heap.size + 1 + 1 + 1) f 1 W := ⟨Only.refl _ _ _, h.lan, h.reg⟩

set_option maxRecDepth 100000 in
set_option maxHeartbeats 4000000 in
theorem perm_c {f : Nat → Nat} (hf : ∀ i, f i < M64) (w : World) (hT : Walk w) :
    Calls Tryd.prog 11 #[.agg (blk .u64 25 f)] w fun e w' => e = .returned (.agg (blk .u64 25 (permN f))) ∧ Below w.heap.size w w' := by
  have hz1 : ∀ w : World, (zeroValue 27).run Tryd.prog w = .ok (.agg (blk .u64 25 fun _ => 0)) w := fun _ => by kernel_rfl
  have hz2 : ∀ w : World, (zeroValue 34).run Tryd.prog w = .ok (.agg (blk .u64 25 fun _ => 0)) w := fun _ => by kernel_rfl
  have HK1 := Lib.hid (fun g => show (Tryd.prog.info? 27).map (·.size) = some (blk .u64 25 g).size by rw [blk_size]; kernel_rfl)
  have HZ := Lib.hid (fun g => show (Tryd.prog.info? 34).map (·.size) = some (blk .u64 25 g).size by rw [blk_size]; kernel_rfl)
  have HO := Lib.hid (blk_one .u64 25)
  have HT := Lib.hid hT; clear hT
  have HS := Lib.hid (permS w f)
  have z0 : ∀ (W : World) (o : Obj), (W.alloc o).heap.size = W.heap.size + 1 := alloc_size
  have HL := Lib.hid (show ((w.alloc (.cells (blk .u64 25 f) 27)).alloc (.cells (blk .u64 25 fun _ => 0) 27)).heap[w.heap.size]? = some (.cells (blk .u64 25 f) 27) by rw [heap_down _ (by simp [z0]), heap_last _ rfl])
  have HM := Lib.hid (show ((((w.alloc (.cells (blk .u64 25 f) 27)).alloc (.cells (blk .u64 25 fun _ => 0) 27)).alloc (.cells (blk .u64 25 fun _ => 0) 34)).alloc (.cells #[.int .u8 0] 37)).heap[w.heap.size + 1 + 1]? = some (.cells (blk .u64 25 fun _ => 0) 34) by rw [heap_down _ (by simp [z0]), heap_last _ (by simp [z0])])
  have hr : (((((w.alloc (.cells (blk .u64 25 f) 27)).alloc (.cells (blk .u64 25 fun _ => 0) 27)).alloc (.cells (blk .u64 25 fun _ => 0) 34)).alloc (.cells #[.int .u8 0] 37)).setRow (w.heap.size + 1 + 1) (blk .u64 25 f)).heap[w.heap.size + 1 + 1 + 1]? = some (.cells #[.int .u8 0] 37) := by rw [row_setRow_other (by omega), heap_last _ (by simp [z0])]
  have c0 : (((((w.alloc (.cells (blk .u64 25 f) 27)).alloc (.cells (blk .u64 25 fun _ => 0) 27)).alloc (.cells (blk .u64 25 fun _ => 0) 34)).alloc (.cells #[.int .u8 0] 37)).setRow (w.heap.size + 1 + 1) (blk .u64 25 f)).cell? ⟨w.heap.size + 1 + 1 + 1, 0, none⟩ = some (.int .u8 0) := cell_of hr 0
  have e0 := free_of hr 0
  clear z0 hr
  go_enter Tryd.func11, Tryd.ntmps11
  go_wp2_with (first | (refine wpList_load_row rfl 27 (.tmp 1) rfl w.heap.size rfl 27 (blk .u64 25 f) (0, 0) _ HL.out Tryd.underlying27 rfl (HK1.out f) ?_) | (refine wpList_store_row rfl 34 (.tmp 3) (.tmp 5) rfl (w.heap.size + 1 + 1) (blk .u64 25 f) rfl rfl 34 (blk .u64 25 fun _ => 0) HM.out (HZ.out f) (by rw [blk_size, blk_size]) (HO.out f) ?_))
  clear c0 e0 HL HM
  generalize ((((((w.alloc (.cells (blk .u64 25 f) 27)).alloc (.cells (blk .u64 25 fun _ => 0) 27)).alloc (.cells (blk .u64 25 fun _ => 0) 34)).alloc (.cells #[.int .u8 0] 37)).setRow (w.heap.size + 1 + 1) (blk .u64 25 f)).setCell ⟨w.heap.size + 1 + 1 + 1, 0, none⟩ (.int .u8 1)) = W at *
  have hT' : Walk W := by
    obtain ⟨t, fr, ht⟩ := HT.out
    exact ⟨t, fr, (HS.out.below.block 0 (lt_of ht)).trans ht⟩
  refine (turn_c hf W (by omega) (by omega) (by omega) HS.out.start hT').mono ?_
  rintro e w1 ⟨rfl, h1⟩
  have hl : w1.heap[w.heap.size + 1 + 1]? = some (.cells (blk .u64 25 (stN f 24)) 34) := h1.lan
  have ho : w1.heap[w.heap.size + 1]? = some (.cells (blk .u64 25 fun _ => 0) 27) := (h1.only.block _ (by have := HS.out.size; omega) (by omega)).trans HS.out.out
  have HB := Lib.hid (HS.out.below.trans (h1.only.below (B' := w.heap.size) (by have := HS.out.size; omega) (fun k hk => by omega)))
  have HL := Lib.hid hl
  have HM := Lib.hid ho
  clear h1 hl ho HS hT'
  go_wp2_with (first | (refine wpList_load_row rfl 34 (.tmp 3) rfl (w.heap.size + 1 + 1) rfl 34 (blk .u64 25 (stN f 24)) (0, 0) _ HL.out Tryd.underlying34 rfl (HZ.out _) ?_) | (refine wpList_store_row rfl 27 (.tmp 2) (.tmp 8) rfl (w.heap.size + 1) (blk .u64 25 (stN f 24)) rfl rfl 27 (blk .u64 25 fun _ => 0) HM.out (HK1.out _) (by rw [blk_size, blk_size]) (HO.out _) ?_))
  exact bodyPost_ret (results_cell_row Tryd.results11 _ _ _ _ _ _ _ rfl (row_setRow HM.out) Tryd.underlying27 rfl (HK1.out _)) rfl ⟨rfl, Below.setRow' HB.out (by omega) _⟩
end Go.Proofs.YtienelgkdhmelaaDoor
