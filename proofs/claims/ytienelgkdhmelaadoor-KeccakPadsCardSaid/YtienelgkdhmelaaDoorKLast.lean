/- The contract of lastBlock. -/
import Derived.Test.YtienelgkdhmelaaDoorKPerm
import Derived.Test.YtienelgkdhmelaaDoorKText
import Derived.Test.YtienelgkdhmelaaDoorKNext
namespace Go.Proofs.YtienelgkdhmelaaDoor
open Go.RowKit

def padA (s : ByteArray) (j : Nat) : Nat := if j < s.size then byteAt s j else 0
def padB (s : ByteArray) : Nat → Nat := upd (padA s) s.size (padA s s.size ^^^ 1)
theorem padB_end (s : ByteArray) {j : Nat} (hj : j < 136) : upd (padB s) 135 (padB s 135 ^^^ 128) j = padN (byteAt s) s.size j := by
  have h1 : ∀ j, padB s j = if j < s.size then byteAt s j else if j = s.size then 1 else 0 := by
    intro j
    unfold padB upd padA
    by_cases e : j = s.size
    · rw [if_pos e, if_neg (by omega), if_neg (by omega), if_pos e]; rfl
    · rw [if_neg e]
      by_cases e2 : j < s.size
      · rw [if_pos e2, if_pos e2]
      · rw [if_neg e2, if_neg e2, if_neg e]
  unfold upd padN
  by_cases e : j = 135
  · subst e; rw [if_pos rfl, if_pos rfl, h1]
  · rw [if_neg e, if_neg e, h1, Nat.xor_zero]
theorem copied (s : ByteArray) (hs : s.size < 136) :
    ((blk .u8 136 fun _ => 0).toList.take 0 ++ Lib.byteCells s.data.toList ++ (blk .u8 136 fun _ => 0).toList.drop (0 + s.size)).toArray = blk .u8 136 (padA s) := by
  apply Array.ext_getElem?
  intro j
  have hl : s.data.size = s.size := rfl
  by_cases hj : j < 136
  · rw [blk_at _ _ hj]
    unfold padA
    by_cases e : j < s.size
    · rw [if_pos e]
      simp [Lib.byteCells, List.getElem?_append, hl, e, byteAt, ByteArray.getElem_eq_getElem_data]
    · rw [if_neg e]
      have e2 : s.size + (j - s.size) = j := by omega
      simp [Lib.byteCells, List.getElem?_append, hl, e, e2, blk, hj]
  · rw [blk_none _ _ (by omega)]
    have e : ¬ j < s.size := by omega
    have e2 : s.size + (j - s.size) = j := by omega
    simp [Lib.byteCells, List.getElem?_append, hl, e, e2, blk]
    omega

set_option maxRecDepth 100000 in
set_option maxHeartbeats 1000000 in
theorem last_c {s : ByteArray} (hs : s.size < 136) (w : World) :
    Calls Tryd.prog 15 #[.string s] w fun e w' => e = .returned (.string (txt 136 (padN (byteAt s) s.size))) ∧ Below w.heap.size w w' := by
  have hz1 : ∀ w : World, (zeroValue 46).run Tryd.prog w = .ok (.agg (blk .u8 136 fun _ => 0)) w := fun _ => by kernel_rfl
  have hc := Lib.run_copy_row_string (P := Tryd.prog) (w.alloc (.cells (blk .u8 136 fun _ => 0) 46)) 32 9 3 5 w.heap.size 0 136 136 s (blk .u8 136 fun _ => 0) 46 Tryd.underlying32 (by kernel_rfl) (heap_last _ rfl) (by omega) (by rw [blk_size]; omega)
  rw [copied s hs] at hc
  have hw1 : ((w.alloc (.cells (blk .u8 136 fun _ => 0) 46)).setRow w.heap.size (blk .u8 136 (padA s))).heap[w.heap.size]? = some (.cells (blk .u8 136 (padA s)) 46 (0, 0)) := row_setRow (heap_last _ rfl)
  have HB := Lib.hid (Below.setRow' ((Below.refl w.heap.size w).alloc (by omega) (.cells (blk .u8 136 fun _ => 0) 46)) (Nat.le_refl _) (blk .u8 136 (padA s)))
  generalize (w.alloc (.cells (blk .u8 136 fun _ => 0) 46)).setRow w.heap.size (blk .u8 136 (padA s)) = W1 at *
  have ha := fun j hj => padB_end s (j := j) hj
  have hb : ∀ j, padA s j < 256 := fun j => by
    unfold padA
    split
    · exact byteAt_lt s j
    · omega
  have hbb : ∀ j, padB s j < 256 := fun j => by
    unfold padB upd
    split
    · exact Nat.xor_lt_two_pow (n := 8) (hb _) (by omega)
    · exact hb j
  have c0 := (cell_of hw1 s.size).trans (blk_at _ _ hs)
  have e0 := free_of hw1 s.size
  have x0 := u8_xor (hb s.size) (y := 1) (by omega)
  have hw2 : (W1.setCell ⟨w.heap.size, s.size, none⟩ (.int .u8 (padA s s.size ^^^ 1 : Nat))).heap[w.heap.size]? = some (.cells (blk .u8 136 (padB s)) 46 (0, 0)) := by
    rw [heap_setCell_same _ _ _ _ _ _ hw1, blk_set]; rfl
  have c1 := (cell_of hw2 135).trans (blk_at _ _ (by omega))
  have e1 := free_of hw2 135
  have x1 := u8_xor (hbb 135) (y := 128) (by omega)
  have hw3 : ((W1.setCell ⟨w.heap.size, s.size, none⟩ (.int .u8 (padA s s.size ^^^ 1 : Nat))).setCell ⟨w.heap.size, 135, none⟩ (.int .u8 (padB s 135 ^^^ 128 : Nat))).heap[w.heap.size]? = some (.cells (blk .u8 136 (padN (byteAt s) s.size)) 46 (0, 0)) := by
    rw [heap_setCell_same _ _ _ _ _ _ hw2, blk_set, blk_congr .u8 (g := padN (byteAt s) s.size) fun j hj => ha j hj]
  have hv := fun cap => conv_blk _ w.heap.size 136 cap _ (padN_lt (byteAt_lt s) s.size) 46 hw3
  have HF := Lib.hid ((HB.out.setCell (p := ⟨w.heap.size, s.size, none⟩) (Nat.le_refl _) (.int .u8 (padA s s.size ^^^ 1 : Nat))).setCell (p := ⟨w.heap.size, 135, none⟩) (Nat.le_refl _) (.int .u8 (padB s 135 ^^^ 128 : Nat)))
  clear ha hw1 hw2 hw3 HB hb hbb
  replace x0 : Go.bits .xor .u8 (padA s s.size : Int) 1 = (padA s s.size ^^^ 1 : Nat) := x0
  replace x1 : Go.bits .xor .u8 (padB s 135 : Int) 128 = (padB s 135 ^^^ 128 : Nat) := x1
  generalize padB s 135 ^^^ 128 = y1 at *
  generalize padB s 135 = y0 at *
  generalize padA s s.size ^^^ 1 = z1 at *
  generalize padA s s.size = z0 at *
  go_enter Tryd.func15, Tryd.ntmps15
  go_wp2_with fail
  go_ret
  exact ⟨rfl, HF.out⟩
end Go.Proofs.YtienelgkdhmelaaDoor
