/- Arrays of 25 lanes compared; slices of lanes. -/
import Derived.Test.YtienelgkdhmelaaDoorRows
import Derived.Test.YtienelgkdhmelaaDoorKRnd
import Derived.Test.YtienelgkdhmelaaDoorKPerm
import Derived.ChangeKeysEq
namespace Go.Proofs.YtienelgkdhmelaaDoor
open Go.RowKit

def sameB (f g : Nat → Nat) : Bool := (List.range 25).all fun i => f i == g i
theorem sameB_true {f g : Nat → Nat} (h : Same f g) : sameB f g = true := by
  unfold sameB
  rw [List.all_eq_true]
  intro i hi
  rw [h i (by simpa using hi)]
  exact beq_self_eq_true _
theorem sameB_same {f g : Nat → Nat} (h : sameB f g = true) : Same f g := fun i hi => by
  unfold sameB at h
  rw [List.all_eq_true] at h
  simpa using h i (by simpa using hi)
theorem eql_items (d : Nat) {n : Nat} (f g : Nat → Nat) (w : World) : ∀ l : List Nat, (∀ i ∈ l, i < n) →
    (Op.eqItems (d + 1) 26 1 (blk .u64 n f) (blk .u64 n g) l).run Tryd.prog w = .ok (l.all fun i => f i == g i) w
  | [], _ => by simp [Op.eqItems]
  | i :: l, hl => by
    have hi : i < n := hl i (by simp)
    have px : ∀ h : Nat → Nat, (part 26 (blk .u64 n h) (i * 1)).run Tryd.prog w = .ok (.int .u64 (h i : Nat)) w := fun h => by
      rw [Nat.mul_one]
      simp [part, isAgg, run_underlying Tryd.underlying26, blk_at .u64 h hi]
    have pe : (Op.equalIn (d + 1) 26 (.int .u64 (f i : Nat)) (.int .u64 (g i : Nat))).run Tryd.prog w = .ok (f i == g i) w := by
      rw [run_equalIn_int w d 26 .u64 .u64 _ _ Tryd.underlying26]
      congr 1
      rw [Bool.eq_iff_iff]
      simp [Int.natCast_inj]
    have ih := eql_items d f g w l fun j hj => hl j (by simp [hj])
    simp only [Op.eqItems, Sem.run_bind, px, pe, Result.andThen_ok, List.all_cons]
    cases hb : (f i == g i)
    · simp
    · simp only [Bool.not_true, Bool.false_eq_true, if_false, Bool.true_and]
      exact ih
theorem eql_blk (f g : Nat → Nat) (w : World) :
    (binOp .eql 27 (.agg (blk .u64 25 f)) (.agg (blk .u64 25 g))).run Tryd.prog w = .ok (.bool (sameB f g)) w := by
  have hi : (Tryd.prog.info? 26).isSome = true := by kernel_rfl
  obtain ⟨i, hi⟩ := Option.isSome_iff_exists.1 hi
  have hc : Tryd.prog.cellsOf 26 = 1 := by kernel_rfl
  rw [run_eql_struct, show (10000 : Nat) = 9998 + 1 + 1 from rfl, run_equalIn_array w (9998 + 1) _ _ Tryd.underlying27 hi, hc, eql_items 9998 f g w _ (by simp)]
  rfl

/-- A slice of lanes: its first len elements. -/
def Sl (p : Option Addr) (len : Nat) (g : Nat → Nat) (w : World) : Prop := 0 < len → ∃ b off, p = some ⟨b, off, none⟩ ∧ ∀ i, i < len → w.cell? ⟨b, off + i, none⟩ = some (.int .u64 (g i : Nat))
theorem Sl.later {p : Option Addr} {len : Nat} {g : Nat → Nat} {w W : World} (h : Sl p len g w) (hb : Below w.heap.size w W) : Sl p len g W := fun hl => by
  obtain ⟨b, off, e, hc⟩ := h hl
  exact ⟨b, off, e, fun i hi => cell_later hb (hc i hi)⟩
theorem row_later {W W' : World} {b : Nat} {o : Obj} (h : W.heap[b]? = some o) (hb : Below W.heap.size W W') : W'.heap[b]? = some o := (hb.block _ (lt_of h)).trans h
theorem row_old {W : World} {b : Nat} {o o' : Obj} (h : W.heap[b]? = some o) (X : Array Value) : ((W.alloc o').setRow W.heap.size X).heap[b]? = some o := by
  have := lt_of h
  rw [row_setRow_other (by omega), heap_down _ this, h]
theorem row_new (W : World) (c X : Array Value) (t : TypeId) : ((W.alloc (.cells c t)).setRow W.heap.size X).heap[W.heap.size]? = some (.cells X t (0, 0)) := row_setRow (heap_last _ rfl)
theorem Below.new {B : Nat} {w W : World} (h : Below B w W) (hB : B ≤ W.heap.size) (o : Obj) (X : Array Value) : Below B w ((W.alloc o).setRow W.heap.size X) := Below.setRow' (h.alloc hB _) hB _
end Go.Proofs.YtienelgkdhmelaaDoor
