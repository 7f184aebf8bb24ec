/- The contract of the reference's moved. -/
import Derived.Test.YtofoiifckkafcaaDoorRefM
import Derived.RegionTactic
namespace Go.Proofs.YtofoiifckkafcaaDoor
open Go.RowKit Go.Joins
attribute [local go_sem ↓] Go.wp_at_zero Go.wp_at_succ

def rowArr (b : Nat → Nat) : Array Value := ((List.range 32).map fun j => Value.int .i64 (b j : Nat)).toArray
theorem rowArr_at (b : Nat → Nat) (j : Nat) (hj : j < 32) : (rowArr b)[j]? = some (.int .i64 (b j : Nat)) := by simp [rowArr, hj]
theorem rowArr_set (b : Nat → Nat) (q v : Nat) (_ : q < 32) : (rowArr b).setIfInBounds q (.int .i64 (v : Nat)) = rowArr (fun j => if j = q then v else b j) := by
  apply Array.ext_getElem?
  intro j
  rw [Array.getElem?_setIfInBounds]
  by_cases hj : j < 32
  · rw [rowArr_at _ _ hj, rowArr_at _ _ hj]
    by_cases e : q = j
    · subst e; simp [rowArr]; omega
    · rw [if_neg e, if_neg (Ne.symm e)]
  · have h1 : (rowArr b)[j]? = none := by simp [rowArr]; omega
    have h2 : (rowArr (fun j => if j = q then v else b j))[j]? = none := by simp [rowArr]; omega
    rw [h1, h2, if_neg (by omega)]
theorem rowArr_congr {a b : Nat → Nat} (h : ∀ j, j < 32 → a j = b j) : rowArr a = rowArr b := by
  unfold rowArr
  congr 1
  apply List.map_congr_left
  intro j hj
  rw [h j (by simpa using hj)]

/-- What moved knows: all is as it was but its own row. -/
def MovedS (w1 : World) (b : Nat → Nat) (W : World) : Prop := Below w1.heap.size w1 W ∧ W.heap[w1.heap.size]? = some (.cells (rowArr b) 3 (0, 0))

theorem MovedS.step {w1 W : World} {f : Nat → Nat} {k : Nat} (h : MovedS w1 (byteOf (bitsTo f k)) W) (hf : ∀ i, f i ≤ 1) (hk : k < 256) :
    MovedS w1 (byteOf (bitsTo f (k + 1))) (W.setCell ⟨w1.heap.size, k / 8, none⟩ (.int .i64 ((byteOf (bitsTo f k) (k / 8) + f k * 2 ^ (k % 8) : Nat) : Int))) := by
  refine ⟨h.1.setCell (by simp) _, ?_⟩
  rw [heap_setCell_same _ _ _ _ _ _ h.2, rowArr_set _ _ _ (by omega)]
  congr 2
  apply rowArr_congr
  intro j hj
  simp only [bitsTo]
  rw [(byte_grow (q := j) (bitsTo_lt hf k) (hf k)).1]
  split
  · rename_i e; subst e; rfl
  · rfl

set_option maxRecDepth 100000 in
set_option maxHeartbeats 4000000 in
theorem moved_c {x a3 a2 a1 a0 fill : Nat} {n : Int} (hx : Dig x a0 a1 a2 a3) (hn1 : -256 ≤ n) (hn2 : n ≤ 256) (hfl : fill ≤ 1) (w : World) :
    Calls Tryd.prog 67 #[.agg #[.int .u64 a3, .int .u64 a2, .int .u64 a1, .int .u64 a0], .int .i64 n, .int .i64 fill] w (RetD (bitsTo (movedBit x n fill) 256) w) := by
  have H := (((Fx.start w).new #[.int .u64 a3, .int .u64 a2, .int .u64 a1, .int .u64 a0] 24).new #[.int .u64 0, .int .u64 0, .int .u64 0, .int .u64 0] 24).1
  have HX := Lib.hid hx; clear hx
  have hmk : ∀ w : World, (Instr.makeSlice 47 (.int .i64 32) (.int .i64 32)).run Tryd.prog w = .ok (.slice (some ⟨w.heap.size, 0, none⟩) 32 32) (w.alloc (.cells (rowArr fun _ => 0) 3)) := fun _ => by kernel_rfl
  have hz0 : (rowArr fun _ => 0) = rowArr (byteOf (bitsTo (movedBit x n fill) 0)) := rowArr_congr fun j _ => by simp [bitsTo, byteOf]
  have HZ := Lib.hid hz0; clear hz0
  go_enter Tryd.func67, Tryd.ntmps67
  go_wp2_with fail
  refine (Digits_b HX.out _).mono ?_
  rintro e w1 ⟨v, rfl, hv, hb1⟩
  have H1 := Lib.hid (H.call hb1)
  have HV := Lib.hid hv
  have H0 := Lib.hid (show MovedS w1 (byteOf (bitsTo (movedBit x n fill) 0)) (w1.alloc (.cells (rowArr fun _ => 0) 3)) from ⟨(Below.refl _ _).alloc (Nat.le_refl _) _, by rw [← HZ.out]; exact heap_alloc_new _ _⟩)
  clear hb1 H hv HZ
  go_wp2_with fail
  clear hmk
  go_loopw [9] (fun i wr => ∃ k : Nat, i = .int .i64 k ∧ k ≤ 256 ∧ MovedS w1 (byteOf (bitsTo (movedBit x n fill) k)) wr) (fun i _ => 256 - (intOf i).toNat)
  case atStart => exact ⟨0, rfl, by omega, H0.out⟩
  case round =>
    clear H0
    obtain ⟨k, rfl, hk, hS⟩ := hrel
    by_cases hlt : k < 256
    · have hml := movedBit_le (x := x) (n := n) hfl
      obtain ⟨_, q2, q3⟩ := byte_grow (q := 0) (bitsTo_lt hml k) (hml k)
      have HE := Lib.hid (hS.step hml hlt)
      have hc := (cell_of hS.2 (k / 8)).trans (rowArr_at _ _ (by omega))
      have hf := free_of hS.2 (k / 8)
      have ho : Go.bits .or .i64 ((byteOf (bitsTo (movedBit x n fill) k) (k / 8) : Nat) : Int) ((movedBit x n fill k * 2 ^ (k % 8) : Nat) : Int) = ((byteOf (bitsTo (movedBit x n fill) k) (k / 8) + movedBit x n fill k * 2 ^ (k % 8) : Nat) : Int) := by
        rw [i64_or_nat _ _ (by omega) (by omega), or_add _ _ _ q2]
      have hsh : IntKind.i64.wrap ((movedBit x n fill k : Int) * 2 ^ (k % 8)) = ((movedBit x n fill k * 2 ^ (k % 8) : Nat) : Int) := by
        rw [show ((movedBit x n fill k : Int) * 2 ^ (k % 8)) = ((movedBit x n fill k * 2 ^ (k % 8) : Nat) : Int) by simp]
        exact IntWalk.i64_in _ (by omega)
      have hsh2 : wrap64 ((movedBit x n fill k : Int) * 2 ^ (k % 8)) = ((movedBit x n fill k * 2 ^ (k % 8) : Nat) : Int) := by
        rw [show ((movedBit x n fill k : Int) * 2 ^ (k % 8)) = ((movedBit x n fill k * 2 ^ (k % 8) : Nat) : Int) by simp]
        exact IntWalk.wrap64_in _ ⟨by omega, by omega⟩
      have hk0 : (0 : Int) ≤ (k : Int) ∧ (k : Int) < 256 := by omega
      have g5 : (0 : Int) ≤ (k : Int) / 8 := by omega
      have g6 : (k : Int) / 8 < 32 := by omega
      have hwk : IntKind.i64.wrap ((k : Int) + n) = (k : Int) + n := IntWalk.i64_in _ (by omega)
      have HMV := Lib.hid (show movedBit x n fill k = if 0 ≤ (k : Int) + n ∧ (k : Int) + n < 256 then x / 2 ^ ((k : Int) + n).toNat % 2 else fill from rfl)
      have hle1 := hml k
      have HS := Lib.hid hS
      have HV2 := Lib.hid (HV.out.call hS.1)
      clear hS q2 q3 hml
      generalize byteOf (bitsTo (movedBit x n fill) k) (k / 8) + movedBit x n fill k * 2 ^ (k % 8) = z at *
      generalize movedBit x n fill k * 2 ^ (k % 8) = z0 at *
      generalize byteOf (bitsTo (movedBit x n fill) k) (k / 8) = o at *
      generalize movedBit x n fill k = f at *
      have hlti : (k : Int) < 256 := by omega
      by_cases hin : 0 ≤ (k : Int) + n ∧ (k : Int) + n < 256
      · have hfe := HMV.out
        rw [if_pos hin] at hfe
        obtain ⟨m, hm⟩ : ∃ m : Nat, (k : Int) + n = (m : Int) := ⟨((k : Int) + n).toNat, by omega⟩
        rw [hm, Int.toNat_natCast] at hfe
        obtain ⟨i1, i2⟩ := hin
        rw [hm] at i1 i2 hwk
        have hb1 : decide ((0 : Int) ≤ (k : Int) + n) = true := by simp; omega
        have hb2 : decide ((k : Int) + n < 256) = true := by simp; omega
        rw [hm] at hb1 hb2
        have BT := Lib.hid (fun W hW => bit_c (x := x) (i := m) (v := v) (by omega) W hW)
        rw [← hfe] at BT
        have Hfe := Lib.hid hfe; clear hfe
        go_wp2_with fail
        refine (BT.out _ HV2.out).mono ?_
        rintro e w2 ⟨rfl, rfl⟩
        go_wp2_with fail
        go_region
        go_wp2_with fail
        go_roundw
        case rel => exact ⟨k + 1, by go_num, by omega, HE.out.1.drew, HE.out.2⟩
        case measure => simp [intOf]; omega
      · have hfe := HMV.out
        rw [if_neg hin] at hfe
        subst hfe
        clear HMV
        rcases Int.lt_or_le ((k : Int) + n) 0 with i1 | i1
        · have hb1 : decide ((0 : Int) ≤ (k : Int) + n) = false := by simp; omega
          clear hin
          go_wp2_with fail
          go_region
          go_wp2_with fail
          go_roundw
          case rel => exact ⟨k + 1, by go_num, by omega, HE.out.1.drew, HE.out.2⟩
          case measure => simp [intOf]; omega
        · have i2 : 256 ≤ (k : Int) + n := by omega
          have hb2 : decide ((k : Int) + n < 256) = false := by simp; omega
          clear hin
          go_wp2_with fail
          go_region
          go_wp2_with fail
          go_roundw
          case rel => exact ⟨k + 1, by go_num, by omega, HE.out.1.drew, HE.out.2⟩
          case measure => simp [intOf]; omega
    · obtain rfl : k = 256 := by omega
      have hr : BytesRow wr (.slice (some ⟨w1.heap.size, 0, none⟩) 32 32) 32 (byteOf (bitsTo (movedBit x n fill) 256)) :=
        ⟨_, _, rfl, lt_of hS.2, fun j hj => (cell_of hS.2 j).trans (rowArr_at _ _ hj)⟩
      have J := Lib.hid (Join_b (by decide) (by decide) wr hr (byteOf_lt _))
      rw [lowB_all (show bitsTo (movedBit x n fill) 256 < W256 from bitsTo_lt (movedBit_le hfl) 256)] at J
      have F2 := Lib.hid (H1.out.call hS.1)
      clear hS hr
      go_wp2_with fail
      refine J.out.mono ?_
      rintro e w2 ⟨r3, r2, r1, r0, rfl, hr, hb2⟩
      have F3 := F2.out.call hb2
      have K := (F3.know _ (.head _)).2
      have k0 := cells4 K
      have n3 := F3.lt (.head _)
      replace K := Lib.hid K; replace F3 := Lib.hid F3
      clear hb2 F2 J
      go_wp2_with fail
      exact bodyPost_ret (results_cell_row Tryd.results67 _ _ _ _ _ _ _ rfl (heap_set4 K.out _ _ _ _) Tryd.underlying24 rfl (by kernel_rfl)) rfl
        ⟨_, _, _, _, rfl, hr, below_set4 F3.out.below (by omega) _ _ _ _⟩

end Go.Proofs.YtofoiifckkafcaaDoor
