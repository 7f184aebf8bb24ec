/- The contract of word.Bytes. -/
import Derived.Test.YthbfhfgmanafpaaWordD
namespace Go.Proofs.Ythbfhfgmanafpaa
open Go.RowKit

/-- Byte j of a number, the lowest first; of its limbs. -/
def byteOf (x j : Nat) : Nat := x / 256 ^ j % 256
def byteIn (d0 d1 d2 d3 j : Nat) : Nat := nth d0 d1 d2 d3 (j / 8) / 2 ^ (j % 8 * 8) % 256

theorem byteIn_eq {x d0 d1 d2 d3 j : Nat} (h : Dig x d0 d1 d2 d3) (hj : j < 32) : byteIn d0 d1 d2 d3 j = byteOf x j := by
  obtain ⟨h0, h1, h2, h3, rfl⟩ := h
  have e : j = j / 8 * 8 + j % 8 := by omega
  have hq : j / 8 = 0 ∨ j / 8 = 1 ∨ j / 8 = 2 ∨ j / 8 = 3 := by omega
  have hr : j % 8 = 0 ∨ j % 8 = 1 ∨ j % 8 = 2 ∨ j % 8 = 3 ∨ j % 8 = 4 ∨ j % 8 = 5 ∨ j % 8 = 6 ∨ j % 8 = 7 := by omega
  unfold byteIn byteOf
  generalize j / 8 = q at *
  generalize j % 8 = r at *
  subst e
  clear hj
  unfold M64 at *
  rcases hq with rfl | rfl | rfl | rfl <;> rcases hr with rfl | rfl | rfl | rfl | rfl | rfl | rfl | rfl <;> simp only [nth, Nat.reduceMul, Nat.reduceAdd, Nat.reducePow] <;> omega

/-- The array that Bytes fills, behind k rounds. -/
def outCells (f : Nat → Nat) (k : Nat) : Array Value := ((List.range 32).map fun j => Value.int .u8 ((if 31 - j < k then f (31 - j) else 0 : Nat) : Int)).toArray

theorem outCells_at (f : Nat → Nat) (k j : Nat) (hj : j < 32) : (outCells f k)[j]? = some (.int .u8 ((if 31 - j < k then f (31 - j) else 0 : Nat) : Int)) := by
  simp [outCells, hj]
theorem outCells_zero (f : Nat → Nat) : outCells f 0 = #[.int .u8 0, .int .u8 0, .int .u8 0, .int .u8 0, .int .u8 0, .int .u8 0, .int .u8 0, .int .u8 0, .int .u8 0, .int .u8 0, .int .u8 0, .int .u8 0, .int .u8 0, .int .u8 0, .int .u8 0, .int .u8 0, .int .u8 0, .int .u8 0, .int .u8 0, .int .u8 0, .int .u8 0, .int .u8 0, .int .u8 0, .int .u8 0, .int .u8 0, .int .u8 0, .int .u8 0, .int .u8 0, .int .u8 0, .int .u8 0, .int .u8 0, .int .u8 0] := rfl

/-- A number's 32 bytes, the highest first. -/
def bytesOf (x : Nat) : ByteArray := strOfNums ((List.range 32).map fun j => (byteOf x (31 - j) : Int))

/-- What Bytes knows at the head of a round. -/
def BytesRel (w : World) (bl a0 a1 a2 a3 k : Nat) (W : World) : Prop :=
  Below w.heap.size w W ∧ w.heap.size ≤ bl ∧ W.heap[bl]? = some (.cells (four a0 a1 a2 a3) 45 (0, 0)) ∧ W.heap[bl + 1]? = some (.cells (outCells (byteIn a0 a1 a2 a3) k) 53 (0, 0))
theorem outCells_set (f : Nat → Nat) (k : Nat) (hk : k < 32) : (outCells f k).setIfInBounds (31 - k) (.int .u8 (f k : Nat)) = outCells f (k + 1) := by
  apply Array.ext_getElem?
  intro j
  rw [Array.getElem?_setIfInBounds]
  by_cases hj : j < 32
  · rw [outCells_at _ _ _ hj, outCells_at _ _ _ hj]
    by_cases e : 31 - k = j
    · subst e
      have h1 : 31 - (31 - k) = k := by omega
      simp [h1, outCells]; omega
    · rw [if_neg e]
      congr 3
      by_cases h1 : 31 - j < k
      · rw [if_pos h1, if_pos (by omega)]
      · rw [if_neg h1, if_neg (by omega)]
  · have h1 : (outCells f k)[j]? = none := by simp [outCells]; omega
    have h2 : (outCells f (k + 1))[j]? = none := by simp [outCells]; omega
    rw [h1, h2, if_neg (by omega)]

set_option maxRecDepth 100000 in
set_option maxHeartbeats 2000000 in
theorem Bytes_c {x a3 a2 a1 a0 : Nat} (hx : Dig x a0 a1 a2 a3) (w : World) :
    Calls Try.prog 29 #[.agg #[.int .u64 a3, .int .u64 a2, .int .u64 a1, .int .u64 a0]] w fun e w' =>
      e = .returned (.string (bytesOf x)) ∧ Below w.heap.size w w' := by
  have HX := Lib.hid hx; clear hx
  go_enter Try.func29, Try.ntmps29
  go_wp2_with fail
  refine (split_any _ _ _ _ _).mono ?_
  rintro e w1 ⟨rfl, hb1⟩
  go_wp2_with fail
  have H0 := Lib.hid (show BytesRel w w1.heap.size a0 a1 a2 a3 0 _ from
    ⟨((((Below.refl _ _).alloc (Nat.le_refl _) (.cells #[.int .u64 a3, .int .u64 a2, .int .u64 a1, .int .u64 a0] 24)).trans (hb1.mono (by simp))).alloc (by have := hb1.size; simp at this; omega) _).alloc (by have := hb1.size; simp at this; simp; omega) _,
      by have := hb1.size; simp at this; omega, heap_alloc2_old w1 (.cells (four a0 a1 a2 a3) 45) (.cells (outCells (byteIn a0 a1 a2 a3) 0) 53), heap_alloc2_new _ _ _⟩)
  clear hb1
  go_loopw [10] (fun i wr => ∃ k : Nat, i = .int .i64 k ∧ k ≤ 32 ∧ BytesRel w w1.heap.size a0 a1 a2 a3 k wr) (fun i w => 32 - (intOf i).toNat)
  case atStart => exact ⟨0, rfl, by omega, H0.out⟩
  case round =>
    clear H0
    obtain ⟨k, rfl, hk32, hB, hle, hl, ho⟩ := hrel
    by_cases hk : k < 32
    · have c1 := (cell_of hl (k / 8)).trans (four_at _ _ _ _ _ (by omega))
      have c2 := (cell_of ho (31 - k)).trans (outCells_at _ _ _ (by omega))
      have f2 := free_of ho (31 - k)
      have Hl := Lib.hid hl; have Ho := Lib.hid ho; have HB := Lib.hid hB; clear hl ho hB
      go_wp2_with fail
      refine (placeOf_any _ (by omega) (by omega) _).mono ?_
      rintro e w2 ⟨rfl, rfl⟩
      go_wp2_with fail
      go_roundw
      case rel =>
        refine ⟨k + 1, by go_num, by omega, HB.out.setCell (by simp; omega) _, hle, ?_, ?_⟩
        · rw [heap_setCell_other _ _ _ _ (by simp)]; exact Hl.out
        · rw [heap_setCell_same _ _ _ _ _ _ Ho.out, ← outCells_set _ _ hk]
          congr 3
      case measure => simp [intOf]; omega
    · have h32 : k = 32 := by omega
      subst h32
      have hconv := run_convert_bytes_arg wr 56 5 Try.underlying56 Try.underlying5 (w1.heap.size + 1) 0 32 32 ((List.range 32).map fun j => (byteOf x (31 - j) : Int)) (by simp) (by
        intro i hi
        rw [Nat.zero_add, cell_of ho i, outCells_at _ _ _ hi, if_pos (by omega), byteIn_eq HX.out (by omega)]
        simp [List.getD, hi]) 9 Try.underlying9
      change _ = Result.ok (Value.string (bytesOf x)) _ at hconv
      have HB := Lib.hid hB; clear hB hl ho
      go_wp2
      go_ret

      exact ⟨rfl, HB.out⟩

end Go.Proofs.Ythbfhfgmanafpaa
