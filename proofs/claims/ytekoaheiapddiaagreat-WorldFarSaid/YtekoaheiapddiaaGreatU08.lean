/- Merged: LPlain, Num, VPlain, WordA, WordUp, WordPlus, WordC, WordD, WordB, BytesN, Num2, WordM, WordO, WordR, WordT, WordE, La. -/
import Derived.Test.YtekoaheiapddiaaGreatRows
import Derived.ProofKit
import Derived.OpenShut
import Derived.WalkKit
import Derived.Lib.SmallJoins
import Derived.ChangeMaps5
import Derived.ShutString
import Derived.Test.YtekoaheiapddiaaGreatU01
import Derived.WalkSpells
import Derived.WalkLawsBesides
import Derived.Lib.Hide
import Derived.Shelf.Spec.BitsCarry
import Derived.BigQuiet
import Derived.Deep.RegionHeld3
import Derived.Deep.DrawnRows
import Derived.Lib.SlBytesRow
import Derived.Lib.BufferWrite
section
namespace Go.Proofs.YtekoaheiapddiaaGreat
open Go.ChangeShapes Go.WideShapes Go.ChangeAt Go.RowKit

theorem u64_of {n : Int} (h : (Lit.int .u64 n).wf = true) : ∃ k : Nat, n = (k : Int) ∧ k < 18446744073709551616 := by
  have h' : 0 ≤ n ∧ n ≤ 18446744073709551615 := by simpa [Lit.wf, IntKind.min, IntKind.max, IntKind.signed, IntKind.bits] using h
  exact ⟨n.toNat, by omega, by omega⟩
theorem ownKnob_none : ownKnob Tryz.prog.godebug = none := by kernel_rfl
end Go.Proofs.YtekoaheiapddiaaGreat
end
section
namespace Go.Proofs.YtekoaheiapddiaaGreat
open Go.RowKit

/-- Limb i of four, lowest first. -/
def nth (d c b a : Nat) (i : Nat) : Nat := match i with | 0 => d | 1 => c | 2 => b | _ => a

/-- 2^256, kept from the walk. -/
def W256 : Nat := M64 * (M64 * (M64 * M64))

/-- n's limbs, the lowest first. -/
structure Dig (n d0 d1 d2 d3 : Nat) : Prop where
  h0 : d0 < M64
  h1 : d1 < M64
  h2 : d2 < M64
  h3 : d3 < M64
  eq : n = d0 + M64 * (d1 + M64 * (d2 + M64 * d3))

theorem Dig.lt {n d0 d1 d2 d3 : Nat} (h : Dig n d0 d1 d2 d3) : n < W256 := by
  obtain ⟨h0, h1, h2, h3, rfl⟩ := h
  unfold W256 M64 at *
  omega

theorem Dig.nth {n d0 d1 d2 d3 : Nat} (h : Dig n d0 d1 d2 d3) (k : Nat) : nth d0 d1 d2 d3 k < M64 := by
  obtain ⟨h0, h1, h2, h3, _⟩ := h
  unfold Go.Proofs.YtekoaheiapddiaaGreat.nth; split <;> assumption

theorem Dig.inj {n d0 d1 d2 d3 e0 e1 e2 e3 : Nat} (h : Dig n d0 d1 d2 d3) (k : Dig n e0 e1 e2 e3) : d0 = e0 ∧ d1 = e1 ∧ d2 = e2 ∧ d3 = e3 := by
  obtain ⟨h0, h1, h2, h3, rfl⟩ := h
  obtain ⟨k0, k1, k2, k3, e⟩ := k
  unfold M64 at *
  omega

/-- Every number below 2^256 has limbs. -/
theorem Dig.of {n : Nat} (h : n < W256) : Dig n (n % M64) (n / M64 % M64) (n / M64 / M64 % M64) (n / M64 / M64 / M64) := by
  unfold W256 M64 at h
  refine ⟨?_, ?_, ?_, ?_, ?_⟩ <;> unfold M64 <;> omega

end Go.Proofs.YtekoaheiapddiaaGreat
end
section
set_option maxRecDepth 100000
namespace Go.Proofs.YtekoaheiapddiaaGreat
open Go.ChangeShapes Go.WideShapes Go.ChangeAt Go.RowKit

/-- The datum of the word with the digits d3, d2, d1, d0. -/
def wordD {H : Type} (d3 d2 d1 d0 : Nat) : DataW H := .agg [.lit (.int .u64 d3), .lit (.int .u64 d2), .lit (.int .u64 d1), .lit (.int .u64 d0)]
theorem wf_of {k : Nat} (h : k < M64) : (Lit.int .u64 (k : Int)).wf = true := by
  unfold M64 at h
  simp [Lit.wf, IntKind.min, IntKind.max, IntKind.signed, IntKind.bits]; omega
theorem cellsWord : Tryz.prog.cellsOf 61 = 4 := by kernel_rfl
theorem open_word {H : Type} {enc : TypeId × Value → H} {w : World} {base : Nat} {spare : Nat → Bool} {held : Bool} {r : Reach} {b0 : Nat} {v : Value} {d : DataW H} {p : List MemPlace}
    (hv : Value.okWide Tryz.prog w r b0 61 v) (h : DataW.Trod enc Tryz.prog w base spare held 61 v d p) :
    ∃ n d3 d2 d1 d0 : Nat, v = .agg #[.int .u64 d3, .int .u64 d2, .int .u64 d1, .int .u64 d0] ∧ d = wordD d3 d2 d1 d0 ∧ p = [] ∧ Dig n d0 d1 d2 d3 := by
  obtain ⟨v0, v1, v2, v3, y0, y1, y2, y3, n, rfl, rfl, rfl, h0, h1, h2, h3⟩ := Go.Joins.open_agg4 Tryz.underlying61 (by kernel_rfl) cellsWord hv h
  obtain ⟨n3, e0, rfl, w3⟩ := DataW.trod_int Tryz.underlying41 h0
  obtain ⟨n2, e1, rfl, w2⟩ := DataW.trod_int Tryz.underlying41 h1
  obtain ⟨n1, e2, rfl, w1⟩ := DataW.trod_int Tryz.underlying41 h2
  obtain ⟨n0, e3, rfl, w0⟩ := DataW.trod_int Tryz.underlying41 h3
  obtain ⟨k3, rfl, l3⟩ := u64_of w3
  obtain ⟨k2, rfl, l2⟩ := u64_of w2
  obtain ⟨k1, rfl, l1⟩ := u64_of w1
  obtain ⟨k0, rfl, l0⟩ := u64_of w0
  cases e0; cases e1; cases e2; cases e3
  exact ⟨_, k3, k2, k1, k0, rfl, rfl, rfl, ⟨l0, l1, l2, l3, rfl⟩⟩
theorem shut_word {H : Type} {enc : TypeId × Value → H} {w : World} {base : Nat} {spare : Nat → Bool} {held : Bool} {n d3 d2 d1 d0 : Nat} (h : Dig n d0 d1 d2 d3) :
    DataW.Trod enc Tryz.prog w base spare held 61 (.agg #[.int .u64 d3, .int .u64 d2, .int .u64 d1, .int .u64 d0]) (wordD d3 d2 d1 d0) [] :=
  Go.Joins.shut_agg4 Tryz.underlying61 (by kernel_rfl) cellsWord (y0 := (_, [])) (y1 := (_, [])) (y2 := (_, [])) (y3 := (_, []))
    ⟨1, trod_int_mk 0 Tryz.underlying41 (wf_of h.h3)⟩ ⟨1, trod_int_mk 0 Tryz.underlying41 (wf_of h.h2)⟩
    ⟨1, trod_int_mk 0 Tryz.underlying41 (wf_of h.h1)⟩ ⟨1, trod_int_mk 0 Tryz.underlying41 (wf_of h.h0)⟩
end Go.Proofs.YtekoaheiapddiaaGreat
end
section
namespace Go.Proofs.YtekoaheiapddiaaGreat
open Go.RowKit

set_option maxHeartbeats 400000 in
theorem split_any (a b c d : Nat) (w : World) :
    Calls Tryz.prog 93 #[.agg #[.int .u64 a, .int .u64 b, .int .u64 c, .int .u64 d]] w fun e w' =>
      e = .returned (.agg #[.int .u64 d, .int .u64 c, .int .u64 b, .int .u64 a]) ∧ Below w.heap.size w w' := by
  go_enter Tryz.func93, Tryz.ntmps93
  go_wp2
  exact bodyPost_ret (v := .agg #[.int .u64 d, .int .u64 c, .int .u64 b, .int .u64 a]) (by simp [results, Tryz.results93, go_sem]) rfl ⟨rfl, ((Below.refl _ _).alloc (Nat.le_refl _) _).alloc (by simp) _⟩

set_option maxHeartbeats 400000 in
theorem join_any (a b c d : Nat) (w : World) :
    Calls Tryz.prog 95 #[.agg #[.int .u64 d, .int .u64 c, .int .u64 b, .int .u64 a]] w fun e w' =>
      e = .returned (.agg #[.int .u64 a, .int .u64 b, .int .u64 c, .int .u64 d]) ∧ Below w.heap.size w w' := by
  go_enter Tryz.func95, Tryz.ntmps95
  go_wp2
  exact bodyPost_ret (v := .agg #[.int .u64 a, .int .u64 b, .int .u64 c, .int .u64 d]) (by simp [results, Tryz.results95, go_sem]) rfl ⟨rfl, ((Below.refl _ _).alloc (Nat.le_refl _) _).alloc (by simp) _⟩

set_option maxHeartbeats 400000 in
theorem from_any (d : Nat) (w : World) :
    Calls Tryz.prog 46 #[.int .u64 d] w fun e w' =>
      e = .returned (.agg #[.int .u64 0, .int .u64 0, .int .u64 0, .int .u64 d]) ∧ Below w.heap.size w w' := by
  go_enter Tryz.func46, Tryz.ntmps46
  go_wp2
  exact bodyPost_ret (v := .agg #[.int .u64 0, .int .u64 0, .int .u64 0, .int .u64 d]) (by simp [results, Tryz.results46, go_sem]) rfl ⟨rfl, ((Below.refl _ _).alloc (Nat.le_refl _) _)⟩

set_option maxHeartbeats 400000 in
theorem placeOf_any (i : Int) (h0 : 0 ≤ i) (h1 : i ≤ 1000) (w : World) :
    Calls Tryz.prog 264 #[.int .i64 i] w fun e w' =>
      e = .returned (.tuple #[.int .i64 (i / 8), .int .i64 (i % 8 * 8)]) ∧ w = w' := by
  go_enter Tryz.func264, Tryz.ntmps264
  go_wp2
  go_ret2
  exact ⟨rfl, rfl⟩

end Go.Proofs.YtekoaheiapddiaaGreat
end
section
namespace Go.Proofs.YtekoaheiapddiaaGreat
open Go.RowKit

theorem four_at (a b c d k : Nat) (hk : k < 4) : (four a b c d)[k]? = some (.int .u64 (nth a b c d k : Nat)) := by
  match k, hk with
  | 0, _ | 1, _ | 2, _ | 3, _ => rfl


end Go.Proofs.YtekoaheiapddiaaGreat
end
section
namespace Go.Proofs.YtekoaheiapddiaaGreat
open Go.RowKit
attribute [local go_sem ↓] Go.wp_at_zero Go.wp_at_succ

end Go.Proofs.YtekoaheiapddiaaGreat
end
section
namespace Go.Proofs.YtekoaheiapddiaaGreat
open Go.RowKit
attribute [local go_sem ↓] Go.wp_at_zero Go.wp_at_succ

theorem or64 (x y : Nat) (hx : x < M64) (hy : y < M64) : Go.bits .or .u64 (x : Int) (y : Int) = ((x ||| y : Nat) : Int) := u64_or_nat x y hx hy
end Go.Proofs.YtekoaheiapddiaaGreat
end
section
namespace Go.Proofs.YtekoaheiapddiaaGreat
open Go.RowKit

/-- Byte j of a number, the lowest first; of its limbs. -/
def byteOf (x j : Nat) : Nat := x / 256 ^ j % 256
def byteIn (d0 d1 d2 d3 j : Nat) : Nat := nth d0 d1 d2 d3 (j / 8) / 2 ^ (j % 8 * 8) % 256

theorem byteIn_eq {x d0 d1 d2 d3 j : Nat} (h : Dig x d0 d1 d2 d3) (hj : j < 32) : byteIn d0 d1 d2 d3 j = byteOf x j := by
  obtain ⟨h0, h1, h2, h3, rfl⟩ := h
  have e : j = j / 8 * 8 + j % 8 := by omega
  have hq : j / 8 = 0 ∨ j / 8 = 1 ∨ j / 8 = 2 ∨ j / 8 = 3 := by omega
  have hr : j % 8 = 0 ∨ j % 8 = 1 ∨ j % 8 = 2 ∨ j % 8 = 3 ∨ j % 8 = 4 ∨ j % 8 = 5 ∨ j % 8 = 6 ∨ j % 8 = 7 := by omega
  unfold byteIn byteOf
  generalize j / 8 = q at *
  generalize j % 8 = r at *
  subst e
  clear hj
  unfold M64 at *
  rcases hq with rfl | rfl | rfl | rfl <;> rcases hr with rfl | rfl | rfl | rfl | rfl | rfl | rfl | rfl <;> simp only [nth, Nat.reduceMul, Nat.reduceAdd, Nat.reducePow] <;> omega

/-- The array that Bytes fills, behind k rounds. -/
def outCells (f : Nat → Nat) (k : Nat) : Array Value := ((List.range 32).map fun j => Value.int .u8 ((if 31 - j < k then f (31 - j) else 0 : Nat) : Int)).toArray

theorem outCells_at (f : Nat → Nat) (k j : Nat) (hj : j < 32) : (outCells f k)[j]? = some (.int .u8 ((if 31 - j < k then f (31 - j) else 0 : Nat) : Int)) := by
  simp [outCells, hj]
/-- A number's 32 bytes, the highest first. -/
def bytesOf (x : Nat) : ByteArray := strOfNums ((List.range 32).map fun j => (byteOf x (31 - j) : Int))

/-- What Bytes knows at the head of a round. -/
def BytesRel (w : World) (bl a0 a1 a2 a3 k : Nat) (W : World) : Prop :=
  Below w.heap.size w W ∧ w.heap.size ≤ bl ∧ W.heap[bl]? = some (.cells (four a0 a1 a2 a3) 183 (0, 0)) ∧ W.heap[bl + 1]? = some (.cells (outCells (byteIn a0 a1 a2 a3) k) 347 (0, 0))
theorem outCells_set (f : Nat → Nat) (k : Nat) (hk : k < 32) : (outCells f k).setIfInBounds (31 - k) (.int .u8 (f k : Nat)) = outCells f (k + 1) := by
  apply Array.ext_getElem?
  intro j
  rw [Array.getElem?_setIfInBounds]
  by_cases hj : j < 32
  · rw [outCells_at _ _ _ hj, outCells_at _ _ _ hj]
    by_cases e : 31 - k = j
    · subst e
      have h1 : 31 - (31 - k) = k := by omega
      simp [h1, outCells]; omega
    · rw [if_neg e]
      congr 3
      by_cases h1 : 31 - j < k
      · rw [if_pos h1, if_pos (by omega)]
      · rw [if_neg h1, if_neg (by omega)]
  · have h1 : (outCells f k)[j]? = none := by simp [outCells]; omega
    have h2 : (outCells f (k + 1))[j]? = none := by simp [outCells]; omega
    rw [h1, h2, if_neg (by omega)]

set_option maxRecDepth 100000 in
set_option maxHeartbeats 2000000 in
theorem Bytes_c {x a3 a2 a1 a0 : Nat} (hx : Dig x a0 a1 a2 a3) (w : World) :
    Calls Tryz.prog 234 #[.agg #[.int .u64 a3, .int .u64 a2, .int .u64 a1, .int .u64 a0]] w fun e w' =>
      e = .returned (.string (bytesOf x)) ∧ Below w.heap.size w w' := by
  have HX := Lib.hid hx; clear hx
  go_enter Tryz.func234, Tryz.ntmps234
  go_wp2_with fail
  refine (split_any _ _ _ _ _).mono ?_
  rintro e w1 ⟨rfl, hb1⟩
  go_wp2_with fail
  have H0 := Lib.hid (show BytesRel w w1.heap.size a0 a1 a2 a3 0 _ from
    ⟨((((Below.refl _ _).alloc (Nat.le_refl _) (.cells #[.int .u64 a3, .int .u64 a2, .int .u64 a1, .int .u64 a0] 61)).trans (hb1.mono (by simp))).alloc (by have := hb1.size; simp at this; omega) _).alloc (by have := hb1.size; simp at this; simp; omega) _,
      by have := hb1.size; simp at this; omega, heap_alloc2_old w1 (.cells (four a0 a1 a2 a3) 183) (.cells (outCells (byteIn a0 a1 a2 a3) 0) 347), heap_alloc2_new _ _ _⟩)
  clear hb1
  go_loopw [10] (fun i wr => ∃ k : Nat, i = .int .i64 k ∧ k ≤ 32 ∧ BytesRel w w1.heap.size a0 a1 a2 a3 k wr) (fun i w => 32 - (intOf i).toNat)
  case atStart => exact ⟨0, rfl, by omega, H0.out⟩
  case round =>
    clear H0
    obtain ⟨k, rfl, hk32, hB, hle, hl, ho⟩ := hrel
    by_cases hk : k < 32
    · have c1 := (cell_of hl (k / 8)).trans (four_at _ _ _ _ _ (by omega))
      have c2 := (cell_of ho (31 - k)).trans (outCells_at _ _ _ (by omega))
      have f2 := free_of ho (31 - k)
      have Hl := Lib.hid hl; have Ho := Lib.hid ho; have HB := Lib.hid hB; clear hl ho hB
      go_wp2_with fail
      refine (placeOf_any _ (by omega) (by omega) _).mono ?_
      rintro e w2 ⟨rfl, rfl⟩
      go_wp2_with fail
      go_roundw
      case rel =>
        refine ⟨k + 1, by go_num, by omega, HB.out.setCell (by simp; omega) _, hle, ?_, ?_⟩
        · rw [heap_setCell_other _ _ _ _ (by simp)]; exact Hl.out
        · rw [heap_setCell_same _ _ _ _ _ _ Ho.out, ← outCells_set _ _ hk]
          congr 3
      case measure => simp [intOf]; omega
    · have h32 : k = 32 := by omega
      subst h32
      have hconv := run_convert_bytes_arg wr 218 5 Tryz.underlying218 Tryz.underlying5 (w1.heap.size + 1) 0 32 32 ((List.range 32).map fun j => (byteOf x (31 - j) : Int)) (by simp) (by
        intro i hi
        rw [Nat.zero_add, cell_of ho i, outCells_at _ _ _ hi, if_pos (by omega), byteIn_eq HX.out (by omega)]
        simp [List.getD, hi]) 9 Tryz.underlying9
      change _ = Result.ok (Value.string (bytesOf x)) _ at hconv
      have HB := Lib.hid hB; clear hB hl ho
      go_wp2
      go_ret

      exact ⟨rfl, HB.out⟩

end Go.Proofs.YtekoaheiapddiaaGreat
end
section
namespace Go.Proofs.YtekoaheiapddiaaGreat
open Go.RowKit

theorem index_str (s : ByteArray) (i : Int) (j : Nat) (hj : j < s.size) (e : i = (j : Int)) (W : World) : (Instr.index 9 (.string s) (.int .i64 i)).run Tryz.prog W = .ok (.int .u8 ((s[j]'hj).toNat : Int)) W := by
  subst e
  rw [run_index_string W _ _ _ _ Tryz.underlying9, dif_pos ⟨by omega, by omega⟩]
  simp

/-- Byte j of a text (0 past its end); the number of its last k bytes. -/
def byteAt (s : ByteArray) (j : Nat) : Nat := if h : j < s.size then (s[j]'h).toNat else 0
theorem byteAt_lt (s : ByteArray) (j : Nat) : byteAt s j < 256 := by
  unfold byteAt; split
  · exact UInt8.toNat_lt _
  · omega

theorem bytesOf_size (x : Nat) : (bytesOf x).size = 32 := by unfold bytesOf; rw [strOfNums_size]; simp

theorem byteAt_bytes (x j : Nat) (hj : j < 32) : byteAt (bytesOf x) j = byteOf x (31 - j) := by
  have hb : byteOf x (31 - j) < 256 := Nat.mod_lt _ (by decide)
  have hs : j < (bytesOf x).size := by rw [bytesOf_size]; exact hj
  unfold byteAt
  rw [dif_pos hs]
  have : (bytesOf x)[j]'hs = UInt8.ofNat (byteOf x (31 - j)) := by
    simp [bytesOf, strOfNums, ByteArray.getElem_eq_getElem_data]
  rw [this, UInt8.toNat_ofNat_of_lt' hb]
def tail256 (x : Nat) : Nat → List UInt8
  | 0 => []
  | n + 1 => UInt8.ofNat (byteOf x n) :: tail256 x n
theorem tail256_length (x n : Nat) : (tail256 x n).length = n := by
  induction n with
  | zero => rfl
  | succ n ih => simp [tail256, ih]
theorem bytesOf_list (x : Nat) : (bytesOf x).toList = tail256 x 32 := by
  rw [ByteArray.toList_eq]
  simp [bytesOf, strOfNums, tail256, List.range_succ]

theorem of_step {v d0 d1 d2 d3 k b : Nat} (hD : Dig v d0 d1 d2 d3) (hv : v < 256 ^ k) (hk : k < 32) (hb : b < 256) :
    nth d0 d1 d2 d3 (k / 8) < 2 ^ (k % 8 * 8) ∧ b * 2 ^ (k % 8 * 8) < M64 ∧ v + b * 256 ^ k < 256 ^ (k + 1) ∧
      ∃ e0 e1 e2 e3, Dig (v + b * 256 ^ k) e0 e1 e2 e3 ∧ (four d0 d1 d2 d3).setIfInBounds (k / 8) (.int .u64 ((nth d0 d1 d2 d3 (k / 8) + b * 2 ^ (k % 8 * 8) : Nat) : Int)) = four e0 e1 e2 e3 := by
  obtain ⟨h0, h1, h2, h3, rfl⟩ := hD
  have e : k = k / 8 * 8 + k % 8 := by omega
  have hq : k / 8 = 0 ∨ k / 8 = 1 ∨ k / 8 = 2 ∨ k / 8 = 3 := by omega
  have hr : k % 8 = 0 ∨ k % 8 = 1 ∨ k % 8 = 2 ∨ k % 8 = 3 ∨ k % 8 = 4 ∨ k % 8 = 5 ∨ k % 8 = 6 ∨ k % 8 = 7 := by omega
  generalize k / 8 = q at *
  generalize k % 8 = r at *
  subst e
  clear hk
  unfold M64 at *
  refine ⟨?_, ?_, ?_, ?_⟩
  · rcases hq with rfl | rfl | rfl | rfl <;> rcases hr with rfl | rfl | rfl | rfl | rfl | rfl | rfl | rfl <;> simp only [nth, Nat.reduceMul, Nat.reduceAdd, Nat.reducePow] at * <;> omega
  · rcases hr with rfl | rfl | rfl | rfl | rfl | rfl | rfl | rfl <;> simp only [Nat.reduceMul, Nat.reducePow] at * <;> omega
  · rw [Nat.pow_succ]
    have : b * 256 ^ (q * 8 + r) ≤ 255 * 256 ^ (q * 8 + r) := Nat.mul_le_mul_right _ (by omega)
    omega
  · refine ⟨if q = 0 then d0 + b * 2 ^ (r * 8) else d0, if q = 1 then d1 + b * 2 ^ (r * 8) else d1, if q = 2 then d2 + b * 2 ^ (r * 8) else d2, if q = 3 then d3 + b * 2 ^ (r * 8) else d3, ?_, ?_⟩
    · rcases hq with rfl | rfl | rfl | rfl <;> rcases hr with rfl | rfl | rfl | rfl | rfl | rfl | rfl | rfl <;> simp only [Nat.reduceMul, Nat.reduceAdd, Nat.reducePow, Nat.reduceEqDiff, ↓reduceIte, Nat.succ_ne_self, Nat.zero_ne_one] at * <;> (refine ⟨?_, ?_, ?_, ?_, ?_⟩ <;> unfold M64 <;> omega)
    · rcases hq with rfl | rfl | rfl | rfl <;> simp [four, nth]

end Go.Proofs.YtekoaheiapddiaaGreat
end
section
namespace Go.Proofs.YtekoaheiapddiaaGreat
open Go.RowKit

/-- Limb i of a, lifted by so many limbs: 0 past both ends. -/
def lifted (x : Nat → Nat) (l i : Nat) : Nat := if i < l then 0 else x (i - l)
theorem or_add (x b i : Nat) (hx : x < 2 ^ i) : x ||| b * 2 ^ i = x + b * 2 ^ i := by
  have h := Nat.two_pow_add_eq_or_of_lt hx b
  rw [Nat.or_comm, Nat.mul_comm b, ← h]; omega

end Go.Proofs.YtekoaheiapddiaaGreat
end
section
namespace Go.Proofs.YtekoaheiapddiaaGreat
open Go.RowKit
attribute [local go_sem ↓] Go.wp_at_zero Go.wp_at_succ

theorem wrap_nat (x : Nat) (hx : x < M64) : IntKind.u64.wrap (x : Int) = (x : Int) := by
  rw [IntKind.wrap_u64]; unfold M64 at hx; omega

end Go.Proofs.YtekoaheiapddiaaGreat
end
section
namespace Go.Proofs.YtekoaheiapddiaaGreat
open Go.RowKit

set_option maxRecDepth 100000 in
set_option maxHeartbeats 2000000 in
theorem Of_long (s : ByteArray) (hs : 32 < s.size) (w : World) :
    Calls Tryz.prog 233 #[.string s] w fun e w' =>
      e = .returned (.tuple #[.agg #[.int .u64 0, .int .u64 0, .int .u64 0, .int .u64 0], .bool false]) ∧ Below w.heap.size w w' := by
  have hs' : (32 : Int) < (s.size : Int) := by omega
  go_enter Tryz.func233, Tryz.ntmps233
  go_wp2
  exact bodyPost_ret (results_cell_slot Tryz.results233 _ _ _ _ _ _ _ _ rfl rfl (heap_alloc_new _ _) Tryz.underlying61 rfl (by kernel_rfl)) rfl ⟨rfl, (Below.refl _ _).alloc (Nat.le_refl _) _⟩

def lastOf (s : ByteArray) : Nat → Nat
  | 0 => 0
  | k + 1 => lastOf s k + byteAt s (s.size - 1 - k) * 256 ^ k
/-- What Of knows at the head of a round. -/
def OfRel (w : World) (s : ByteArray) (k : Nat) (W : World) : Prop :=
  ∃ d0 d1 d2 d3, Dig (lastOf s k) d0 d1 d2 d3 ∧ lastOf s k < 256 ^ k ∧ Fr w w.heap.size (w.heap.size + 1) [(w.heap.size, #[.int .u64 0, .int .u64 0, .int .u64 0, .int .u64 0], 61)] W ∧ W.heap[w.heap.size + 1]? = some (.cells (four d0 d1 d2 d3) 183 (0, 0))

/-- A call that hands back a word and a bool. -/
def RetWB (q : Nat → Prop) (b : Bool) (w : World) (e : Ending) (w' : World) : Prop :=
  ∃ s s3 s2 s1 s0 : Nat, e = .returned (.tuple #[.agg #[.int .u64 s3, .int .u64 s2, .int .u64 s1, .int .u64 s0], .bool b]) ∧ Dig s s0 s1 s2 s3 ∧ q s ∧ Below w.heap.size w w'

set_option maxRecDepth 100000 in
set_option maxHeartbeats 2000000 in
theorem Of_short (s : ByteArray) (hs : s.size ≤ 32) (w : World) :
    Calls Tryz.prog 233 #[.string s] w (RetWB (fun v => v = lastOf s s.size) true w) := by
  have hs' : ¬ (32 : Int) < (s.size : Int) := by omega
  have H := Fr.one w #[.int .u64 0, .int .u64 0, .int .u64 0, .int .u64 0] 61
  have H0 := Lib.hid (show OfRel w s 0 _ from ⟨0, 0, 0, 0, ⟨by decide, by decide, by decide, by decide, rfl⟩, by simp [lastOf], H.alloc (.cells (four 0 0 0 0) 183), by rw [← alloc_size w (.cells #[.int .u64 0, .int .u64 0, .int .u64 0, .int .u64 0] 61)]; exact heap_alloc_new _ _⟩)
  clear H
  go_enter Tryz.func233, Tryz.ntmps233
  go_wp2_with fail
  go_loopw [14] (fun i wr => ∃ k : Nat, i = .int .i64 k ∧ k ≤ s.size ∧ OfRel w s k wr) (fun i w => s.size - (intOf i).toNat)
  case atStart => exact ⟨0, rfl, by omega, H0.out⟩
  case round =>
    clear H0
    obtain ⟨k, rfl, hk, d0, d1, d2, d3, hD, hv, hF, hl⟩ := hrel
    by_cases hk : k < s.size
    · have g1 : (0 : Int) ≤ (s.size : Int) - 1 - (k : Int) := by omega
      have g2 : (s.size : Int) - 1 - (k : Int) < (s.size : Int) := by omega
      have g3 : ((s.size : Int) - 1 - (k : Int)).toNat = s.size - 1 - k := by omega
      have g4 : s.size - 1 - k < s.size := by omega
      have gi := index_str s ((s.size : Int) - 1 - (k : Int)) (s.size - 1 - k) g4 (by omega)
      have hbv : (s[s.size - 1 - k]'g4).toNat = byteAt s (s.size - 1 - k) := by unfold byteAt; rw [dif_pos g4]
      rw [hbv] at gi
      clear hbv
      have hb := byteAt_lt s (s.size - 1 - k)
      have HL := Lib.hid (show lastOf s (k + 1) = lastOf s k + byteAt s (s.size - 1 - k) * 256 ^ k from rfl)
      generalize byteAt s (s.size - 1 - k) = b at *
      obtain ⟨p1, p2, p3, e0, e1, e2, e3, p4, p5⟩ := of_step hD hv (by omega) hb
      have g5 : (0 : Int) ≤ (k : Int) / 8 := by omega
      have g6 : (k : Int) / 8 < 4 := by omega
      have c1 := (cell_of hl (k / 8)).trans (four_at _ _ _ _ _ (by omega))
      have f1 := free_of hl (k / 8)
      have hdm : nth d0 d1 d2 d3 (k / 8) < M64 := hD.nth _
      have ho : Go.bits .or .u64 (nth d0 d1 d2 d3 (k / 8) : Int) (IntKind.u64.wrap ((b : Int) * 2 ^ (k % 8 * 8))) = ((nth d0 d1 d2 d3 (k / 8) + b * 2 ^ (k % 8 * 8) : Nat) : Int) := by
        have e1 : ((b : Int) * 2 ^ (k % 8 * 8)) = ((b * 2 ^ (k % 8 * 8) : Nat) : Int) := by simp
        rw [e1, wrap_nat _ p2, or64 _ _ hdm p2, or_add _ _ _ p1]
      have HP := Lib.hid p5; have HV := Lib.hid p3; have HD := Lib.hid p4; have Hl := Lib.hid hl; have HF := Lib.hid hF
      clear p1 p2 p3 p4 p5 hl hF hdm hv hD
      generalize nth d0 d1 d2 d3 (k / 8) + b * 2 ^ (k % 8 * 8) = z at *
      generalize nth d0 d1 d2 d3 (k / 8) = d at *
      go_wp2_with fail
      refine (placeOf_any _ (by omega) (by omega) _).mono ?_
      rintro e w2 ⟨rfl, rfl⟩
      go_wp2_with fail
      go_region
      go_wp2_with fail
      go_roundw
      case rel =>
        refine ⟨k + 1, by go_num, by omega, e0, e1, e2, e3, by rw [HL.out]; exact HD.out, by rw [HL.out]; exact HV.out, (HF.out.set (by simp) _).drew, ?_⟩
        exact (heap_setCell_same _ _ _ _ _ _ Hl.out).trans (by rw [HP.out])
      case measure => simp [intOf]; omega
    · have h32 : k = s.size := by omega
      subst h32
      obtain ⟨⟨c0, c1, c2, c3⟩, _⟩ := cells4 hl
      have k0 := hF.know (w.heap.size, #[.int .u64 0, .int .u64 0, .int .u64 0, .int .u64 0], 61) (by simp)
      have HF := Lib.hid hF; have HD := Lib.hid hD
      clear hl hF hD hv k0
      go_wp2_with fail
      refine (join_any _ _ _ _ _).mono ?_
      rintro e w4 ⟨rfl, hb4⟩
      have F := HF.out.call hb4
      have k0 := F.know (w.heap.size, #[.int .u64 0, .int .u64 0, .int .u64 0, .int .u64 0], 61) (by simp)
      obtain ⟨⟨q0, q1, q2, q3⟩, f0, f1, f2, f3⟩ := cells4 k0.2
      have K0 := Lib.hid k0; clear k0 hb4
      go_wp2_with fail
      exact bodyPost_ret (results_cell_slot Tryz.results233 _ _ _ _ _ _ _ _ rfl rfl (heap_set4 K0.out.2 _ _ _ _) Tryz.underlying61 rfl (by kernel_rfl)) rfl
        ⟨_, _, _, _, _, rfl, HD.out, rfl, below_set4 F.below (by omega) _ _ _ _⟩

end Go.Proofs.YtekoaheiapddiaaGreat
end
section
namespace Go.Proofs.YtekoaheiapddiaaGreat
open Go.RowKit
attribute [local go_sem ↓] Go.wp_at_zero Go.wp_at_succ

end Go.Proofs.YtekoaheiapddiaaGreat
end
section
namespace Go.Proofs.YtekoaheiapddiaaGreat
open Go.RowKit
attribute [local go_sem ↓] Go.wp_at_zero Go.wp_at_succ

end Go.Proofs.YtekoaheiapddiaaGreat
end
section
namespace Go.Proofs.YtekoaheiapddiaaGreat
open Go.RowKit

theorem eq_words (a0 a1 a2 a3 b0 b1 b2 b3 : Int) (w : World) :
    (binOp .eql 61 (.agg #[.int .u64 a0, .int .u64 a1, .int .u64 a2, .int .u64 a3]) (.agg #[.int .u64 b0, .int .u64 b1, .int .u64 b2, .int .u64 b3])).run Tryz.prog w =
      .ok (.bool (a0 == b0 && (a1 == b1 && (a2 == b2 && a3 == b3)))) w := by
  have u3 := Tryz.underlying41
  have a3' := Tryz.isAgg41
  have z3 := Tryz.sizeOf41
  have hS : Tryz.prog.underlying 61 = some (.struct (Tryz.prog.fieldsOf 61)) := by kernel_rfl
  have hp : Tryz.prog.stoodInHeld 61 = false := by kernel_rfl
  rw [run_eql_struct, show (10000 : Nat) = 9999 + 1 from rfl, run_equalIn_agg w 9999 61 _ _ hS hp]
  simp only [Program.fieldsOf, Tryz.underlying61]
  go_simp
  by_cases h0 : a0 = b0 <;> by_cases h1 : a1 = b1 <;> by_cases h2 : a2 = b2 <;> by_cases h3 : a3 = b3 <;> simp [h0, h1, h2, h3]
end Go.Proofs.YtekoaheiapddiaaGreat
end
section
namespace Go.Proofs.YtekoaheiapddiaaGreat
open Go.RowKit

theorem str_list (s : ByteArray) : str s.data.toList = s := by simp [str]
theorem str_append (a b : List UInt8) : str a ++ str b = str (a ++ b) := by
  apply ByteArray.ext
  simp [str, ByteArray.data_append]
theorem str_get (l : List UInt8) (i : Nat) (h : i < (str l).size) : (str l)[i]'h = l[i]'(by rw [← str_size]; exact h) := by
  simp [str, ByteArray.getElem_eq_getElem_data]

theorem b8 {n : Nat} (h : n < 256) : (UInt8.ofNat n).toNat = n := UInt8.toNat_ofNat_of_lt' h
theorem snoc_ind {α : Type} {P : List α → Prop} (h0 : P []) (hs : ∀ l b, P l → P (l ++ [b])) (l : List α) : P l := by
  rw [← l.reverse_reverse]
  induction l.reverse with
  | nil => exact h0
  | cons b t ih => rw [List.reverse_cons]; exact hs _ _ ih
/-- A number's bytes, the highest first, none ahead that is 0. -/
def num (n : Nat) : List UInt8 := if _h : n = 0 then [] else num (n / 256) ++ [UInt8.ofNat (n % 256)]
termination_by n
decreasing_by omega
theorem num_zero : num 0 = [] := by rw [num]; simp
theorem num_pos {n : Nat} (h : n ≠ 0) : num n = num (n / 256) ++ [UInt8.ofNat (n % 256)] := by rw [num, dif_neg h]
/-- The number of bytes. -/
def val (l : List UInt8) : Nat := l.foldl (fun a b => a * 256 + b.toNat) 0
theorem val_snoc (l : List UInt8) (b : UInt8) : val (l ++ [b]) = val l * 256 + b.toNat := by simp [val]
theorem val_num (n : Nat) : val (num n) = n := by
  induction n using Nat.strongRecOn with
  | ind n ih =>
    by_cases h : n = 0
    · subst h; rw [num_zero]; rfl
    · rw [num_pos h, val_snoc, ih _ (by omega), b8 (Nat.mod_lt _ (by decide))]; omega
theorem num_length_le {n : Nat} : ∀ k, n < 256 ^ k → (num n).length ≤ k := by
  induction n using Nat.strongRecOn with
  | ind n ih =>
    intro k hk
    by_cases h : n = 0
    · subst h; rw [num_zero]; simp
    · rcases k with _ | k
      · simp at hk; omega
      · rw [num_pos h, List.length_append]
        have := ih (n / 256) (by omega) k (by rw [Nat.pow_succ] at hk; omega)
        simp; omega
theorem num_head {n : Nat} : ∀ b r, num n = b :: r → b ≠ 0 := by
  induction n using Nat.strongRecOn with
  | ind n ih =>
    intro b r hr
    by_cases h : n = 0
    · subst h; rw [num_zero] at hr; cases hr
    · rw [num_pos h] at hr
      by_cases h2 : n / 256 = 0
      · rw [h2, num_zero] at hr
        simp at hr
        intro hb
        rw [hb] at hr
        have := congrArg UInt8.toNat hr.1
        rw [b8 (Nat.mod_lt _ (by decide))] at this
        have h3 : (0 : UInt8).toNat = 0 := rfl
        omega
      · have hne : num (n / 256) ≠ [] := by
          rw [num_pos h2]; simp
        obtain ⟨c, q, hc⟩ := List.exists_cons_of_ne_nil hne
        rw [hc] at hr
        simp at hr
        rw [← hr.1]
        exact ih _ (by omega) c q hc
theorem num_length_pos {n : Nat} (h : n ≠ 0) : 0 < (num n).length := by rw [num_pos h]; simp
theorem val_lt (l : List UInt8) : val l < 256 ^ l.length := by
  refine snoc_ind (P := fun l => val l < 256 ^ l.length) (by simp [val]) (fun l b ih => ?_) l
  rw [val_snoc, List.length_append, Nat.pow_add]
  have := b.toNat_lt
  simp; omega
theorem num_val (l : List UInt8) : (∀ b r, l = b :: r → b ≠ 0) → num (val l) = l := by
  refine snoc_ind (P := fun l => (∀ b r, l = b :: r → b ≠ 0) → num (val l) = l) (fun _ => by simp [val, num_zero]) (fun l b ih h => ?_) l
  · have hb := b.toNat_lt
    rw [val_snoc]
    rcases l with _ | ⟨c, l⟩
    · have hb0 : b ≠ 0 := h b [] rfl
      have hn : b.toNat ≠ 0 := fun e => hb0 (by rw [← UInt8.ofNat_toNat (x := b), e]; rfl)
      have e1 : val [] * 256 + b.toNat = b.toNat := by simp [val]
      rw [e1, num_pos hn, show b.toNat / 256 = 0 by omega, num_zero, show b.toNat % 256 = b.toNat by omega]
      simp
    · have hl : num (val (c :: l)) = c :: l := ih (fun b' r' e => h b' (r' ++ [b]) (by rw [e]; rfl))
      have h0 : val (c :: l) ≠ 0 := fun e => by rw [e, num_zero] at hl; cases hl
      rw [num_pos (by omega), show (val (c :: l) * 256 + b.toNat) / 256 = val (c :: l) by omega, show (val (c :: l) * 256 + b.toNat) % 256 = b.toNat by omega, hl]
      simp

/-- What stands ahead of so many bytes. -/
def hd (k n : Nat) : List UInt8 := if n ≤ 55 then [UInt8.ofNat (k + n)] else UInt8.ofNat (k + 55 + (num n).length) :: num n
/-- Is a text its one byte? -/
def bareL : List UInt8 → Bool
  | [b] => decide (b.toNat < 128)
  | _ => false
def hdT (s : List UInt8) : List UInt8 := if bareL s then [] else hd 128 s.length
def encT (s : List UInt8) : List UInt8 := hdT s ++ s

/-- Items one behind the other: texts and lists. -/
inductive Fo where
  | nil : Fo
  | text (s : List UInt8) (r : Fo) : Fo
  | list (i r : Fo) : Fo
def Fo.len : Fo → Nat
  | .nil => 0
  | .text _ r => r.len + 1
  | .list _ r => r.len + 1
def Fo.app : Fo → Fo → Fo
  | .nil, g => g
  | .text s r, g => .text s (r.app g)
  | .list i r, g => .list i (r.app g)
def Fo.enc : Fo → List UInt8
  | .nil => []
  | .text s r => encT s ++ r.enc
  | .list i r => hd 192 i.enc.length ++ i.enc ++ r.enc
theorem Fo.app_nil (f : Fo) : f.app .nil = f := by
  induction f with
  | nil => rfl
  | text s r ih => simp [Fo.app, ih]
  | list i r _ ih => simp [Fo.app, ih]
theorem Fo.app_assoc (f g h : Fo) : (f.app g).app h = f.app (g.app h) := by
  induction f with
  | nil => rfl
  | text s r ih => simp [Fo.app, ih]
  | list i r _ ih => simp [Fo.app, ih]
theorem Fo.enc_app (f g : Fo) : (f.app g).enc = f.enc ++ g.enc := by
  induction f with
  | nil => rfl
  | text s r ih => simp [Fo.app, Fo.enc, ih]
  | list i r _ ih => simp [Fo.app, Fo.enc, ih]
theorem Fo.len_app (f g : Fo) : (f.app g).len = f.len + g.len := by
  induction f with
  | nil => simp [Fo.app, Fo.len]
  | text s r ih => simp [Fo.app, Fo.len, ih]; omega
  | list i r _ ih => simp [Fo.app, Fo.len, ih]; omega

/-- Take so many bytes. -/
def tk (n : Nat) (s : List UInt8) : Option (List UInt8 × List UInt8) := if n ≤ s.length then some (s.take n, s.drop n) else none
/-- Is it a number's text of at most eight bytes? -/
def smallL (s : List UInt8) : Bool := decide (s.length ≤ 8) && (s.head? != some 0)
def bodyP (a : Nat) (s : List UInt8) : Option (List UInt8 × List UInt8) :=
  if a ≤ 55 then tk a s else
    match tk (a - 55) s with
    | none => none
    | some (n, r) => if smallL n = true ∧ 55 < val n then tk (val n) r else none
def itemsP (p : List UInt8 → Option (Fo × List UInt8)) : Nat → List UInt8 → Option Fo
  | _, [] => some .nil
  | 0, _ :: _ => none
  | n + 1, b :: s =>
    match p (b :: s) with
    | none => none
    | some (f, r) =>
      match itemsP p n r with
      | none => none
      | some g => some (f.app g)
/-- A text, a list, out of their bytes. -/
def textS : Option (List UInt8 × List UInt8) → Option (Fo × List UInt8)
  | none => none
  | some (x, r') => if bareL x then none else some (.text x .nil, r')
def listS (p : List UInt8 → Option (Fo × List UInt8)) : Option (List UInt8 × List UInt8) → Option (Fo × List UInt8)
  | none => none
  | some (x, r') =>
    match itemsP p x.length x with
    | none => none
    | some f => some (.list f .nil, r')
/-- An item out of bytes; p: an item in one list more. -/
def itemS (p : List UInt8 → Option (Fo × List UInt8)) : List UInt8 → Option (Fo × List UInt8)
  | [] => none
  | b :: r =>
    if b.toNat < 128 then some (.text [b] .nil, r)
    else if b.toNat < 192 then textS (bodyP (b.toNat - 128) r)
    else listS p (bodyP (b.toNat - 192) r)
/-- .. that may stand in so many lists and one less. -/
def itemP : Nat → List UInt8 → Option (Fo × List UInt8)
  | 0 => fun _ => none
  | d + 1 => itemS (itemP d)
/-- All of a text as one item. -/
def decP (s : List UInt8) : Option Fo :=
  match itemP 65 s with
  | some (f, []) => some f
  | _ => none

/-- The items f lie one behind the other from cell o of block g on; what they name lies in blocks of S. -/
def Fo.At (S : Nat → Prop) : Fo → Nat → Nat → World → Prop
  | .nil, _, _, _ => True
  | .text s r, g, o, W => (W.cell? ⟨g, o, none⟩ = some (.bool false) ∧ W.cell? ⟨g, o + 1, none⟩ = some (.string (str s)) ∧ W.cell? ⟨g, o + 2, none⟩ = some (.slice none 0 0)) ∧ r.At S g (o + 3) W
  | .list i r, g, o, W => (W.cell? ⟨g, o, none⟩ = some (.bool true) ∧ W.cell? ⟨g, o + 1, none⟩ = some (.string ⟨#[]⟩) ∧
      ∃ v, W.cell? ⟨g, o + 2, none⟩ = some v ∧ ((v = .slice none 0 0 ∧ i = .nil) ∨ ∃ g' o' c, v = .slice (some ⟨g', o', none⟩) i.len c ∧ S g' ∧ i.len ≤ c ∧ i.At S g' o' W)) ∧ r.At S g (o + 3) W
/-- A slice of items. -/
def SlF (S : Nat → Prop) (f : Fo) (v : Value) (W : World) : Prop :=
  (v = .slice none 0 0 ∧ f = .nil) ∨ ∃ g o c, v = .slice (some ⟨g, o, none⟩) f.len c ∧ S g ∧ f.len ≤ c ∧ f.At S g o W
theorem Fo.At.kept {S : Nat → Prop} {W W' : World} (hb : ∀ k, S k → W'.heap[k]? = W.heap[k]?) : ∀ (f : Fo) (g o : Nat), S g → f.At S g o W → f.At S g o W' := by
  intro f
  induction f with
  | nil => intro g o _ _; trivial
  | text s r ih =>
    intro g o hg h
    have hc : ∀ j, W'.cell? ⟨g, j, none⟩ = W.cell? ⟨g, j, none⟩ := fun j => World.cell?_of_block (hb g hg)
    exact ⟨⟨(hc _).trans h.1.1, (hc _).trans h.1.2.1, (hc _).trans h.1.2.2⟩, ih g _ hg h.2⟩
  | list i r ihi ih =>
    intro g o hg h
    have hc : ∀ j, W'.cell? ⟨g, j, none⟩ = W.cell? ⟨g, j, none⟩ := fun j => World.cell?_of_block (hb g hg)
    obtain ⟨⟨h1, h2, v, h3, h4⟩, h5⟩ := h
    refine ⟨⟨(hc _).trans h1, (hc _).trans h2, v, (hc _).trans h3, ?_⟩, ih g _ hg h5⟩
    rcases h4 with h4 | ⟨g', o', c, e, hl, hn, ha⟩
    · exact Or.inl h4
    · exact Or.inr ⟨g', o', c, e, hl, hn, ihi g' o' hl ha⟩
theorem Fo.At.mono {S T : Nat → Prop} {W : World} (hm : ∀ k, S k → T k) : ∀ (f : Fo) (g o : Nat), f.At S g o W → f.At T g o W := by
  intro f
  induction f with
  | nil => intro g o _; trivial
  | text s r ih => intro g o h; exact ⟨h.1, ih g _ h.2⟩
  | list i r ihi ih =>
    intro g o h
    obtain ⟨⟨h1, h2, v, h3, h4⟩, h5⟩ := h
    refine ⟨⟨h1, h2, v, h3, ?_⟩, ih g _ h5⟩
    rcases h4 with h4 | ⟨g', o', c, e, hl, hn, ha⟩
    · exact Or.inl h4
    · exact Or.inr ⟨g', o', c, e, hm _ hl, hn, ihi g' o' ha⟩
theorem SlF.kept {S : Nat → Prop} {f : Fo} {v : Value} {W W' : World} (hb : ∀ k, S k → W'.heap[k]? = W.heap[k]?) (h : SlF S f v W) : SlF S f v W' := by
  rcases h with h | ⟨g, o, c, e, hl, hn, ha⟩
  · exact Or.inl h
  · exact Or.inr ⟨g, o, c, e, hl, hn, Fo.At.kept hb f g o hl ha⟩
theorem SlF.mono {S T : Nat → Prop} {f : Fo} {v : Value} {W : World} (hm : ∀ k, S k → T k) (h : SlF S f v W) : SlF T f v W := by
  rcases h with h | ⟨g, o, c, e, hl, hn, ha⟩
  · exact Or.inl h
  · exact Or.inr ⟨g, o, c, e, hm _ hl, hn, Fo.At.mono hm f g o ha⟩
/-- The cells of items. -/
def Cel (S : Nat → Prop) : Fo → List Value → World → Prop
  | .nil, xs, _ => xs = []
  | .text s r, xs, W => ∃ ys, xs = .bool false :: .string (str s) :: .slice none 0 0 :: ys ∧ Cel S r ys W
  | .list i r, xs, W => ∃ v ys, xs = .bool true :: .string ⟨#[]⟩ :: v :: ys ∧ SlF S i v W ∧ Cel S r ys W
theorem Cel.at {S : Nat → Prop} {W : World} {g : Nat} : ∀ (f : Fo) (xs : List Value) (o : Nat), (∀ j u, xs[j]? = some u → W.cell? ⟨g, o + j, none⟩ = some u) → Cel S f xs W → f.At S g o W := by
  intro f
  induction f with
  | nil => intro xs o _ _; trivial
  | text s r ih =>
    intro xs o hx h
    obtain ⟨ys, rfl, h⟩ := h
    exact ⟨⟨hx 0 _ rfl, hx 1 _ rfl, hx 2 _ rfl⟩, ih ys _ (fun j u hj => by rw [show o + 3 + j = o + (j + 3) by omega]; exact hx (j + 3) u (by simpa using hj)) h⟩
  | list i r _ ih =>
    intro xs o hx h
    obtain ⟨v, ys, rfl, hv, h⟩ := h
    refine ⟨⟨hx 0 _ rfl, hx 1 _ rfl, v, hx 2 _ rfl, hv⟩, ih ys _ (fun j u hj => by rw [show o + 3 + j = o + (j + 3) by omega]; exact hx (j + 3) u (by simpa using hj)) h⟩
theorem Cel.kept {S : Nat → Prop} {W W' : World} (hb : ∀ k, S k → W'.heap[k]? = W.heap[k]?) : ∀ (f : Fo) (xs : List Value), Cel S f xs W → Cel S f xs W' := by
  intro f
  induction f with
  | nil => intro xs h; exact h
  | text s r ih => intro xs h; obtain ⟨ys, e, h⟩ := h; exact ⟨ys, e, ih ys h⟩
  | list i r _ ih => intro xs h; obtain ⟨v, ys, e, hv, h⟩ := h; exact ⟨v, ys, e, hv.kept hb, ih ys h⟩
theorem Cel.mono {S T : Nat → Prop} {W : World} (hm : ∀ k, S k → T k) : ∀ (f : Fo) (xs : List Value), Cel S f xs W → Cel T f xs W := by
  intro f
  induction f with
  | nil => intro xs h; exact h
  | text s r ih => intro xs h; obtain ⟨ys, e, h⟩ := h; exact ⟨ys, e, ih ys h⟩
  | list i r _ ih => intro xs h; obtain ⟨v, ys, e, hv, h⟩ := h; exact ⟨v, ys, e, hv.mono hm, ih ys h⟩
theorem Cel.app {S : Nat → Prop} {W : World} {h : Fo} {zs : List Value} (hz : Cel S h zs W) : ∀ (f : Fo) (xs : List Value), Cel S f xs W → Cel S (f.app h) (xs ++ zs) W := by
  intro f
  induction f with
  | nil => intro xs hx; cases hx; exact hz
  | text s r ih => intro xs hx; obtain ⟨ys, rfl, hx⟩ := hx; exact ⟨ys ++ zs, rfl, ih ys hx⟩
  | list i r _ ih => intro xs hx; obtain ⟨v, ys, rfl, hv, hx⟩ := hx; exact ⟨v, ys ++ zs, rfl, hv, ih ys hx⟩
theorem Cel.length {S : Nat → Prop} {W : World} : ∀ (f : Fo) (xs : List Value), Cel S f xs W → xs.length = f.len * 3 := by
  intro f
  induction f with
  | nil => intro xs hx; cases hx; rfl
  | text s r ih => intro xs hx; obtain ⟨ys, rfl, hx⟩ := hx; simp [Fo.len, ih ys hx]; omega
  | list i r _ ih => intro xs hx; obtain ⟨v, ys, rfl, hv, hx⟩ := hx; simp [Fo.len, ih ys hx]; omega
/-- An item, as a value: a text or a list. -/
inductive It where
  | text (s : List UInt8) : It
  | list (i : Fo) : It
def It.fo : It → Fo → Fo
  | .text s, r => .text s r
  | .list i, r => .list i r
def It.enc : It → List UInt8
  | .text s => encT s
  | .list i => hd 192 i.enc.length ++ i.enc
def ItV (S : Nat → Prop) : It → Value → World → Prop
  | .text s, v, _ => v = .agg #[.bool false, .string (str s), .slice none 0 0]
  | .list i, v, W => ∃ u, v = .agg #[.bool true, .string ⟨#[]⟩, u] ∧ SlF S i u W
theorem ItV.kept {S : Nat → Prop} {x : It} {v : Value} {W W' : World} (hb : ∀ k, S k → W'.heap[k]? = W.heap[k]?) (h : ItV S x v W) : ItV S x v W' := by
  cases x with
  | text s => exact h
  | list i => obtain ⟨u, e, h⟩ := h; exact ⟨u, e, h.kept hb⟩
theorem ItV.mono {S T : Nat → Prop} {x : It} {v : Value} {W : World} (hm : ∀ k, S k → T k) (h : ItV S x v W) : ItV T x v W := by
  cases x with
  | text s => exact h
  | list i => obtain ⟨u, e, h⟩ := h; exact ⟨u, e, h.mono hm⟩
theorem SlF.form {S : Nat → Prop} {f : Fo} {v : Value} {W : World} (h : SlF S f v W) : ∃ a n c, v = .slice a n c := by
  rcases h with ⟨rfl, _⟩ | ⟨g, o, c, rfl, _⟩
  · exact ⟨_, _, _, rfl⟩
  · exact ⟨_, _, _, rfl⟩
theorem ItV.form {S : Nat → Prop} {x : It} {v : Value} {W : World} (h : ItV S x v W) : ∃ b s a n c, v = .agg #[.bool b, .string s, .slice a n c] := by
  cases x with
  | text s => exact ⟨_, _, _, _, _, h⟩
  | list i =>
    obtain ⟨u, e, h⟩ := h
    obtain ⟨a, n, c, rfl⟩ := h.form
    exact ⟨_, _, _, _, _, e⟩
/-- An item's three cells. -/
theorem ItV.cel {S : Nat → Prop} {x : It} {v : Value} {W : World} (h : ItV S x v W) : ∃ b s l, v = .agg #[.bool b, .string s, l] ∧ l.oneCell' = true ∧ Cel S (x.fo .nil) [.bool b, .string s, l] W := by
  cases x with
  | text s => exact ⟨false, str s, .slice none 0 0, h, rfl, [], rfl, rfl⟩
  | list i =>
    obtain ⟨u, e, h⟩ := h
    refine ⟨true, ⟨#[]⟩, u, e, ?_, u, [], rfl, h, rfl⟩
    rcases h with ⟨rfl, _⟩ | ⟨g, o, c, rfl, _⟩ <;> rfl
end Go.Proofs.YtekoaheiapddiaaGreat
end
