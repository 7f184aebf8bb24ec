/- Keccak's texts: bytes of a text, texts of numbers, lanes of bytes. -/
import Derived.Test.YtialfpkmcafkmaaGreatRows
import Derived.Test.YtialfpkmcafkmaaGreatKNum
import Derived.Lib.SlBytesRow
import Derived.Lib.BufferWrite
namespace Go.Proofs.YtialfpkmcafkmaaGreat
open Go.RowKit

def byteAt (s : ByteArray) (j : Nat) : Nat := if h : j < s.size then (s[j]'h).toNat else 0
theorem byteAt_lt (s : ByteArray) (j : Nat) : byteAt s j < 256 := by
  unfold byteAt; split
  · exact UInt8.toNat_lt _
  · omega
theorem byteAt_past {s : ByteArray} {j : Nat} (h : s.size ≤ j) : byteAt s j = 0 := by unfold byteAt; rw [dif_neg (by omega)]
theorem index_i64 (s : ByteArray) (i : Int) (j : Nat) (hj : j < s.size) (e : i = (j : Int)) (W : World) : (Instr.index 9 (.string s) (.int .i64 i)).run Tryz.prog W = .ok (.int .u8 (byteAt s j : Int)) W := by
  subst e
  rw [run_index_string W _ _ _ _ Tryz.underlying9, dif_pos ⟨by omega, by omega⟩]
  unfold byteAt
  rw [dif_pos hj]
  simp
theorem byteAt_extract (s : ByteArray) (a b j : Nat) (h : a + j < b) : byteAt (s.extract a b) j = byteAt s (a + j) := by
  unfold byteAt
  by_cases hs : a + j < s.size
  · rw [dif_pos (by rw [ByteArray.size_extract]; omega), dif_pos hs, ByteArray.getElem_extract]
  · rw [dif_neg (by rw [ByteArray.size_extract]; omega), dif_neg hs]

/-- The text of n numbers. -/
def txt (n : Nat) (g : Nat → Nat) : ByteArray := ⟨((List.range n).map fun i => UInt8.ofNat (g i)).toArray⟩
theorem txt_size (n : Nat) (g : Nat → Nat) : (txt n g).size = n := by simp [txt, ByteArray.size]
theorem txt_congr {n : Nat} {f g : Nat → Nat} (h : ∀ j, j < n → f j = g j) : txt n f = txt n g := by
  unfold txt
  congr 2
  apply List.map_congr_left
  intro j hj
  rw [h j (by simpa using hj)]
theorem byteAt_txt {n : Nat} {g : Nat → Nat} (hg : ∀ i, g i < 256) {j : Nat} (hj : j < n) : byteAt (txt n g) j = g j := by
  have hs : j < (txt n g).size := by rw [txt_size]; exact hj
  unfold byteAt
  rw [dif_pos hs]
  have : (txt n g)[j]'hs = UInt8.ofNat (g j) := by simp [txt, ByteArray.getElem_eq_getElem_data]
  rw [this, UInt8.toNat_ofNat_of_lt' (hg j)]
theorem txt_byteAt (s : ByteArray) : txt s.size (byteAt s) = s := by
  apply ByteArray.ext
  apply Array.ext_getElem?
  intro j
  by_cases hj : j < s.size
  · have h2 : j < s.data.size := hj
    simp [txt, hj, byteAt, ByteArray.getElem_eq_getElem_data]
  · have h2 : ¬ j < s.data.size := hj
    simp [txt, hj]
theorem txt_inj {n : Nat} {f g : Nat → Nat} (hf : ∀ i, f i < 256) (hg : ∀ i, g i < 256) (h : txt n f = txt n g) {j : Nat} (hj : j < n) : f j = g j := by
  rw [← byteAt_txt hf hj, ← byteAt_txt hg hj, h]
/-- The whole row of bytes as a text. -/
theorem conv_blk (w : World) (b n cap : Nat) (g : Nat → Nat) (hg : ∀ i, g i < 256) (t : TypeId) (h : w.heap[b]? = some (.cells (blk .u8 n g) t (0, 0))) :
    (convert 80 9 (.slice (some ⟨b, 0, none⟩) n cap)).run Tryz.prog w = .ok (.string (txt n g)) w := by
  have := Lib.run_convert_whole (P := Tryz.prog) w 80 5 9 Tryz.underlying80 Tryz.underlying5 Tryz.underlying9 b 0 (txt n g) (by
    intro i hi
    rw [txt_size] at hi
    have e : (txt n g)[i]'(by rw [txt_size]; exact hi) = UInt8.ofNat (g i) := by simp [txt, ByteArray.getElem_eq_getElem_data]
    rw [Nat.zero_add, show w.cell? ⟨b, i, none⟩ = _ from (by simp [World.cell?, h] : w.cell? ⟨b, i, none⟩ = (blk .u8 n g)[i]?), blk_at _ _ hi, e, UInt8.toNat_ofNat_of_lt' (hg i)]) cap
  rwa [txt_size] at this

/-- The first k as g has them, the others as h. -/
def til (g h : Nat → Nat) (k i : Nat) : Nat := if i < k then g i else h i
theorem til_step (g h : Nat → Nat) (k j : Nat) : upd (til g h k) k (g k) j = til g h (k + 1) j := by
  unfold upd til
  by_cases e : j = k
  · subst e; rw [if_pos rfl, if_pos (by omega)]
  · rw [if_neg e]
    by_cases e2 : j < k
    · rw [if_pos e2, if_pos (by omega)]
    · rw [if_neg e2, if_neg (by omega)]
theorem til_at (g h : Nat → Nat) (k : Nat) : til g h k k = h k := if_neg (Nat.lt_irrefl _)
theorem til_lt {g h : Nat → Nat} {k j : Nat} (hj : j < k) : til g h k j = g j := if_pos hj
theorem til_zero (g h : Nat → Nat) : til g h 0 = h := by funext j; exact if_neg (by omega)

/-- The first k bytes as a lane. -/
def lnK (g : Nat → Nat) : Nat → Nat
  | 0 => 0
  | k + 1 => lnK g k ||| (g k * 2 ^ (8 * k) % M64)
theorem lnK_lt (g : Nat → Nat) (k : Nat) : lnK g k < M64 := by
  induction k with
  | zero => show 0 < M64; decide
  | succ k ih => exact or_lt ih (Nat.mod_lt _ (by decide))
theorem lnK_congr {f g : Nat → Nat} {k : Nat} (h : ∀ j, j < k → f j = g j) : lnK f k = lnK g k := by
  induction k with
  | zero => rfl
  | succ k ih => rw [lnK, lnK, ih fun j hj => h j (by omega), h k (by omega)]
/-- The state with k lanes of a block xored in; the state behind the block; behind k blocks of a text. -/
def soakF (f s : Nat → Nat) (k i : Nat) : Nat := if i < k then f i ^^^ lnK (fun j => s (8 * i + j)) 8 else f i
theorem soakF_lt {f : Nat → Nat} (hf : ∀ i, f i < M64) (s : Nat → Nat) (k i : Nat) : soakF f s k i < M64 := by
  unfold soakF
  split
  · exact xor_lt (hf i) (lnK_lt _ _)
  · exact hf i
theorem soakF_step (f s : Nat → Nat) (k j : Nat) : upd (soakF f s k) k (f k ^^^ lnK (fun j => s (8 * k + j)) 8) j = soakF f s (k + 1) j := by
  unfold upd soakF
  by_cases e : j = k
  · subst e; rw [if_pos rfl, if_pos (by omega)]
  · rw [if_neg e]
    by_cases e2 : j < k
    · rw [if_pos e2, if_pos (by omega)]
    · rw [if_neg e2, if_neg (by omega)]
theorem soakF_at (f s : Nat → Nat) (k : Nat) : soakF f s k k = f k := if_neg (Nat.lt_irrefl _)
/-- What fills up a text's end of n bytes; a sum's bytes. -/
def padN (s : Nat → Nat) (n j : Nat) : Nat := (if j < n then s j else if j = n then 1 else 0) ^^^ (if j = 135 then 128 else 0)
theorem padN_lt {s : Nat → Nat} (hs : ∀ i, s i < 256) (n j : Nat) : padN s n j < 256 := by
  unfold padN
  refine Nat.xor_lt_two_pow (n := 8) ?_ ?_
  · split
    · exact hs j
    · split <;> omega
  · split <;> omega
def outN (f : Nat → Nat) (i : Nat) : Nat := f (i / 8) / 2 ^ (8 * (i % 8)) % 256
theorem outN_lt (f : Nat → Nat) (i : Nat) : outN f i < 256 := Nat.mod_lt _ (by decide)
end Go.Proofs.YtialfpkmcafkmaaGreat
