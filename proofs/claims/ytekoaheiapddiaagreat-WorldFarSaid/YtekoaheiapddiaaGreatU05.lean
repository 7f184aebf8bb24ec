/- Merged: KNum, KText, Ca, Cb, Cc, Cd, Ce. -/
import Derived.Test.YtekoaheiapddiaaGreatU01
import Derived.Deep.WholeRow
import Derived.Laws.Bits64
import Derived.Laws.Bits64b
import Derived.Test.YtekoaheiapddiaaGreatRows
import Derived.Lib.SlBytesRow
import Derived.Lib.BufferWrite
import Derived.Laws.BitsAllLaws
import Derived.RegionTactic
import Derived.StillTailTactics
section
namespace Go.Proofs.YtekoaheiapddiaaGreat
open Go.RowKit

/-- A block of n numbers of one kind. -/
def blk (k : IntKind) (n : Nat) (f : Nat → Nat) : Array Value := ((List.range n).map fun i => Value.int k (f i : Int)).toArray
def upd (f : Nat → Nat) (j v : Nat) : Nat → Nat := fun i => if i = j then v else f i
theorem upd_same (f : Nat → Nat) (j v : Nat) : upd f j v j = v := if_pos rfl
theorem upd_other (f : Nat → Nat) {j i : Nat} (v : Nat) (h : i ≠ j) : upd f j v i = f i := if_neg h
theorem blk_size (k : IntKind) (n : Nat) (f : Nat → Nat) : (blk k n f).size = n := by simp [blk]
theorem blk_at (k : IntKind) {n : Nat} (f : Nat → Nat) {j : Nat} (hj : j < n) : (blk k n f)[j]? = some (.int k (f j : Int)) := by simp [blk, hj]
theorem blk_none (k : IntKind) {n : Nat} (f : Nat → Nat) {j : Nat} (hj : n ≤ j) : (blk k n f)[j]? = none := by simp [blk]; omega
theorem blk_set (k : IntKind) {n : Nat} (f : Nat → Nat) (q v : Nat) : (blk k n f).setIfInBounds q (.int k (v : Int)) = blk k n (upd f q v) := by
  apply Array.ext_getElem?
  intro j
  rw [Array.getElem?_setIfInBounds]
  by_cases hj : j < n
  · rw [blk_at _ _ hj, blk_at _ _ hj]
    by_cases e : q = j
    · subst e; simp [blk_size, hj, upd]
    · rw [if_neg e, upd_other _ _ (Ne.symm e)]
  · rw [blk_none _ _ (by omega), blk_none _ _ (by omega)]
    by_cases e : q = j
    · subst e; rw [if_pos rfl, if_neg (by rw [blk_size]; omega)]
    · rw [if_neg e]
theorem blk_congr (k : IntKind) {n : Nat} {f g : Nat → Nat} (h : ∀ j, j < n → f j = g j) : blk k n f = blk k n g := by
  unfold blk
  congr 1
  apply List.map_congr_left
  intro j hj
  rw [h j (by simpa using hj)]
theorem blk_one (k : IntKind) (n : Nat) (f : Nat → Nat) : (blk k n f).all (·.oneCell') = true := by
  rw [Array.all_eq_true_iff_forall_mem]
  intro v hv
  simp only [blk, List.mem_toArray, List.mem_map] at hv
  obtain ⟨i, _, rfl⟩ := hv
  rfl

theorem ret_int {k : IntKind} {a b : Int} (h : a = b) : Ending.returned (.int k a) = .returned (.int k b) := by rw [h]
end Go.Proofs.YtekoaheiapddiaaGreat
end
section
namespace Go.Proofs.YtekoaheiapddiaaGreat
open Go.RowKit

def byteAtK (s : ByteArray) (j : Nat) : Nat := if h : j < s.size then (s[j]'h).toNat else 0
theorem byteAt_ltK (s : ByteArray) (j : Nat) : byteAtK s j < 256 := by
  unfold byteAtK; split
  · exact UInt8.toNat_lt _
  · omega
theorem index_i64K (s : ByteArray) (i : Int) (j : Nat) (hj : j < s.size) (e : i = (j : Int)) (W : World) : (Instr.index 9 (.string s) (.int .i64 i)).run Tryz.prog W = .ok (.int .u8 (byteAtK s j : Int)) W := by
  subst e
  rw [run_index_string W _ _ _ _ Tryz.underlying9, dif_pos ⟨by omega, by omega⟩]
  unfold byteAtK
  rw [dif_pos hj]
  simp
/-- The text of n numbers. -/
def txt (n : Nat) (g : Nat → Nat) : ByteArray := ⟨((List.range n).map fun i => UInt8.ofNat (g i)).toArray⟩
theorem txt_size (n : Nat) (g : Nat → Nat) : (txt n g).size = n := by simp [txt, ByteArray.size]
theorem txt_congr {n : Nat} {f g : Nat → Nat} (h : ∀ j, j < n → f j = g j) : txt n f = txt n g := by
  unfold txt
  congr 2
  apply List.map_congr_left
  intro j hj
  rw [h j (by simpa using hj)]
theorem txt_byteAt (s : ByteArray) : txt s.size (byteAtK s) = s := by
  apply ByteArray.ext
  apply Array.ext_getElem?
  intro j
  by_cases hj : j < s.size
  · have h2 : j < s.data.size := hj
    simp [txt, hj, byteAtK, ByteArray.getElem_eq_getElem_data]
  · have h2 : ¬ j < s.data.size := hj
    simp [txt, hj]
/-- The first k as g has them, the others as h. -/
def til (g h : Nat → Nat) (k i : Nat) : Nat := if i < k then g i else h i
theorem til_step (g h : Nat → Nat) (k j : Nat) : upd (til g h k) k (g k) j = til g h (k + 1) j := by
  unfold upd til
  by_cases e : j = k
  · subst e; rw [if_pos rfl, if_pos (by omega)]
  · rw [if_neg e]
    by_cases e2 : j < k
    · rw [if_pos e2, if_pos (by omega)]
    · rw [if_neg e2, if_neg (by omega)]
theorem til_at (g h : Nat → Nat) (k : Nat) : til g h k k = h k := if_neg (Nat.lt_irrefl _)
theorem til_lt {g h : Nat → Nat} {k j : Nat} (hj : j < k) : til g h k j = g j := if_pos hj
theorem til_zero (g h : Nat → Nat) : til g h 0 = h := by funext j; exact if_neg (by omega)

end Go.Proofs.YtekoaheiapddiaaGreat
end
section
namespace Go.Proofs.YtekoaheiapddiaaGreat
open Go.RowKit

/-- What is xored in; a sum of 32 bits moved by one bit 0, by k of them. -/
def P32 : Nat := 3988292384
def mv (s : Nat) : Nat := s / 2 ^^^ (s % 2) * P32
def mvk : Nat → Nat → Nat
  | 0, s => s
  | k + 1, s => mv (mvk k s)

theorem xor_half (a b : Nat) : (a ^^^ b) / 2 = a / 2 ^^^ b / 2 := by
  have := Nat.shiftRight_xor_distrib (a := a) (b := b) (i := 1)
  simpa [Nat.shiftRight_eq_div_pow] using this
theorem xor_par (a b : Nat) : (a ^^^ b) % 2 = (a % 2) ^^^ (b % 2) := Nat.xor_mod_two_pow (n := 1)
theorem mv_xor (a b : Nat) : mv (a ^^^ b) = mv a ^^^ mv b := by
  unfold mv
  rw [xor_half, xor_par]
  have e : ((a % 2) ^^^ (b % 2)) * P32 = (a % 2) * P32 ^^^ (b % 2) * P32 := by
    rcases Nat.mod_two_eq_zero_or_one a with e | e <;> rcases Nat.mod_two_eq_zero_or_one b with f | f <;> rw [e, f] <;> simp
  rw [e]
  generalize a % 2 * P32 = x
  generalize b % 2 * P32 = y
  rw [Nat.xor_assoc, Nat.xor_assoc, ← Nat.xor_assoc (b / 2), Nat.xor_comm (b / 2) x, Nat.xor_assoc]
theorem mv_lt {s : Nat} (h : s < 2 ^ 32) : mv s < 2 ^ 32 := by
  refine Nat.xor_lt_two_pow (by omega) ?_
  rcases Nat.mod_two_eq_zero_or_one s with e | e <;> rw [e] <;> decide
theorem mv_even (y : Nat) : mv (y * 2) = y := by
  unfold mv
  rw [Nat.mul_div_cancel _ (by decide), Nat.mul_mod_left]
  simp
theorem mvk_xor (k a b : Nat) : mvk k (a ^^^ b) = mvk k a ^^^ mvk k b := by
  induction k with
  | zero => rfl
  | succ k ih => rw [mvk, mvk, mvk, ih, mv_xor]
theorem mvk_lt (k : Nat) {s : Nat} (h : s < 2 ^ 32) : mvk k s < 2 ^ 32 := by
  induction k with
  | zero => exact h
  | succ k ih => exact mv_lt ih
theorem mvk_up (k y : Nat) : mvk k (y * 2 ^ k) = y := by
  induction k generalizing y with
  | zero => simp [mvk]
  | succ k ih => rw [mvk, Nat.pow_succ, Nat.mul_comm (2 ^ k), ← Nat.mul_assoc, ih, mv_even]
theorem parted (x k : Nat) : x = x / 2 ^ k * 2 ^ k ^^^ x % 2 ^ k := by
  apply Nat.eq_of_testBit_eq
  intro i
  rw [Nat.testBit_xor, Nat.testBit_mod_two_pow, ← Nat.shiftLeft_eq, Nat.testBit_shiftLeft, ← Nat.shiftRight_eq_div_pow, Nat.testBit_shiftRight]
  by_cases h : i < k
  · simp [h, Nat.not_le.2 h]
  · simp [h, Nat.not_lt.1 h]
theorem mvk_part (k x : Nat) : mvk k x = x / 2 ^ k ^^^ mvk k (x % 2 ^ k) := by
  conv => lhs; rw [parted x k, mvk_xor, mvk_up]
/-- The sum i moved on by n bytes. -/
def cf (i : Nat) (g : Nat → Nat) : Nat → Nat
  | 0 => i
  | n + 1 => mvk 8 (cf i g n ^^^ g n)
theorem cf_lt {i : Nat} (hi : i < 2 ^ 32) {g : Nat → Nat} (hg : ∀ j, g j < 256) (n : Nat) : cf i g n < 2 ^ 32 := by
  induction n with
  | zero => exact hi
  | succ n ih => exact mvk_lt 8 (Nat.xor_lt_two_pow ih (Nat.lt_trans (hg n) (by decide)))
theorem cf_congr {i : Nat} {f g : Nat → Nat} {n : Nat} (h : ∀ j, j < n → f j = g j) : cf i f n = cf i g n := by
  induction n with
  | zero => rfl
  | succ n ih => rw [cf, cf, ih fun j hj => h j (by omega), h n (by omega)]
theorem cf_add (i : Nat) (g : Nat → Nat) (m n : Nat) : cf i g (m + n) = cf (cf i g m) (fun j => g (m + j)) n := by
  induction n with
  | zero => rfl
  | succ n ih => rw [← Nat.add_assoc, cf, cf, ih]
/-- A sum gone on with. -/
def F32 : Nat := 4294967295
def moreN (sum : Nat) (g : Nat → Nat) (n : Nat) : Nat := F32 ^^^ cf (F32 ^^^ sum) g n
theorem moreN_lt {sum : Nat} (h : sum < 2 ^ 32) {g : Nat → Nat} (hg : ∀ j, g j < 256) (n : Nat) : moreN sum g n < 2 ^ 32 :=
  Nat.xor_lt_two_pow (by decide) (cf_lt (Nat.xor_lt_two_pow (by decide) h) hg n)
theorem xor_twice (a b : Nat) : a ^^^ (a ^^^ b) = b := by rw [← Nat.xor_assoc, Nat.xor_self, Nat.zero_xor]
theorem moreN_add (g : Nat → Nat) (m n sum : Nat) : moreN (moreN sum g m) (fun j => g (m + j)) n = moreN sum g (m + n) := by
  unfold moreN
  rw [xor_twice, cf_add]
end Go.Proofs.YtekoaheiapddiaaGreat
end
section
namespace Go.Proofs.YtekoaheiapddiaaGreat
open Go.RowKit

theorem xor32 {x y : Nat} (hx : x < 2 ^ 32) (hy : y < 2 ^ 32) : Go.bits .xor .u32 (x : Int) (y : Int) = ((x ^^^ y : Nat) : Int) := u32_xor_nat x y hx hy
theorem and32_one {x : Nat} (hx : x < 2 ^ 32) : Go.bits .and .u32 (x : Int) 1 = ((x % 2 : Nat) : Int) := by
  have := u32_and_nat x 1 hx (by decide)
  rwa [Nat.and_one_is_mod] at this
theorem wrap32 {x : Nat} (hx : x < 2 ^ 32) : IntKind.u32.wrap (x : Int) = (x : Int) := by
  rw [IntKind.wrap_u32']; omega
theorem half_lt {x : Nat} (hx : x < 2 ^ 32) (k : Nat) : x / k < 2 ^ 32 := Nat.lt_of_le_of_lt (Nat.div_le_self _ _) hx
theorem par_lt (x : Nat) : x % 2 * P32 < 2 ^ 32 := by
  rcases Nat.mod_two_eq_zero_or_one x with e | e <;> rw [e] <;> decide

theorem mv_bits {x : Nat} (hx : x < 2 ^ 32) : Go.bits .xor .u32 ((x : Int) / 2) ((x : Int) % 2 * 3988292384) = (mv x : Nat) := by
  have h := xor32 (half_lt hx 2) (par_lt x)
  rw [show mv x = x / 2 ^^^ x % 2 * P32 from rfl, ← h]
  unfold P32
  simp

set_option maxRecDepth 100000 in
set_option maxHeartbeats 1000000 in
theorem moved_c {s : Nat} (hs : s < 2 ^ 32) (w : World) :
    Calls Tryz.prog 277 #[.int .u32 s] w fun e w' => e = .returned (.int .u32 (mvk 8 s : Nat)) ∧ w = w' := by
  have HL := Lib.hid fun k => mvk_lt k hs
  go_enter Tryz.func277, Tryz.ntmps277
  go_wp2_with fail
  go_loop [0, 4] (fun c i => ∃ k : Nat, k ≤ 8 ∧ i = .int .i64 k ∧ c = .int .u32 (mvk k s : Nat)) (fun _ i => 8 - (intOf i).toNat)
  case atStart => exact ⟨0, by omega, rfl, rfl⟩
  case round =>
    obtain ⟨k, hk, rfl, rfl⟩ := hrel
    by_cases hlt : k < 8
    · have hx := HL.out k
      have h1 := and32_one hx
      have h2 := wrap32 (par_lt (mvk k s))
      have h3 := mv_bits hx
      have HN := Lib.hid (show mvk (k + 1) s = mv (mvk k s) from rfl)
      generalize mv (mvk k s) = z at *
      generalize mvk k s = x at *
      have hlti : (k : Int) < 8 := by omega
      clear HL
      go_wp2_with fail
      go_round
      case rel => exact ⟨k + 1, by omega, by go_num, by rw [HN.out]⟩
      case measure => simp [intOf]; omega
    · obtain rfl : k = 8 := by omega
      go_wp2
      go_ret
      exact ⟨rfl, rfl⟩

/-- The reference's step. -/
def stepN (n b : Nat) : Nat := if (n ^^^ b) % 2 = 1 then n / 2 ^^^ P32 else n / 2
theorem stepN_lt {n : Nat} (hn : n < 2 ^ 32) (b : Nat) : stepN n b < 2 ^ 32 := by
  unfold stepN
  split
  · exact Nat.xor_lt_two_pow (by omega) (by decide)
  · omega
theorem step_mv (n b : Nat) : mv (n ^^^ b) = stepN n b ^^^ b / 2 := by
  unfold mv stepN
  rw [xor_half]
  rcases Nat.mod_two_eq_zero_or_one (n ^^^ b) with e | e <;> rw [e]
  · simp
  · rw [if_pos rfl, Nat.one_mul, Nat.xor_assoc, Nat.xor_assoc, Nat.xor_comm (b / 2)]
set_option maxRecDepth 100000 in
set_option maxHeartbeats 1000000 in
theorem step_c {n b : Nat} (hn : n < 2 ^ 32) (hb : b < 2 ^ 32) (w : World) :
    Calls Tryz.prog 196 #[.int .u32 n, .int .u32 b] w fun e w' => e = .returned (.int .u32 (stepN n b : Nat)) ∧ w = w' := by
  have h1 := xor32 hn hb
  have h2 : Go.bits .xor .u32 ((n : Int) / 2) 3988292384 = ((n / 2 ^^^ P32 : Nat) : Int) := xor32 (half_lt hn 2) (show P32 < 2 ^ 32 by decide)
  by_cases h : (n ^^^ b) % 2 = 1
  · have HN := Lib.hid (show stepN n b = n / 2 ^^^ P32 from if_pos h)
    generalize stepN n b = z at *
    generalize n / 2 ^^^ P32 = y at *
    generalize n ^^^ b = x at *
    have hd : ((x : Int) % 2 == 1) = true := by rw [beq_iff_eq]; omega
    go_enter Tryz.func196, Tryz.ntmps196
    go_wp2_with fail
    go_ret
    exact ⟨by rw [HN.out]; rfl, rfl⟩
  · have HN := Lib.hid (show stepN n b = n / 2 from if_neg h)
    generalize stepN n b = z at *
    generalize n ^^^ b = x at *
    have hd : ((x : Int) % 2 == 1) = false := by rw [beq_eq_false_iff_ne]; omega
    go_enter Tryz.func196, Tryz.ntmps196
    go_wp2_with fail
    go_ret
    exact ⟨ret_int (by rw [HN.out]; simp), rfl⟩
end Go.Proofs.YtekoaheiapddiaaGreat
end
section
namespace Go.Proofs.YtekoaheiapddiaaGreat
open Go.RowKit

theorem row_setRow {w : World} {b : Nat} {cs cs' : Array Value} {t : TypeId} {fr : Nat × Nat} (h : w.heap[b]? = some (.cells cs t fr)) : (w.setRow b cs').heap[b]? = some (.cells cs' t fr) := by
  simp [World.setRow, Array.getElem?_modify, h]
theorem row_setRow_other {w : World} {b g : Nat} {cs' : Array Value} (h : ¬ b = g) : (w.setRow g cs').heap[b]? = w.heap[b]? := by
  have h' : ¬ g = b := fun e => h e.symm
  simp [World.setRow, Array.getElem?_modify, h']
theorem Below.setRow' {B g : Nat} {a w : World} (h : Below B a w) (hB : B ≤ g) (cs : Array Value) : Below B a (w.setRow g cs) :=
  ⟨h.os, h.tape, h.output, by have := h.size; simpa [World.setRow] using this, fun k hk => (row_setRow_other (by omega)).trans (h.block k hk)⟩
theorem heap_last {w : World} {n : Nat} (o : Obj) (h : n = w.heap.size) : (w.alloc o).heap[n]? = some o := by rw [heap_alloc_get, if_pos h]
theorem heap_down {w : World} {n : Nat} (o : Obj) (h : n < w.heap.size) : (w.alloc o).heap[n]? = w.heap[n]? := by rw [heap_alloc_get, if_neg (by omega)]

/-- The lowest bit of b. -/
def lowN (b : Nat) : Nat := (BitVec.ofNat 64 b &&& - BitVec.ofNat 64 b).toNat
theorem low_bits : ∀ b : Fin 256, Go.bits .and .i64 ((b.val : Nat) : Int) (-((b.val : Nat) : Int)) = ((lowN b.val : Nat) : Int) := by decide +kernel
theorem low_xor : ∀ b : Fin 256, Go.bits .xor .i64 ((b.val : Nat) : Int) ((lowN b.val : Nat) : Int) = ((b.val ^^^ lowN b.val : Nat) : Int) := by decide +kernel
theorem low_lt : ∀ b : Fin 256, b.val ≠ lowN b.val → lowN b.val < b.val ∧ b.val ^^^ lowN b.val < b.val := by decide +kernel

/-- The table. -/
def tabN (b : Nat) : Nat := mvk 8 b
theorem tab_lt {b : Nat} (h : b < 256) : tabN b < 2 ^ 32 := mvk_lt 8 (by omega)
theorem tab_low (b : Nat) : tabN (lowN b) ^^^ tabN (b ^^^ lowN b) = tabN b := by
  unfold tabN
  rw [← mvk_xor, Nat.xor_comm b, xor_twice]

/-- What Table knows behind k entries. -/
structure TabS (w : World) (k : Nat) (W : World) : Prop where
  below : Below w.heap.size w W
  out : W.heap[w.heap.size]? = some (.cells (blk .u32 256 fun _ => 0) 343 (0, 0))
  tab : W.heap[w.heap.size + 1]? = some (.cells (blk .u32 256 (til tabN (fun _ => 0) k)) 343 (0, 0))
theorem TabS.step {w W : World} {k : Nat} (h : TabS w k W) : TabS w (k + 1) (W.setCell ⟨w.heap.size + 1, k, none⟩ (.int .u32 (tabN k : Nat))) := by
  refine ⟨h.below.setCell (by simp) _, (heap_setCell_other _ _ _ _ (by simp)).trans h.out, ?_⟩
  rw [heap_setCell_same _ _ _ _ _ _ h.tab, blk_set]
  congr 2
  exact blk_congr _ fun j _ => til_step _ _ _ _
theorem TabS.drew {w W : World} {k : Nat} (h : TabS w k W) : TabS w k W.drew := ⟨h.below.drew, h.out, h.tab⟩

set_option maxRecDepth 100000 in
set_option maxHeartbeats 2000000 in
theorem table_c (w : World) :
    Calls Tryz.prog 263 #[] w fun e w' => e = .returned (.agg (blk .u32 256 tabN)) ∧ Below w.heap.size w w' := by
  have hz1 : ∀ w : World, (zeroValue 343).run Tryz.prog w = .ok (.agg (blk .u32 256 fun _ => 0)) w := fun _ => by kernel_rfl
  have H0 := Lib.hid (show TabS w 0 ((w.alloc (.cells (blk .u32 256 fun _ => 0) 343)).alloc (.cells (blk .u32 256 fun _ => 0) 343)) from
    ⟨((Below.refl _ _).alloc (by omega) _).alloc (by simp) _, by rw [heap_down _ (by simp), heap_last _ rfl], by rw [heap_last _ (by simp), til_zero]⟩)
  go_enter Tryz.func263, Tryz.ntmps263
  go_wp2_with fail
  go_loopw [4] (fun i wr => ∃ k : Nat, i = .int .i64 k ∧ k ≤ 256 ∧ TabS w k wr) (fun i _ => 256 - (intOf i).toNat)
  case atStart => exact ⟨0, rfl, by omega, H0.out⟩
  case round =>
    clear H0
    obtain ⟨k, rfl, hk, hS⟩ := hrel
    by_cases hlt : k < 256
    · have hlti : (k : Int) < 256 := by omega
      have b1 := low_bits ⟨k, hlt⟩
      have b2 := low_xor ⟨k, hlt⟩
      have b3 := low_lt ⟨k, hlt⟩
      simp only at b1 b2 b3
      have d0 := (cell_of hS.tab k).trans (blk_at _ _ hlt)
      rw [til_at] at d0
      have e0 := free_of hS.tab k
      by_cases hlow : k = lowN k
      · have R := Lib.hid (fun W => moved_c (show k < 2 ^ 32 by omega) W)
        have HE := Lib.hid hS.step
        have hw : IntKind.u32.wrap (k : Int) = (k : Int) := wrap32 (by omega)
        rw [show mvk 8 k = tabN k from rfl] at R
        rw [← hlow] at b1
        clear hS b2 b3 hlow
        generalize tabN k = z at *
        go_wp2_with (go_at_call 277; refine (R.out _).mono ?_)
        rintro e W ⟨rfl, rfl⟩
        clear R
        go_wp2_with fail
        go_roundw
        case rel => exact ⟨k + 1, by go_num, by omega, HE.out⟩
        case measure => simp [intOf]; omega
      · obtain ⟨l1, l2⟩ := b3 hlow
        have c1 := (cell_of hS.tab (lowN k)).trans (blk_at _ _ (show lowN k < 256 by omega))
        rw [til_lt l1] at c1
        have c2 := (cell_of hS.tab (k ^^^ lowN k)).trans (blk_at _ _ (show k ^^^ lowN k < 256 by omega))
        rw [til_lt l2] at c2
        have x0 := xor32 (tab_lt (show lowN k < 256 by omega)) (tab_lt (show k ^^^ lowN k < 256 by omega))
        rw [tab_low] at x0
        have HE := Lib.hid hS.drew.step
        have hd : ((k : Int) == (lowN k : Int)) = false := by rw [beq_eq_false_iff_ne]; omega
        have i1 : (0 : Int) ≤ (lowN k : Int) ∧ (lowN k : Int) < 256 := by omega
        have i2 : (0 : Int) ≤ (k ^^^ lowN k : Nat) ∧ ((k ^^^ lowN k : Nat) : Int) < 256 := by omega
        have i0 : (0 : Int) ≤ (k : Int) ∧ (k : Int) < 256 := by omega
        clear hS hlow
        generalize tabN (lowN k) = p at *
        generalize tabN (k ^^^ lowN k) = q at *
        generalize tabN k = z at *
        generalize k ^^^ lowN k = m at *
        generalize lowN k = l at *
        go_wp2_with fail
        go_still_tail 11, (by kernel_rfl)
        go_wp2_with fail
        go_roundw
        case rel => exact ⟨k + 1, by go_num, by omega, HE.out⟩
        case measure => simp [intOf]; omega
    · obtain rfl : k = 256 := by omega
      have HB := Lib.hid hS.below
      have HL := Lib.hid hS.tab
      have HM := Lib.hid hS.out
      have HZ := Lib.hid (fun g => show (Tryz.prog.info? 343).map (·.size) = some (blk .u32 256 g).size by rw [blk_size]; kernel_rfl)
      have HO := Lib.hid (blk_one .u32 256)
      rw [blk_congr .u32 (g := tabN) fun j hj => til_lt hj] at HL
      clear hS
      go_wp2_with (first | (refine wpList_load_row rfl 343 (.tmp 1) rfl (w.heap.size + 1) rfl 343 (blk .u32 256 tabN) (0, 0) _ HL.out Tryz.underlying343 rfl (HZ.out _) ?_) | (refine wpList_store_row rfl 343 (.tmp 0) (.tmp 31) rfl w.heap.size (blk .u32 256 tabN) rfl rfl 343 (blk .u32 256 fun _ => 0) HM.out (HZ.out _) (by rw [blk_size, blk_size]) (HO.out _) ?_))
      exact bodyPost_ret (results_cell_row Tryz.results263 _ _ _ _ _ _ _ rfl (row_setRow HM.out) Tryz.underlying343 rfl (HZ.out _)) rfl ⟨rfl, Below.setRow' HB.out (by omega) _⟩
end Go.Proofs.YtekoaheiapddiaaGreat
end
section
namespace Go.Proofs.YtekoaheiapddiaaGreat
open Go.RowKit

theorem not32 {x : Nat} (hx : x < 2 ^ 32) : Go.bits .xor .u32 IntKind.u32.max (x : Int) = ((F32 ^^^ x : Nat) : Int) := by
  exact u32_xor_nat F32 x (by decide) hx
theorem byte_of (x : Nat) : IntKind.u8.wrap (x : Int) = ((x % 256 : Nat) : Int) := by
  rw [IntKind.wrap_u8]; simp
theorem low8 (x : Nat) {c : Nat} (hc : c < 256) : Go.bits .xor .u8 ((x : Int) % 256) (c : Int) = ((x % 256 ^^^ c : Nat) : Int) := by
  have := u8_xor_nat (x % 256) c (Nat.mod_lt _ (by decide)) hc
  simpa using this
theorem tab_on {c : Nat} (hc : c < 256) (x : Nat) : mvk 8 (x ^^^ c) = x / 256 ^^^ tabN (x % 256 ^^^ c) := by
  rw [mvk_part]
  have h1 : (x ^^^ c) / 2 ^ 8 = x / 256 := by
    have := Nat.shiftRight_xor_distrib (a := x) (b := c) (i := 8)
    rw [Nat.shiftRight_eq_div_pow, Nat.shiftRight_eq_div_pow, Nat.shiftRight_eq_div_pow, Nat.div_eq_of_lt (show c < 2 ^ 8 from hc), Nat.xor_zero] at this
    exact this
  have h2 : (x ^^^ c) % 2 ^ 8 = x % 256 ^^^ c := by
    rw [Nat.xor_mod_two_pow, Nat.mod_eq_of_lt (show c < 2 ^ 8 from hc)]
  rw [h1, h2]
  rfl
theorem on_bits {x c : Nat} (hx : x < 2 ^ 32) (hc : c < 256) : Go.bits .xor .u32 ((x : Int) / 256) ((tabN (x % 256 ^^^ c) : Nat) : Int) = (mvk 8 (x ^^^ c) : Nat) := by
  have hl : x % 256 ^^^ c < 256 := Nat.xor_lt_two_pow (n := 8) (Nat.mod_lt _ (by decide)) hc
  have h := xor32 (half_lt hx 256) (tab_lt hl)
  rw [tab_on hc, ← h]
  simp

set_option maxRecDepth 100000 in
set_option maxHeartbeats 2000000 in
theorem more_c {sum : Nat} (hm : sum < 2 ^ 32) {s : ByteArray} (hs : s.size ≤ maxLen) (w : World) :
    Calls Tryz.prog 228 #[.int .u32 sum, .string s] w fun e w' => e = .returned (.int .u32 (moreN sum (byteAtK s) s.size : Nat)) ∧ Below w.heap.size w w' := by
  have HX := Lib.hid (fun i j hj e W => index_i64K s i j hj e W)
  have HL := Lib.hid (fun k => cf_lt (Nat.xor_lt_two_pow (show F32 < 2 ^ 32 by decide) hm) (byteAt_ltK s) k)
  have HT := Lib.hid (table_c w)
  have h0 := not32 hm
  have hsg : IntKind.u32.signed = false := rfl
  have HF := Lib.hid (show moreN sum (byteAtK s) s.size = F32 ^^^ cf (F32 ^^^ sum) (byteAtK s) s.size from rfl)
  have HN := Lib.hid (fun k => show cf (F32 ^^^ sum) (byteAtK s) (k + 1) = mvk 8 (cf (F32 ^^^ sum) (byteAtK s) k ^^^ byteAtK s k) from rfl)
  have HZ := Lib.hid (show cf (F32 ^^^ sum) (byteAtK s) 0 = F32 ^^^ sum from rfl)
  generalize moreN sum (byteAtK s) s.size = out at *
  generalize F32 ^^^ sum = i0 at *
  have HK := Lib.hid (fun g => show (Tryz.prog.info? 343).map (·.size) = some (blk .u32 256 g).size by rw [blk_size]; kernel_rfl)
  have HO := Lib.hid (blk_one .u32 256)
  have HM : ∀ W : World, (W.alloc (.cells (blk .u32 256 fun _ => 0) 343)).heap[W.heap.size]? = some (.cells (blk .u32 256 fun _ => 0) 343 (0, 0)) := fun W => heap_last _ rfl
  have hz1 : ∀ w : World, (zeroValue 343).run Tryz.prog w = .ok (.agg (blk .u32 256 fun _ => 0)) w := fun _ => by kernel_rfl
  go_enter Tryz.func228, Tryz.ntmps228
  go_wp2_with fail
  go_at_call 263
  refine HT.out.mono ?_
  rintro e w1 ⟨rfl, h1⟩
  have H1 := Lib.hid h1; clear h1 HT
  go_wp2_with (first | (refine wpList_store_row rfl 343 (.tmp 5) (.tmp 7) rfl w1.heap.size (blk .u32 256 tabN) rfl rfl 343 (blk .u32 256 fun _ => 0) (HM w1) (HK.out _) (by rw [blk_size, blk_size]) (HO.out _) ?_))
  have HT := Lib.hid (row_setRow (cs' := blk .u32 256 tabN) (HM w1))
  have HB := Lib.hid (Below.setRow' ((H1.out).alloc H1.out.size (.cells (blk .u32 256 fun _ => 0) 343)) H1.out.size (blk .u32 256 tabN))
  clear HM HK HO H1 hz1
  generalize (w1.alloc (.cells (blk .u32 256 fun _ => 0) 343)).setRow w1.heap.size (blk .u32 256 tabN) = W at *
  generalize w1.heap.size = b at *
  have HS := Lib.hid hs; clear hs
  go_loop [0, 12] (fun c i => ∃ k : Nat, k ≤ s.size ∧ i = .int .i64 k ∧ c = .int .u32 (cf i0 (byteAtK s) k : Nat)) (fun _ i => s.size - (intOf i).toNat)
  case atStart => exact ⟨0, by omega, rfl, by rw [HZ.out]⟩
  case round =>
    obtain ⟨k, hk, rfl, rfl⟩ := hrel
    by_cases hlt : k < s.size
    · have hx := fun W => HX.out (k : Int) k hlt rfl W
      have hl := HL.out k
      have hb := byteAt_ltK s k
      have h1 := on_bits hl hb
      have h2 := byte_of (cf i0 (byteAtK s) k)
      have h3 := low8 (cf i0 (byteAtK s) k) hb
      have hp : cf i0 (byteAtK s) k % 256 ^^^ byteAtK s k < 256 := Nat.xor_lt_two_pow (n := 8) (Nat.mod_lt _ (by decide)) hb
      have c0 := (cell_of HT.out (cf i0 (byteAtK s) k % 256 ^^^ byteAtK s k)).trans (blk_at _ _ hp)
      have hpi : (0 : Int) ≤ ((cf i0 (byteAtK s) k % 256 ^^^ byteAtK s k : Nat) : Int) ∧ ((cf i0 (byteAtK s) k % 256 ^^^ byteAtK s k : Nat) : Int) < 256 := by omega
      have HN' := Lib.hid (HN.out k)
      clear HN HX HL HT
      generalize mvk 8 (cf i0 (byteAtK s) k ^^^ byteAtK s k) = z at *
      generalize cf i0 (byteAtK s) k = x at *
      generalize byteAtK s k = y at *
      generalize tabN (x % 256 ^^^ y) = t at *
      generalize x % 256 ^^^ y = p at *
      have hlti : (k : Int) < (s.size : Int) := by omega
      have hw : IntKind.i64.wrap ((k : Int) + 1) = (k : Int) + 1 := IntWalk.i64_in _ (by have := HS.out; unfold maxLen at this; omega)
      go_wp2_with fail
      go_round
      case rel => exact ⟨k + 1, by omega, by go_num, by rw [HN'.out]⟩
      case measure => simp [intOf]; omega
    · obtain rfl : k = s.size := by omega
      have h5 := not32 (HL.out s.size)
      rw [← HF.out] at h5
      clear HN HL HX h0
      go_wp2_with fail
      go_ret
      exact ⟨rfl, HB.out⟩
/-- The sum of a text. -/
def sumN (s : ByteArray) : Nat := moreN 0 (byteAtK s) s.size
theorem sumN_lt (s : ByteArray) : sumN s < 2 ^ 32 := moreN_lt (by decide) (byteAt_ltK s) _
set_option maxRecDepth 100000 in
set_option maxHeartbeats 1000000 in
theorem sum_c {s : ByteArray} (hs : s.size ≤ maxLen) (w : World) :
    Calls Tryz.prog 229 #[.string s] w fun e w' => e = .returned (.int .u32 (sumN s : Nat)) ∧ Below w.heap.size w w' := by
  have HT := Lib.hid (more_c (show 0 < 2 ^ 32 by decide) hs w)
  rw [show moreN 0 (byteAtK s) s.size = sumN s from rfl] at HT
  generalize sumN s = z at *
  clear hs
  go_enter Tryz.func229, Tryz.ntmps229
  go_wp2_with fail
  go_at_call 228
  refine HT.out.mono ?_
  rintro e w1 ⟨rfl, h1⟩
  have H1 := Lib.hid h1; clear h1 HT
  go_wp2_with fail
  go_ret
  exact ⟨rfl, H1.out⟩
end Go.Proofs.YtekoaheiapddiaaGreat
end
section
namespace Go.Proofs.YtekoaheiapddiaaGreat
open Go.RowKit

/-- The reference's sum n behind k bits of c. -/
def bitsN (n c : Nat) : Nat → Nat
  | 0 => n
  | k + 1 => stepN (bitsN n c k) (c / 2 ^ k)
theorem bitsN_lt {n : Nat} (hn : n < 2 ^ 32) (c k : Nat) : bitsN n c k < 2 ^ 32 := by
  cases k with
  | zero => exact hn
  | succ k =>
    show stepN _ _ < _
    exact stepN_lt (by
      induction k with
      | zero => exact hn
      | succ k ih => exact stepN_lt ih _) _
theorem bitsN_mv (n c k : Nat) : mvk k (n ^^^ c) = bitsN n c k ^^^ c / 2 ^ k := by
  induction k with
  | zero => simp [mvk, bitsN]
  | succ k ih => rw [mvk, ih, step_mv, bitsN, Nat.div_div_eq_div_mul, Nat.pow_succ]
theorem bitsN_byte {c : Nat} (hc : c < 256) (n : Nat) : bitsN n c 8 = mvk 8 (n ^^^ c) := by
  rw [bitsN_mv, Nat.div_eq_of_lt (show c < 2 ^ 8 from hc), Nat.xor_zero]

set_option maxRecDepth 100000 in
set_option maxHeartbeats 2000000 in
theorem rmore_c {sum : Nat} (hm : sum < 2 ^ 32) {s : ByteArray} (hs : s.size ≤ maxLen) (w : World) :
    Calls Tryz.prog 162 #[.int .u32 sum, .string s] w fun e w' => e = .returned (.int .u32 (moreN sum (byteAtK s) s.size : Nat)) ∧ w = w' := by
  have HX := Lib.hid (fun i j hj e W => index_i64K s i j hj e W)
  have HL := Lib.hid (fun k => cf_lt (Nat.xor_lt_two_pow (show F32 < 2 ^ 32 by decide) hm) (byteAt_ltK s) k)
  have h0 := not32 hm
  have hsg : IntKind.u32.signed = false := rfl
  have HF := Lib.hid (show moreN sum (byteAtK s) s.size = F32 ^^^ cf (F32 ^^^ sum) (byteAtK s) s.size from rfl)
  have HN := Lib.hid (fun k => show cf (F32 ^^^ sum) (byteAtK s) (k + 1) = mvk 8 (cf (F32 ^^^ sum) (byteAtK s) k ^^^ byteAtK s k) from rfl)
  have HZ := Lib.hid (show cf (F32 ^^^ sum) (byteAtK s) 0 = F32 ^^^ sum from rfl)
  generalize moreN sum (byteAtK s) s.size = out at *
  generalize F32 ^^^ sum = i0 at *
  have HS := Lib.hid hs; clear hs
  go_enter Tryz.func162, Tryz.ntmps162
  go_wp2_with fail
  go_loop [0, 5] (fun c i => ∃ k : Nat, k ≤ s.size ∧ i = .int .i64 k ∧ c = .int .u32 (cf i0 (byteAtK s) k : Nat)) (fun _ i => s.size - (intOf i).toNat)
  case atStart => exact ⟨0, by omega, rfl, by rw [HZ.out]⟩
  case round =>
    obtain ⟨k, hk, rfl, rfl⟩ := hrel
    by_cases hlt : k < s.size
    · have hx := fun W => HX.out (k : Int) k hlt rfl W
      have hl := HL.out k
      have hb := byteAt_ltK s k
      have hw : IntKind.i64.wrap ((k : Int) + 1) = (k : Int) + 1 := IntWalk.i64_in _ (by have := HS.out; unfold maxLen at this; omega)
      have hlti : (k : Int) < (s.size : Int) := by omega
      have HN' := Lib.hid (HN.out k)
      clear HN HX HL
      rw [← bitsN_byte hb] at HN'
      have BL := Lib.hid (fun j => bitsN_lt hl (byteAtK s k) j)
      generalize cf i0 (byteAtK s) k = x at *
      generalize byteAtK s k = y at *
      have hyj := Lib.hid (fun j : Nat => show y / 2 ^ j < 256 from Nat.lt_of_le_of_lt (Nat.div_le_self _ _) hb)
      go_wp2_with fail
      go_loop [0, 6] (fun c i => ∃ j : Nat, j ≤ 8 ∧ i = .int .i64 j ∧ c = .int .u32 (bitsN x y j : Nat)) (fun _ i => 8 - (intOf i).toNat)
      case atStart => exact ⟨0, by omega, rfl, rfl⟩
      case round =>
        obtain ⟨j, hj, rfl, rfl⟩ := hrel
        by_cases hlt2 : j < 8
        · have R := Lib.hid (fun W => step_c (BL.out j) (show y / 2 ^ j < 2 ^ 32 by have := hyj.out j; omega) W)
          rw [show stepN (bitsN x y j) (y / 2 ^ j) = bitsN x y (j + 1) from rfl] at R
          have h8 : IntKind.u32.wrap ((y / 2 ^ j : Nat) : Int) = ((y / 2 ^ j : Nat) : Int) := wrap32 (by have := hyj.out j; omega)
          have hq : (y : Int) / 2 ^ j = ((y / 2 ^ j : Nat) : Int) := by simp
          clear hyj BL
          generalize y / 2 ^ j = q at *
          generalize hz : bitsN x y (j + 1) = z at *
          have HJ := Lib.hid hz; clear hz
          generalize bitsN x y j = v at *
          have hlt3 : (j : Int) < 8 := by omega
          go_wp2_with fail
          go_at_call 196
          refine (R.out _).mono ?_
          rintro e W ⟨rfl, rfl⟩
          clear R
          go_wp2_with fail
          go_round
          case rel => exact ⟨j + 1, by omega, by go_num, by rw [HJ.out]⟩
          case measure => simp [intOf]; omega
        · obtain rfl : j = 8 := by omega
          go_wp2_with fail
          go_round
          case rel => exact ⟨k + 1, by omega, by go_num, by rw [HN'.out]⟩
          case measure => simp [intOf]; omega
    · obtain rfl : k = s.size := by omega
      have h5 := not32 (HL.out s.size)
      rw [← HF.out] at h5
      clear HN HL HX h0
      go_wp2_with fail
      go_ret
      exact ⟨rfl, rfl⟩

set_option maxRecDepth 100000 in
set_option maxHeartbeats 1000000 in
theorem rsum_c {s : ByteArray} (hs : s.size ≤ maxLen) (w : World) :
    Calls Tryz.prog 116 #[.string s] w fun e w' => e = .returned (.int .u32 (sumN s : Nat)) ∧ w = w' := by
  have HT := Lib.hid (rmore_c (show 0 < 2 ^ 32 by decide) hs w)
  rw [show moreN 0 (byteAtK s) s.size = sumN s from rfl] at HT
  generalize sumN s = z at *
  clear hs
  go_enter Tryz.func116, Tryz.ntmps116
  go_wp2_with fail
  go_at_call 162
  refine HT.out.mono ?_
  rintro e w1 ⟨rfl, rfl⟩
  clear HT
  go_wp2_with fail
  go_ret
  exact ⟨rfl, rfl⟩

end Go.Proofs.YtekoaheiapddiaaGreat
end
