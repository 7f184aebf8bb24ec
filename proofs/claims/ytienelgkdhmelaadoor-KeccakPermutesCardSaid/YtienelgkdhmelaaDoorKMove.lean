/- The contract of (*lanes).move. -/
import Derived.Test.YtienelgkdhmelaaDoorKMix
namespace Go.Proofs.YtienelgkdhmelaaDoor
open Go.RowKit

/-- Where the walk leads; the table as the program holds it. -/
def wkL : List Nat := [10, 7, 11, 17, 18, 3, 5, 16, 8, 21, 24, 4, 15, 23, 19, 13, 12, 2, 20, 14, 22, 9, 6, 1]
def wk (t : Nat) : Nat := wkL.getD t 0
def wtab : Array Value := (wkL.map fun z : Nat => Value.int .i64 (z : Int)).toArray
/-- The walk's step that leads to a place; the place ahead of a step. -/
def ixL : List Nat := [99, 23, 17, 5, 11, 6, 22, 1, 8, 21, 0, 2, 16, 15, 19, 12, 7, 3, 4, 14, 18, 9, 20, 13, 10]
def ix (i : Nat) : Nat := ixL.getD i 99
def pr (t : Nat) : Nat := if t = 0 then 1 else wk (t - 1)
theorem wk_facts : ∀ t < 24, wk t < 25 ∧ ix (wk t) = t ∧ pr t < 25 := by decide +kernel
theorem wtab_at {t : Nat} (h : t < 24) : wtab[t]? = some (.int .i64 (wk t : Nat)) := by
  simp [wtab, wk, show t < wkL.length from h]
theorem ix_facts : ∀ i < 25, ix i < 24 → wk (ix i) = i := by decide +kernel
/-- The lanes behind k steps. -/
def movF (f : Nat → Nat) (k i : Nat) : Nat := if ix i < k then rotN (f (pr (ix i))) ((ix i + 1) * (ix i + 2) / 2) else f i
def movN (f : Nat → Nat) : Nat → Nat := movF f 24
theorem movF_step (f : Nat → Nat) {k : Nat} (hk : k < 24) {j : Nat} (hj : j < 25) : upd (movF f k) (wk k) (rotN (f (pr k)) ((k + 1) * (k + 2) / 2)) j = movF f (k + 1) j := by
  obtain ⟨_, h2, _⟩ := wk_facts k hk
  unfold upd movF
  by_cases e : j = wk k
  · subst e; rw [if_pos rfl, h2, if_pos (by omega)]
  · have hne : ix j ≠ k := fun h => e (by rw [← h, ix_facts j hj (by omega)])
    rw [if_neg e]
    by_cases e2 : ix j < k
    · rw [if_pos e2, if_pos (by omega)]
    · rw [if_neg e2, if_neg (by omega)]
theorem movF_at (f : Nat → Nat) {k : Nat} (hk : k < 24) : movF f k (wk k) = f (wk k) := by
  obtain ⟨_, h2, _⟩ := wk_facts k hk
  rw [movF, h2, if_neg (Nat.lt_irrefl _)]
theorem pr_succ (k : Nat) : pr (k + 1) = wk k := by simp [pr]
theorem movF_lt {f : Nat → Nat} (hf : ∀ i, f i < M64) (k i : Nat) : movF f k i < M64 := by
  unfold movF
  split
  · exact rotN_lt (hf _) _
  · exact hf _

/-- The table lies in the first block. -/
def Walk (w : World) : Prop := ∃ t fr, w.heap[0]? = some (.cells wtab t fr)

def MovS (w : World) (B : Nat) (f : Nat → Nat) (k : Nat) (W : World) : Prop := Only (· = B) w.heap.size w W ∧ Lan B (movF f k) W

theorem MovS.step {w W : World} {B : Nat} {f : Nat → Nat} {k : Nat} (h : MovS w B f k W) (hk : k < 24) : MovS w B f (k + 1) (W.setCell ⟨B, wk k, none⟩ (.int .u64 (rotN (f (pr k)) ((k + 1) * (k + 2) / 2) : Nat))).drew :=
  ⟨h.1.setd _ _, (h.2.setd _ _).congr fun _ hj => movF_step f hk hj⟩

theorem infoInt : (Tryd.prog.info? 3).map (·.size) = some 1 := by kernel_rfl
theorem wtab_run {k : Nat} (hk : k < 24) (W : World) : (Instr.index 51 (.agg wtab) (.int .i64 (k : Int))).run Tryd.prog W = .ok (.int .i64 (wk k : Nat)) W := by
  have h := wtab_at hk
  generalize wtab = tab at *
  obtain ⟨i, hi, hs⟩ := Option.map_eq_some_iff.1 infoInt
  have hz : (0 : Int) ≤ (k : Int) ∧ (k : Int) < 24 := by omega
  simp [Instr.index, asIntOf, Sem.run_bind, run_underlying Tryd.underlying51, run_underlying Tryd.underlying3, hz, sizeOf, typeInfo, hi, hs, part, isAgg, h]
  omega

set_option maxRecDepth 100000 in
set_option maxHeartbeats 4000000 in
theorem move_c {B : Nat} {f : Nat → Nat} (hf : ∀ i, f i < M64) (w : World) (hB : Lan B f w) (hT : Walk w) :
    Calls Tryd.prog 23 #[.pointer (some ⟨B, 0, none⟩)] w fun e w' => e = .returned (.tuple #[]) ∧ LanTo B w (movN f) w' := by
  obtain ⟨tt, fr, ht⟩ := hT
  have HK := Lib.hid (show (Tryd.prog.info? 51).map (·.size) = some wtab.size by kernel_rfl)
  have HX := Lib.hid (fun k hk => wtab_run (k := k) hk)
  have c1 := (cell_of hB 1).trans (blk_at .u64 f (by decide))
  have H0 := Lib.hid (show MovS w B f 0 w from ⟨Only.refl _ _ _, hB.congr fun _ _ => (if_neg (by omega)).symm⟩)
  have HL := Lib.hid hB
  have HT := Lib.hid ht
  clear hB ht
  generalize wtab = tab at *
  go_enter Tryd.func23, Tryd.ntmps23
  go_wp2_with (with_reducible refine wpList_load_row rfl 51 (.global 0) rfl 0 rfl tt tab fr _ HT.out Tryd.underlying51 rfl HK.out ?_)
  go_loopw [2, 10] (fun v i wr => ∃ k : Nat, i = .int .i64 k ∧ k ≤ 24 ∧ v = .int .u64 (f (pr k) : Nat) ∧ MovS w B f k wr) (fun _ i _ => 24 - (intOf i).toNat)
  case atStart => exact ⟨0, rfl, by omega, rfl, H0.out⟩
  case round =>
    clear H0 c1
    obtain ⟨k, rfl, hk, rfl, hS⟩ := hrel
    by_cases hlt : k < 24
    · have hx := HX.out k hlt
      obtain ⟨hp, _, hq⟩ := wk_facts k hlt
      have hL := hS.2
      have c0 := (cell_of hL (wk k)).trans (blk_at _ _ hp)
      rw [movF_at f hlt] at c0
      have e0 := free_of hL (wk k)
      have HE := Lib.hid (MovS.step hS hlt)
      have HS := Lib.hid hS
      have HP := Lib.hid (show f (pr (k + 1)) = f (wk k) by rw [pr_succ])
      have hm1 : (k + 1) * (k + 2) / 2 < 1000 := by
        have := Nat.mul_le_mul (show k + 1 ≤ 24 by omega) (show k + 2 ≤ 25 by omega)
        omega
      have hm2 : ((k : Int) + 1) * ((k : Int) + 2) / 2 = (((k + 1) * (k + 2) / 2 : Nat) : Int) := by simp
      have R := Lib.hid (fun W => rot_c (hf (pr k)) hm1 W)
      have hmb : ((k : Int) + 1) * ((k : Int) + 2) ≤ 650 := by
        have := Nat.mul_le_mul (show k + 1 ≤ 24 by omega) (show k + 2 ≤ 25 by omega)
        have : (((k + 1) * (k + 2) : Nat) : Int) ≤ 650 := by omega
        simpa using this
      have hm0 : 0 ≤ ((k : Int) + 1) * ((k : Int) + 2) := Int.mul_nonneg (by omega) (by omega)
      have w1 : IntKind.i64.wrap ((k : Int) + 1) = (k : Int) + 1 := IntWalk.i64_in _ (by omega)
      have w2 : IntKind.i64.wrap ((k : Int) + 2) = (k : Int) + 2 := IntWalk.i64_in _ (by omega)
      have w3 : IntKind.i64.wrap (((k : Int) + 1) * ((k : Int) + 2)) = ((k : Int) + 1) * ((k : Int) + 2) := IntWalk.i64_in _ (by omega)
      have w4 : (((k : Int) + 1) * ((k : Int) + 2)).tdiv 2 = (((k + 1) * (k + 2) / 2 : Nat) : Int) := by rw [Int.tdiv_eq_ediv_of_nonneg hm0, hm2]
      have w5 : IntKind.i64.wrap (((k + 1) * (k + 2) / 2 : Nat) : Int) = (((k + 1) * (k + 2) / 2 : Nat) : Int) := IntWalk.i64_in _ (by omega)
      have bd : (0 : Int) ≤ (wk k : Int) ∧ (wk k : Int) < 25 := by omega
      have hlti : (k : Int) < 24 := by omega
      clear hS hL hq hmb hm0
      generalize (k + 1) * (k + 2) / 2 = m at *
      generalize rotN (f (pr k)) m = r at *
      generalize wk k = p at *
      generalize f (pr k) = x at *
      generalize f p = y at *
      go_wp2_with fail
      clear hx
      go_still_tail 18, (by kernel_rfl)
      still_call ((R.out _).mono fun _ _ h => ⟨h.1, h.2.symm⟩)
      repeat still_step
      refine wpStill_nil ?_
      clear hm2 w1 w2 w3 w4 w5 R
      go_wp2_with fail
      go_roundw
      case rel => exact ⟨k + 1, by go_num, by omega, by rw [HP.out], HE.out⟩
      case measure => simp [intOf]; omega
    · obtain rfl : k = 24 := by omega
      have HS := Lib.hid hS; clear hS
      go_wp2_with fail
      go_end0
      exact ⟨rfl, HS.out⟩
end Go.Proofs.YtienelgkdhmelaaDoor
