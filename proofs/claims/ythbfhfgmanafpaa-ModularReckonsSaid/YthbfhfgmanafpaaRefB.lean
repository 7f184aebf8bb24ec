/- The contract of the reference's Join. -/
import Derived.Test.YthbfhfgmanafpaaRefA
import Derived.Test.YthbfhfgmanafpaaPlaces
import Derived.Test.YthbfhfgmanafpaaAmong
import Derived.RegionTactic
namespace Go.Proofs.Ythbfhfgmanafpaa
open Go.RowKit Go.Joins

/-- The number of the first k bytes. -/
def lowB (b : Nat → Nat) : Nat → Nat
  | 0 => 0
  | k + 1 => lowB b k + b k * 256 ^ k
theorem lowB_byte (y k : Nat) : lowB (byteOf y) k = y % 256 ^ k := by
  induction k with
  | zero => simp [lowB, Nat.mod_one]
  | succ k ih =>
    simp only [lowB, ih]
    rw [Nat.mod_pow_succ, byteOf, Nat.mul_comm]

/-- What Join knows at the head of a round. -/
def JoinRel (w : World) (b : Nat → Nat) (k : Nat) (W : World) : Prop :=
  ∃ d0 d1 d2 d3, Dig (lowB b k) d0 d1 d2 d3 ∧ lowB b k < 256 ^ k ∧ Fr w w.heap.size (w.heap.size + 1) [(w.heap.size, #[.int .u64 0, .int .u64 0, .int .u64 0, .int .u64 0], 24)] W ∧ W.heap[w.heap.size + 1]? = some (.cells (four d0 d1 d2 d3) 22 (0, 0))

set_option maxRecDepth 100000 in
set_option maxHeartbeats 4000000 in
theorem Join_c {b : Nat → Nat} {n g cap : Nat} (hn : 32 ≤ n) (hcap : n ≤ maxLen) (w : World) (hg : g < w.heap.size) (hx : ∀ j, j < 32 → w.cell? ⟨g, j, none⟩ = some (.int .i64 (b j : Nat))) (hb : ∀ j, b j < 256) :
    Calls Try.prog 56 #[.slice (some ⟨g, 0, none⟩) n cap] w (RetD (lowB b 32) w) := by
  unfold maxLen at hcap
  have H := Fr.one w #[.int .u64 0, .int .u64 0, .int .u64 0, .int .u64 0] 24
  have H0 := Lib.hid (show JoinRel w b 0 _ from ⟨0, 0, 0, 0, ⟨by decide, by decide, by decide, by decide, rfl⟩, by simp [lowB], H.alloc (.cells (four 0 0 0 0) 22), by rw [← alloc_size w (.cells #[.int .u64 0, .int .u64 0, .int .u64 0, .int .u64 0] 24)]; exact heap_alloc_new _ _⟩)
  have HX := Lib.hid hx; clear hx H
  have hmk : ∀ w : World, (Instr.makeSlice 61 (.int .i64 4) (.int .i64 4)).run Try.prog w = .ok (.slice (some ⟨w.heap.size, 0, none⟩) 4 4) (w.alloc (.cells #[.int .u64 0, .int .u64 0, .int .u64 0, .int .u64 0] 22)) := fun _ => by kernel_rfl
  go_enter Try.func56, Try.ntmps56
  go_wp2_with fail
  go_loopw [4] (fun i wr => ∃ k : Nat, i = .int .i64 k ∧ k ≤ 32 ∧ JoinRel w b k wr) (fun i _ => 32 - (intOf i).toNat)
  case atStart => exact ⟨0, rfl, by omega, H0.out⟩
  case round =>
    clear H0
    obtain ⟨k, rfl, hk32, d0, d1, d2, d3, hD, hv, hF, hl⟩ := hrel
    have hnk : (32 : Int) ≤ (n : Int) := by omega
    by_cases hk : k < 32
    · have hbk := hb k
      have HL := Lib.hid (show lowB b (k + 1) = lowB b k + b k * 256 ^ k from rfl)
      have hcx : wr.cell? ⟨g, k, none⟩ = some (.int .i64 (b k : Nat)) := (hF.below.cell (p := ⟨g, k, none⟩) hg).trans (HX.out k hk)
      generalize b k = bb at *
      obtain ⟨p1, p2, p3, e0, e1, e2, e3, p4, p5⟩ := of_step hD hv (by omega) hbk
      have g5 : (0 : Int) ≤ (k : Int) / 8 := by omega
      have g6 : (k : Int) / 8 < 4 := by omega
      have c1 := (cell_of hl (k / 8)).trans (four_at _ _ _ _ _ (by omega))
      have f1 := free_of hl (k / 8)
      have hdm : nth d0 d1 d2 d3 (k / 8) < M64 := hD.nth _
      have ho : Go.bits .or .u64 (nth d0 d1 d2 d3 (k / 8) : Int) (IntKind.u64.wrap ((bb : Int) * 2 ^ (8 * (k % 8)))) = ((nth d0 d1 d2 d3 (k / 8) + bb * 2 ^ (k % 8 * 8) : Nat) : Int) := by
        have e1 : ((bb : Int) * 2 ^ (8 * (k % 8))) = ((bb * 2 ^ (k % 8 * 8) : Nat) : Int) := by rw [Nat.mul_comm (k % 8)]; simp
        rw [e1, wrap_nat _ p2, or64 _ _ hdm p2, or_add _ _ _ p1]
      have hlt1 : decide ((k : Int) < 32) = true := by simp; omega
      have hlt2 : decide ((k : Int) < (n : Int)) = true := by simp; omega
      have hlt3 : decide (k < n) = true := by simp; omega
      have hwb : IntKind.u64.wrap (bb : Int) = (bb : Int) := wrap_nat _ (by unfold M64; omega)
      have HP := Lib.hid p5; have HV := Lib.hid p3; have HD := Lib.hid p4; have Hl := Lib.hid hl; have HF := Lib.hid hF
      clear p1 p2 p3 p4 p5 hl hF hdm hv hD
      generalize nth d0 d1 d2 d3 (k / 8) + bb * 2 ^ (k % 8 * 8) = z at *
      generalize nth d0 d1 d2 d3 (k / 8) = d at *
      go_wp2_with fail
      go_region
      go_wp2_with fail
      go_roundw
      case rel =>
        refine ⟨k + 1, by go_num, by omega, e0, e1, e2, e3, by rw [HL.out]; exact HD.out, by rw [HL.out]; exact HV.out, (HF.out.set (by simp) _).drew, ?_⟩
        exact (heap_setCell_same _ _ _ _ _ _ Hl.out).trans (by rw [HP.out])
      case measure => simp [intOf]; omega
    · obtain rfl : k = 32 := by omega
      obtain ⟨c, _⟩ := cells4 hl
      have k0 := (hF.know _ (.head _)).2
      have k1 := cells4 k0
      have n0 := hF.lt (.head _)
      have HF := Lib.hid hF; have HD := Lib.hid hD; have K0 := Lib.hid k0
      clear hl hF hD hv k0 HX hb
      go_wp2_with fail
      go_region
      go_wp2_with fail
      exact bodyPost_ret (results_cell_row Try.results56 _ _ _ _ _ _ _ rfl (heap_set4 K0.out _ _ _ _) Try.underlying24 rfl (by kernel_rfl)) rfl
        ⟨_, _, _, _, rfl, HD.out, (below_set4 HF.out.below (by omega) _ _ _ _).drew⟩

end Go.Proofs.Ythbfhfgmanafpaa
