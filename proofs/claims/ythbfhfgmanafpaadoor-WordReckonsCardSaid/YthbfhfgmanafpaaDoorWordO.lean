/- The contract of word.Of. -/
import Derived.Test.YthbfhfgmanafpaaDoorBytesN
import Derived.Test.YthbfhfgmanafpaaDoorWordM
namespace Go.Proofs.YthbfhfgmanafpaaDoor
open Go.RowKit

set_option maxRecDepth 100000 in
set_option maxHeartbeats 2000000 in
theorem Of_long (s : ByteArray) (hs : 32 < s.size) (w : World) :
    Calls Tryd.prog 43 #[.string s] w fun e w' =>
      e = .returned (.tuple #[.agg #[.int .u64 0, .int .u64 0, .int .u64 0, .int .u64 0], .bool false]) ∧ Below w.heap.size w w' := by
  have hs' : (32 : Int) < (s.size : Int) := by omega
  go_enter Tryd.func43, Tryd.ntmps43
  go_wp2
  exact bodyPost_ret (results_cell_slot Tryd.results43 _ _ _ _ _ _ _ _ rfl rfl (heap_alloc_new _ _) Tryd.underlying24 rfl (by kernel_rfl)) rfl ⟨rfl, (Below.refl _ _).alloc (Nat.le_refl _) _⟩

def lastOf (s : ByteArray) : Nat → Nat
  | 0 => 0
  | k + 1 => lastOf s k + byteAt s (s.size - 1 - k) * 256 ^ k
/-- What Of knows at the head of a round. -/
def OfRel (w : World) (s : ByteArray) (k : Nat) (W : World) : Prop :=
  ∃ d0 d1 d2 d3, Dig (lastOf s k) d0 d1 d2 d3 ∧ lastOf s k < 256 ^ k ∧ Fr w w.heap.size (w.heap.size + 1) [(w.heap.size, #[.int .u64 0, .int .u64 0, .int .u64 0, .int .u64 0], 24)] W ∧ W.heap[w.heap.size + 1]? = some (.cells (four d0 d1 d2 d3) 41 (0, 0))

/-- A call that hands back a word and a bool. -/
def RetWB (q : Nat → Prop) (b : Bool) (w : World) (e : Ending) (w' : World) : Prop :=
  ∃ s s3 s2 s1 s0 : Nat, e = .returned (.tuple #[.agg #[.int .u64 s3, .int .u64 s2, .int .u64 s1, .int .u64 s0], .bool b]) ∧ Dig s s0 s1 s2 s3 ∧ q s ∧ Below w.heap.size w w'

set_option maxRecDepth 100000 in
set_option maxHeartbeats 2000000 in
theorem Of_short (s : ByteArray) (hs : s.size ≤ 32) (w : World) :
    Calls Tryd.prog 43 #[.string s] w (RetWB (fun v => v = lastOf s s.size) true w) := by
  have hs' : ¬ (32 : Int) < (s.size : Int) := by omega
  have H := Fr.one w #[.int .u64 0, .int .u64 0, .int .u64 0, .int .u64 0] 24
  have H0 := Lib.hid (show OfRel w s 0 _ from ⟨0, 0, 0, 0, ⟨by decide, by decide, by decide, by decide, rfl⟩, by simp [lastOf], H.alloc (.cells (four 0 0 0 0) 41), by rw [← alloc_size w (.cells #[.int .u64 0, .int .u64 0, .int .u64 0, .int .u64 0] 24)]; exact heap_alloc_new _ _⟩)
  clear H
  go_enter Tryd.func43, Tryd.ntmps43
  go_wp2_with fail
  go_loopw [14] (fun i wr => ∃ k : Nat, i = .int .i64 k ∧ k ≤ s.size ∧ OfRel w s k wr) (fun i w => s.size - (intOf i).toNat)
  case atStart => exact ⟨0, rfl, by omega, H0.out⟩
  case round =>
    clear H0
    obtain ⟨k, rfl, hk, d0, d1, d2, d3, hD, hv, hF, hl⟩ := hrel
    by_cases hk : k < s.size
    · have g1 : (0 : Int) ≤ (s.size : Int) - 1 - (k : Int) := by omega
      have g2 : (s.size : Int) - 1 - (k : Int) < (s.size : Int) := by omega
      have g3 : ((s.size : Int) - 1 - (k : Int)).toNat = s.size - 1 - k := by omega
      have g4 : s.size - 1 - k < s.size := by omega
      have gi := index_str s ((s.size : Int) - 1 - (k : Int)) (s.size - 1 - k) g4 (by omega)
      have hbv : (s[s.size - 1 - k]'g4).toNat = byteAt s (s.size - 1 - k) := by unfold byteAt; rw [dif_pos g4]
      rw [hbv] at gi
      clear hbv
      have hb := byteAt_lt s (s.size - 1 - k)
      have HL := Lib.hid (show lastOf s (k + 1) = lastOf s k + byteAt s (s.size - 1 - k) * 256 ^ k from rfl)
      generalize byteAt s (s.size - 1 - k) = b at *
      obtain ⟨p1, p2, p3, e0, e1, e2, e3, p4, p5⟩ := of_step hD hv (by omega) hb
      have g5 : (0 : Int) ≤ (k : Int) / 8 := by omega
      have g6 : (k : Int) / 8 < 4 := by omega
      have c1 := (cell_of hl (k / 8)).trans (four_at _ _ _ _ _ (by omega))
      have f1 := free_of hl (k / 8)
      have hdm : nth d0 d1 d2 d3 (k / 8) < M64 := hD.nth _
      have ho : Go.bits .or .u64 (nth d0 d1 d2 d3 (k / 8) : Int) (IntKind.u64.wrap ((b : Int) * 2 ^ (k % 8 * 8))) = ((nth d0 d1 d2 d3 (k / 8) + b * 2 ^ (k % 8 * 8) : Nat) : Int) := by
        have e1 : ((b : Int) * 2 ^ (k % 8 * 8)) = ((b * 2 ^ (k % 8 * 8) : Nat) : Int) := by simp
        rw [e1, wrap_nat _ p2, or64 _ _ hdm p2, or_add _ _ _ p1]
      have HP := Lib.hid p5; have HV := Lib.hid p3; have HD := Lib.hid p4; have Hl := Lib.hid hl; have HF := Lib.hid hF
      clear p1 p2 p3 p4 p5 hl hF hdm hv hD
      generalize nth d0 d1 d2 d3 (k / 8) + b * 2 ^ (k % 8 * 8) = z at *
      generalize nth d0 d1 d2 d3 (k / 8) = d at *
      go_wp2_with fail
      refine (placeOf_any _ (by omega) (by omega) _).mono ?_
      rintro e w2 ⟨rfl, rfl⟩
      go_wp2_with fail
      go_region
      go_wp2_with fail
      go_roundw
      case rel =>
        refine ⟨k + 1, by go_num, by omega, e0, e1, e2, e3, by rw [HL.out]; exact HD.out, by rw [HL.out]; exact HV.out, (HF.out.set (by simp) _).drew, ?_⟩
        exact (heap_setCell_same _ _ _ _ _ _ Hl.out).trans (by rw [HP.out])
      case measure => simp [intOf]; omega
    · have h32 : k = s.size := by omega
      subst h32
      obtain ⟨⟨c0, c1, c2, c3⟩, _⟩ := cells4 hl
      have k0 := hF.know (w.heap.size, #[.int .u64 0, .int .u64 0, .int .u64 0, .int .u64 0], 24) (by simp)
      have HF := Lib.hid hF; have HD := Lib.hid hD
      clear hl hF hD hv k0
      go_wp2_with fail
      refine (join_any _ _ _ _ _).mono ?_
      rintro e w4 ⟨rfl, hb4⟩
      have F := HF.out.call hb4
      have k0 := F.know (w.heap.size, #[.int .u64 0, .int .u64 0, .int .u64 0, .int .u64 0], 24) (by simp)
      obtain ⟨⟨q0, q1, q2, q3⟩, f0, f1, f2, f3⟩ := cells4 k0.2
      have K0 := Lib.hid k0; clear k0 hb4
      go_wp2_with fail
      exact bodyPost_ret (results_cell_slot Tryd.results43 _ _ _ _ _ _ _ _ rfl rfl (heap_set4 K0.out.2 _ _ _ _) Tryd.underlying24 rfl (by kernel_rfl)) rfl
        ⟨_, _, _, _, _, rfl, HD.out, rfl, below_set4 F.below (by omega) _ _ _ _⟩

end Go.Proofs.YthbfhfgmanafpaaDoor
