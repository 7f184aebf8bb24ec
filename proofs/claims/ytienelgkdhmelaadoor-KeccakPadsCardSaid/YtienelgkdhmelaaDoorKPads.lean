/- The contract of KeccakPads. -/
import Derived.Test.YtienelgkdhmelaaDoorKRefF
import Derived.Test.YtienelgkdhmelaaDoorKHead
namespace Go.Proofs.YtienelgkdhmelaaDoor
open Go.RowKit

theorem mk_pads {k : Nat} (h1 : 134 ≤ k) (h2 : k ≤ 138) (w : World) : (Instr.makeSlice 32 (.int .i64 (k : Int)) (.int .i64 (k : Int))).run Tryd.prog w = .ok (.slice (some ⟨w.heap.size, 0, none⟩) k k) (w.alloc (.cells (blk .u8 k fun _ => 0) 5)) := by
  rcases (by omega : k = 134 ∨ k = 135 ∨ k = 136 ∨ k = 137 ∨ k = 138) with rfl | rfl | rfl | rfl | rfl <;> kernel_rfl
structure PB (n : Nat) (v : World) (f : Nat → Nat) (W : World) : Prop where
  below : Below v.heap.size v W
  row : W.heap[v.heap.size]? = some (.cells (blk .u8 n f) 5 (0, 0))
theorem PB.step {n : Nat} {v W : World} {g h : Nat → Nat} {k : Nat} (s : PB n v (til g h k) W) : PB n v (til g h (k + 1)) (W.setCell ⟨v.heap.size, k, none⟩ (.int .u8 (g k : Nat))) := by
  refine ⟨s.below.setCell (Nat.le_refl _) _, ?_⟩
  rw [heap_setCell_same _ _ _ _ _ _ s.row, blk_set]
  congr 2
  exact blk_congr _ fun j _ => til_step _ _ _ _

set_option maxRecDepth 100000 in
set_option maxHeartbeats 4000000 in
theorem pads_c {s : ByteArray} (_hs : s.size ≤ maxLen) {n : Nat} (hn : n < 256) (w : World) (hT : Walk w) :
    Calls Tryd.prog 7 #[.string s, .int .u8 n] w fun e w' => e = .returned (.bool true) ∧ Below w.heap.size w w' := by
  have HT := Lib.hid hT; clear hT
  obtain ⟨k, hk⟩ : ∃ k, k = 134 + n % 5 := ⟨_, rfl⟩
  have hk1 : (n : Int).tmod 5 = ((n % 5 : Nat) : Int) := by rw [Int.tmod_eq_emod_of_nonneg (by omega)]; omega
  have hk2 : (n : Int) % 5 = ((n % 5 : Nat) : Int) := by omega
  have hk3 : (134 : Int) + ((n % 5 : Nat) : Int) = (k : Int) := by omega
  have hk4 : n % 5 < 5 := by omega
  have hk5 : 134 ≤ k := by omega
  have hk6 : k ≤ 138 := by omega
  have HM := Lib.hid (fun W => mk_pads hk5 hk6 W)
  generalize n % 5 = r at *
  clear hk
  go_enter Tryd.func7, Tryd.ntmps7
  go_wp2_with (go_at_call 8; refine (head_c _ HT.out).mono ?_)
  rintro e w1 ⟨rfl, h1⟩
  have H1 := Lib.hid h1; clear h1
  have hm := HM.out w1
  go_wp2_with fail
  clear hm hk1 hk2 hk3 hk4 HM
  have ht : (s.extract 0 (min (s.size : Int) 140).toNat).size ≤ 140 := by rw [ByteArray.size_extract]; omega
  generalize s.extract 0 (min (s.size : Int) 140).toNat = t at *
  have H2 := Lib.hid (show PB k w1 (til (byteAt t) (fun _ => 0) 0) (w1.alloc (.cells (blk .u8 k fun _ => 0) 5)) from ⟨(Below.refl _ _).alloc (by omega) _, by rw [heap_last _ rfl, til_zero]⟩)
  have HX := Lib.hid (fun i j hj e W => index_i64 t i j hj e W)
  go_loopw [8] (fun i wr => ∃ j : Nat, i = .int .i64 j ∧ j ≤ k ∧ j ≤ t.size ∧ PB k w1 (til (byteAt t) (fun _ => 0) j) wr) (fun i _ => k - (intOf i).toNat)
  case atStart => exact ⟨0, rfl, by omega, by omega, H2.out⟩
  case round =>
    clear H2
    obtain ⟨j, rfl, hj1, hj2, hS⟩ := hrel
    by_cases hlt : j < k ∧ j < t.size
    · have hx := fun W => HX.out (j : Int) j hlt.2 rfl W
      have d0 := (cell_of hS.row j).trans (blk_at _ _ hlt.1)
      rw [til_at] at d0
      have e0 := free_of hS.row j
      have HE := Lib.hid hS.step
      have l1 : (j : Int) < (k : Int) := by omega
      have l2 : (j : Int) < (t.size : Int) := by omega
      have bk : (0 : Int) ≤ (j : Int) ∧ (j : Int) < (k : Int) := by omega
      have h1 := hlt.1
      have h2 := hlt.2
      clear hS hlt
      generalize byteAt t j = y at *
      go_wp2_with fail
      go_roundw
      case rel => exact ⟨j + 1, by go_num, by omega, by omega, HE.out⟩
      case measure => simp [intOf]; omega
    · have HB := Lib.hid (H1.out.trans (hS.below.mono H1.out.size))
      have hg : ∀ i, til (byteAt t) (fun _ => 0) j i < 256 := fun i => by
        unfold til
        split
        · exact byteAt_lt t i
        · show 0 < 256; decide
      have hc := fun cap => conv_blk _ w1.heap.size k cap (til (byteAt t) (fun _ => 0) j) hg 5 hS.row
      have hu : (txt k (til (byteAt t) (fun _ => 0) j)).size = k := txt_size _ _
      clear hS hg
      generalize txt k (til (byteAt t) (fun _ => 0) j) = u at *
      have HR1 := Lib.hid (fun W => rsum_c (s := u) (by omega) W)
      have HR2 := Lib.hid (fun W => rsum_c (s := u ++ ⟨#[1]⟩) (by rw [ByteArray.size_append]; show u.size + 1 ≤ 1000; omega) W)
      have HC1 := Lib.hid (fun W h => sum_c u W h)
      have HC2 := Lib.hid (fun W h => sum_c (u ++ ⟨#[1]⟩) W h)
      have hsz : (sumN u).size = 32 := txt_size _ _
      generalize sumN u = r1 at *
      generalize sumN (u ++ ⟨#[1]⟩) = r2 at *
      by_cases hjk : j < k
      · have l1 : (j : Int) < (k : Int) := by omega
        have l2 : ¬ (j : Int) < (t.size : Int) := by omega
        clear hlt
        go_wp2_with (go_at_call 10; refine (HR1.out _).mono ?_)
        rintro e w2 rfl h2
        have H2 := Lib.hid (HB.out.trans (h2.mono HB.out.size)); clear h2
        go_wp2_with (go_at_call 9; refine (HC1.out _ (HT.out.later H2.out)).mono ?_)
        rintro e w3 ⟨rfl, h3⟩
        have H3 := Lib.hid (H2.out.trans (h3.mono H2.out.size)); clear h3
        go_wp2_with (go_at_call 9; refine (HC2.out _ (HT.out.later H3.out)).mono ?_)
        rintro e w4 ⟨rfl, h4⟩
        have H4 := Lib.hid (H3.out.trans (h4.mono H3.out.size)); clear h4
        go_wp2_with (go_at_call 10; refine (HR2.out _).mono ?_)
        rintro e w5 ⟨rfl, h5⟩
        have H5 := Lib.hid (H4.out.trans (h5.mono H4.out.size)); clear h5
        go_wp2_with fail
        go_ret
        exact ⟨rfl, H5.out⟩
      · have l1 : ¬ (j : Int) < (k : Int) := by omega
        clear hlt
        go_wp2_with (go_at_call 10; refine (HR1.out _).mono ?_)
        rintro e w2 rfl h2
        have H2 := Lib.hid (HB.out.trans (h2.mono HB.out.size)); clear h2
        go_wp2_with (go_at_call 9; refine (HC1.out _ (HT.out.later H2.out)).mono ?_)
        rintro e w3 ⟨rfl, h3⟩
        have H3 := Lib.hid (H2.out.trans (h3.mono H2.out.size)); clear h3
        go_wp2_with (go_at_call 9; refine (HC2.out _ (HT.out.later H3.out)).mono ?_)
        rintro e w4 ⟨rfl, h4⟩
        have H4 := Lib.hid (H3.out.trans (h4.mono H3.out.size)); clear h4
        go_wp2_with (go_at_call 10; refine (HR2.out _).mono ?_)
        rintro e w5 ⟨rfl, h5⟩
        have H5 := Lib.hid (H4.out.trans (h5.mono H4.out.size)); clear h5
        go_wp2_with fail
        go_ret
        exact ⟨rfl, H5.out⟩
end Go.Proofs.YtienelgkdhmelaaDoor
