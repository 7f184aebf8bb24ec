/- The contract of soaked. -/
import Derived.Test.YtienelgkdhmelaaDoorKPerm
import Derived.Test.YtienelgkdhmelaaDoorKLane
namespace Go.Proofs.YtienelgkdhmelaaDoor
open Go.RowKit

def soakN (f s : Nat → Nat) : Nat → Nat := permN (soakF f s 17)
theorem soakN_lt {f : Nat → Nat} (hf : ∀ i, f i < M64) (s : Nat → Nat) (i : Nat) : soakN f s i < M64 := permN_lt (soakF_lt hf s 17) i
structure SoakS (w : World) (f s : Nat → Nat) (k : Nat) (W : World) : Prop where
  below : Below w.heap.size w W
  lan : W.heap[w.heap.size]? = some (.cells (blk .u64 25 (soakF f s k)) 34 (0, 0))
  out : W.heap[w.heap.size + 1]? = some (.cells (blk .u64 25 fun _ => 0) 34 (0, 0))
theorem SoakS.step {w W : World} {f s : Nat → Nat} {k : Nat} (h : SoakS w f s k W) : SoakS w f s (k + 1) (W.setCell ⟨w.heap.size, k, none⟩ (.int .u64 (f k ^^^ lnK (fun j => s (8 * k + j)) 8 : Nat))) := by
  refine ⟨h.below.setCell (by simp) _, ?_, (heap_setCell_other _ _ _ _ (by simp)).trans h.out⟩
  rw [heap_setCell_same _ _ _ _ _ _ h.lan, blk_set]
  congr 2
  exact blk_congr _ fun j _ => soakF_step _ _ _ _
theorem SoakS.drew {w W : World} {f s : Nat → Nat} {k : Nat} (h : SoakS w f s k W) : SoakS w f s k W.drew := ⟨h.below.drew, h.lan, h.out⟩

set_option maxRecDepth 100000 in
set_option maxHeartbeats 2000000 in
theorem soak_c {f : Nat → Nat} (hf : ∀ i, f i < M64) {s : ByteArray} (hs : 136 ≤ s.size) (w : World) (hT : Walk w) :
    Calls Tryd.prog 13 #[.agg (blk .u64 25 f), .string s] w fun e w' => e = .returned (.agg (blk .u64 25 (soakN f (byteAt s)))) ∧ Below w.heap.size w w' := by
  have hz1 : ∀ w : World, (zeroValue 34).run Tryd.prog w = .ok (.agg (blk .u64 25 fun _ => 0)) w := fun _ => by kernel_rfl
  have H0 := Lib.hid (show SoakS w f (byteAt s) 0 ((w.alloc (.cells (blk .u64 25 f) 34)).alloc (.cells (blk .u64 25 fun _ => 0) 34)) from
    ⟨((Below.refl _ _).alloc (by omega) _).alloc (by simp) _, by rw [heap_down _ (by simp), heap_last _ rfl, blk_congr .u64 (g := soakF f (byteAt s) 0) fun j _ => (if_neg (by omega)).symm], by rw [heap_last _ (by simp)]⟩)
  have HT := Lib.hid hT; clear hT
  go_enter Tryd.func13, Tryd.ntmps13
  go_wp2_with fail
  go_loopw [6] (fun i wr => ∃ k : Nat, i = .int .i64 k ∧ k ≤ 17 ∧ SoakS w f (byteAt s) k wr) (fun i _ => 17 - (intOf i).toNat)
  case atStart => exact ⟨0, rfl, by omega, H0.out⟩
  case round =>
    clear H0
    obtain ⟨k, rfl, hk, hS⟩ := hrel
    by_cases hlt : k < 17
    · have hlti : (k : Int) < 17 := by omega
      have c0 := (cell_of hS.lan k).trans (blk_at _ _ (by omega))
      rw [soakF_at] at c0
      have e0 := free_of hS.lan k
      have HE := Lib.hid hS.drew.step
      have x0 := xor64 (hf k) (lnK_lt (fun j => byteAt s (8 * k + j)) 8)
      have hx : ((k : Int) * 8).toNat = 8 * k := by omega
      have hw : IntKind.i64.wrap ((k : Int) * 8) = (k : Int) * 8 := IntWalk.i64_in _ (by omega)
      have R := Lib.hid (fun W => lane_c (s := s.extract (8 * k) s.size) (by rw [ByteArray.size_extract]; omega) W)
      rw [lnK_congr (g := fun j => byteAt s (8 * k + j)) fun j hj => byteAt_extract s _ _ _ (by omega)] at R
      clear hS
      generalize f k ^^^ lnK (fun j => byteAt s (8 * k + j)) 8 = z at *
      generalize lnK (fun j => byteAt s (8 * k + j)) 8 = y at *
      generalize f k = x at *
      have bd : (0 : Int) ≤ (k : Int) ∧ (k : Int) < 25 := by omega
      have bk : (0 : Int) ≤ (k : Int) * 8 ∧ (k : Int) * 8 ≤ (s.size : Int) := by omega
      go_wp2_with fail
      go_still_tail 10, (by kernel_rfl)
      still_call ((R.out _).mono fun _ _ h => ⟨h.1, h.2.symm⟩)
      repeat still_step
      refine wpStill_nil ?_
      clear R
      go_wp2_with fail
      go_roundw
      case rel => exact ⟨k + 1, by go_num, by omega, HE.out⟩
      case measure => simp [intOf]; omega
    · obtain rfl : k = 17 := by omega
      have HB := Lib.hid hS.below
      have HL := Lib.hid hS.lan
      have HM := Lib.hid hS.out
      have hlt2 := lt_of hS.out
      have hT' : Walk wr := by
        obtain ⟨t, fr, ht⟩ := HT.out
        exact ⟨t, fr, (hS.below.block 0 (lt_of ht)).trans ht⟩
      have HP := Lib.hid (perm_c (soakF_lt hf (byteAt s) 17) wr hT')
      have HZ := Lib.hid (fun g => show (Tryd.prog.info? 34).map (·.size) = some (blk .u64 25 g).size by rw [blk_size]; kernel_rfl)
      have HO := Lib.hid (blk_one .u64 25)
      clear hS hT'
      go_wp2_with (first | (refine wpList_load_row rfl 34 (.tmp 2) rfl w.heap.size rfl 34 (blk .u64 25 (soakF f (byteAt s) 17)) (0, 0) _ HL.out Tryd.underlying34 rfl (HZ.out _) ?_) | (go_at_call 11; refine HP.out.mono ?_))
      rintro e w1 ⟨rfl, h1⟩
      replace HM := Lib.hid ((h1.block _ hlt2).trans HM.out)
      replace HB := Lib.hid (HB.out.trans (h1.mono HB.out.size))
      clear h1 HP HL
      go_wp2_with (first | (refine wpList_store_row rfl 34 (.tmp 4) (.tmp 21) rfl (w.heap.size + 1) (blk .u64 25 (soakN f (byteAt s))) rfl rfl 34 (blk .u64 25 fun _ => 0) HM.out (HZ.out _) (by rw [blk_size, blk_size]) (HO.out _) ?_))
      exact bodyPost_ret (results_cell_row Tryd.results13 _ _ _ _ _ _ _ rfl (row_setRow HM.out) Tryd.underlying34 rfl (HZ.out _)) rfl ⟨rfl, Below.setRow' HB.out (by omega) _⟩
end Go.Proofs.YtienelgkdhmelaaDoor
