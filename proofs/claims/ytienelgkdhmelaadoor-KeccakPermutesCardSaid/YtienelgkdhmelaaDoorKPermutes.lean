/- The contract of KeccakPermutes. -/
import Derived.Test.YtienelgkdhmelaaDoorKRefD
import Derived.Test.YtienelgkdhmelaaDoorKHead
import Derived.Test.YtienelgkdhmelaaDoorKApart
namespace Go.Proofs.YtienelgkdhmelaaDoor
open Go.RowKit

/-- Two rows of the same lanes. -/
structure PE (w : World) (a b : Nat) (f : Nat → Nat) (W : World) : Prop where
  below : Below w.heap.size w W
  rowA : W.heap[a]? = some (.cells (blk .u64 25 f) 27 (0, 0))
  rowB : W.heap[b]? = some (.cells (blk .u64 25 f) 26 (0, 0))
theorem PE.drewN {w W : World} {a b : Nat} {f : Nat → Nat} (h : PE w a b f W) (n : Nat) : PE w a b f (W.drewN n) := ⟨⟨h.below.os, h.below.tape, h.below.output, h.below.size, h.below.block⟩, h.rowA, h.rowB⟩

set_option maxRecDepth 100000 in
set_option maxHeartbeats 4000000 in
theorem permutes_c {p : Option Addr} {len cap : Nat} {g : Nat → Nat} (hg : ∀ i, g i < M64) (_hm : len ≤ maxLen) (w : World) (hT : Walk w) (hS : Sl p len g w) :
    Calls Tryd.prog 4 #[.slice p len cap] w fun e w' => e = .returned (.bool true) ∧ Below w.heap.size w w' := by
  have hz1 : ∀ w : World, (zeroValue 27).run Tryd.prog w = .ok (.agg (blk .u64 25 fun _ => 0)) w := fun _ => by kernel_rfl
  have HZ := Lib.hid (fun g => show (Tryd.prog.info? 27).map (·.size) = some (blk .u64 25 g).size by rw [blk_size]; kernel_rfl)
  have HO := Lib.hid (blk_one .u64 25)
  obtain ⟨i0, hi0, hy0, hy1, hy2⟩ := info_parts infoU64
  have HI := Lib.hid (And.intro hi0 (And.intro hy0 (And.intro hy1 hy2)))
  clear hi0 hy0 hy1 hy2
  have HT := Lib.hid hT; clear hT
  have HS := Lib.hid hS; clear hS
  go_enter Tryd.func4, Tryd.ntmps4
  go_wp2_with (go_at_call 8; refine (head_c _ HT.out).mono ?_)
  rintro e w1 ⟨rfl, h1⟩
  have H0 := Lib.hid (show ApS w1 (til g (fun _ => 0) 0) (w1.alloc (.cells (blk .u64 25 fun _ => 0) 27)) from ⟨(Below.refl _ _).alloc (by omega) _, by rw [heap_last _ rfl, til_zero]⟩)
  have H1 := Lib.hid h1; clear h1
  go_wp2_with fail
  go_loopw [5] (fun i wr => ∃ k : Nat, i = .int .i64 k ∧ k ≤ 25 ∧ k ≤ len ∧ ApS w1 (til g (fun _ => 0) k) wr) (fun i _ => 25 - (intOf i).toNat)
  case atStart => exact ⟨0, rfl, by omega, by omega, H0.out⟩
  case round =>
    clear H0
    obtain ⟨k, rfl, hk, hkl, hs⟩ := hrel
    by_cases hlt : k < 25 ∧ k < len
    · obtain ⟨hlt, hll⟩ := hlt
      obtain ⟨b, off, rfl, hc⟩ := (HS.out.later (H1.out.trans (hs.below.mono H1.out.size))) (by omega)
      have c0 := hc k hll
      have d0 := (cell_of hs.row k).trans (blk_at _ _ (by omega))
      rw [til_at] at d0
      have e0 := free_of hs.row k
      have HE := Lib.hid hs.step
      have hlti : (k : Int) < 25 := by omega
      have hlli : (k : Int) < (len : Int) := by omega
      clear hs hc
      generalize g k = y at *
      go_wp2_with fail
      go_roundw
      case rel => exact ⟨k + 1, by go_num, by omega, by omega, HE.out⟩
      case measure => simp [intOf]; omega
    · have hF := til_bound hg (fun _ => (by show 0 < M64; decide : (0 : Nat) < M64)) k
      have hr := hs.row
      have HB := Lib.hid (H1.out.trans (hs.below.mono H1.out.size))
      clear hs
      generalize til g (fun _ => 0) k = F at *
      have HL := Lib.hid hr
      clear hr
      have HP := Lib.hid (fun W h => perm_c hF W h)
      have HR := Lib.hid (fun p cap W h => rperm_c hF (p := p) (cap := cap) W h)
      have hcase : (((k : Int) < 25) ∧ ¬ ((k : Int) < (len : Int))) ∨ ¬ ((k : Int) < 25) := by omega
      clear hlt
      rcases hcase with ⟨ht1, ht2⟩ | ht1
      all_goals
      go_wp2_with (first | (refine wpList_load_row rfl 27 (.tmp 4) rfl w1.heap.size rfl 27 (blk .u64 25 F) (0, 0) _ HL.out Tryd.underlying27 rfl (HZ.out _) ?_) | (go_at_call 11; refine (HP.out _ (HT.out.later HB.out)).mono ?_))
      rintro e w3 rfl h3
      have HL3 := Lib.hid (row_later HL.out h3)
      have HB3 := Lib.hid (HB.out.trans (h3.mono HB.out.size))
      clear h3
      have HM := Lib.hid (heap_last (w := w3) (.cells (blk .u64 25 fun _ => 0) 27) rfl)
      have HC4 := Lib.hid (row_new w3 (blk .u64 25 fun _ => 0) (blk .u64 25 (permN F)) 27)
      have HA4 := Lib.hid (row_old (o' := (.cells (blk .u64 25 fun _ => 0) 27)) HL3.out (blk .u64 25 (permN F)))
      have HB4 := Lib.hid (Below.new HB3.out HB3.out.size (.cells (blk .u64 25 fun _ => 0) 27) (blk .u64 25 (permN F)))
      have HSz := Lib.hid (show (((w3.alloc (.cells (blk .u64 25 fun _ => 0) 27)).setRow w3.heap.size (blk .u64 25 (permN F)))).heap.size = w3.heap.size + 1 by simp [World.setRow])
      have HNw := Lib.hid (World.news_of_block HA4.out)
      have HQ := Lib.hid (show ∀ u ∈ (blk .u64 25 F).toList, u.oneCell' = true by
        intro u hu
        have := Array.all_eq_true_iff_forall_mem.1 (HO.out F)
        exact this u (by simpa using hu))
      have hlen : (blk .u64 25 F).toList.length = 25 * 1 := by simp [blk_size]
      have HLn := Lib.hid hlen
      clear hlen
      obtain ⟨W4, hW4⟩ : ∃ W4, (w3.alloc (.cells (blk .u64 25 fun _ => 0) 27)).setRow w3.heap.size (blk .u64 25 (permN F)) = W4 := ⟨_, rfl⟩
      have HW4 := Lib.hid hW4
      have HX := Lib.hid (fun g cap w1 (hown : World.ownsRow w1 w.heap.size 26 1 (.slice (some ⟨g, 0, none⟩) (0 + 25) cap) (0 + 25) ([] ++ (blk .u64 25 F).toList)) (hgrow : World.grownBy W4 w1 (Value.ownBlock (.slice none 0 0))) => show Below W4.heap.size W4 w1 ∧ Sl (some ⟨g, 0, none⟩) 25 F w1 from by
        refine ⟨(Below.refl _ _).grown hgrow (Nat.le_refl _) (fun q hq => by cases hq), fun _ => ⟨g, 0, rfl, fun i hi => ?_⟩⟩
        have h := hown.cells (g := g) rfl i (.int .u64 (F i : Nat)) (by rw [List.nil_append, Array.getElem?_toList, blk_at _ _ hi])
        have e : (⟨g, 0, none⟩ : Addr).add i = ⟨g, i, none⟩ := by unfold Addr.add; split <;> simp_all
        rw [e] at h
        rw [Nat.zero_add]
        exact h)
      rw [hW4] at HA4 HB4 HC4 HNw HSz
      clear hW4
      go_wp2_with (first | (refine wpList_store_row rfl 27 (.tmp 6) (.tmp 29) rfl w3.heap.size (blk .u64 25 (permN F)) rfl rfl 27 (blk .u64 25 fun _ => 0) HM.out (HZ.out _) (by rw [blk_size, blk_size]) (HO.out _) ?_; rw [HW4.out]) | (at_builtin; refine wpList_append_lies _ rfl _ _ _ rfl w.heap.size 26 i0 _ 1 8 Tryd.underlying25 HI.out.1 HI.out.2.1 HI.out.2.2.1 HI.out.2.2.2 rfl (by omega) (.slice none 0 0) 0 [] rfl ⟨rfl, .inl ⟨rfl, rfl⟩⟩ ⟨w1.heap.size, 0, none⟩ 25 25 (blk .u64 25 F).toList rfl HLn.out HNw.out HQ.out (by omega) (by simp [maxLen]) (by omega) HB4.out.size W4.heap.size rfl ?_; intro g1 cap1 w4 hown hgrow hat hlg; have HY := Lib.hid (HX.out g1 cap1 w4 hown hgrow); clear hown hgrow hat hlg) | (go_at_call 12; refine (HR.out _ _ _ HY.out.2).mono ?_))
      rintro e w5 ⟨g5, rfl, hg5, hr5, hb5⟩
      have H5 := Lib.hid (show PE w w3.heap.size g5 (permN F) w5 from by
        have hb45 := HY.out.1.trans (hb5.mono HY.out.1.size)
        exact ⟨HB4.out.trans (hb45.mono HB4.out.size), row_later HC4.out hb45, hr5⟩)
      clear hg5 hr5 hb5 HY HX HNw HSz HA4 HB4 HC4 HM HL3 HB3 HR HP HL HB HQ HLn HW4
      generalize permN F = G at *
      go_wp2_with fail
      go_loopw [8] (fun i wr => ∃ j : Nat, i = .int .i64 j ∧ j ≤ 25 ∧ PE w w3.heap.size g5 G wr) (fun i _ => 25 - (intOf i).toNat)
      case atStart => exact ⟨0, rfl, by omega, H5.out⟩
      case round =>
        clear H5
        obtain ⟨j, rfl, hj, hs⟩ := hrel
        by_cases hlt : j < 25
        · have hji : (j : Int) < 25 := by omega
          have c0 := (cell_of hs.rowA j).trans (blk_at _ _ hlt)
          have c1 := (cell_of hs.rowB j).trans (blk_at _ _ hlt)
          have HE := Lib.hid (fun n => hs.drewN n)
          clear hs
          generalize G j = y at *
          have bj : (0 : Int) ≤ (j : Int) ∧ (j : Int) < 25 := by omega
          go_wp2_with fail
          go_quiet (fail)
          go_wp2_with fail
          go_roundw
          case rel => exact ⟨j + 1, by go_num, by omega, HE.out _⟩
          case measure => simp [intOf]; omega
        · obtain rfl : j = 25 := by omega
          have HB := Lib.hid hs.below
          clear hs
          go_wp2_with fail
          go_ret
          exact ⟨rfl, HB.out⟩
end Go.Proofs.YtienelgkdhmelaaDoor
