/- The contract of KeccakApart. -/
import Derived.Test.YtienelgkdhmelaaDoorKEql
import Derived.Test.YtienelgkdhmelaaDoorKInj
import Derived.Test.YtienelgkdhmelaaDoorKHead
namespace Go.Proofs.YtienelgkdhmelaaDoor
open Go.RowKit

structure ApS (w : World) (f : Nat → Nat) (W : World) : Prop where
  below : Below w.heap.size w W
  row : W.heap[w.heap.size]? = some (.cells (blk .u64 25 f) 27 (0, 0))
theorem ApS.step {w W : World} {g h : Nat → Nat} {k : Nat} (s : ApS w (til g h k) W) : ApS w (til g h (k + 1)) (W.setCell ⟨w.heap.size, k, none⟩ (.int .u64 (g k : Nat))) := by
  refine ⟨s.below.setCell (by simp) _, ?_⟩
  rw [heap_setCell_same _ _ _ _ _ _ s.row, blk_set]
  congr 2
  exact blk_congr _ fun j _ => til_step _ _ _ _
structure Ap3 (w : World) (A C D : Nat) (f g : Nat → Nat) (W : World) : Prop where
  below : Below w.heap.size w W
  rowA : W.heap[A]? = some (.cells (blk .u64 25 f) 27 (0, 0))
  rowC : W.heap[C]? = some (.cells (blk .u64 25 (permN f)) 27 (0, 0))
  rowD : W.heap[D]? = some (.cells (blk .u64 25 (permN g)) 27 (0, 0))
theorem Ap3.drew {w W : World} {A C D : Nat} {f g : Nat → Nat} (h : Ap3 w A C D f g W) : Ap3 w A C D f g W.drew := ⟨h.below.drew, h.rowA, h.rowC, h.rowD⟩
theorem Ap3.call {w W W' : World} {A C D : Nat} {f g : Nat → Nat} (h : Ap3 w A C D f g W) (hb : Below W.heap.size W W') : Ap3 w A C D f g W' :=
  ⟨h.below.trans (hb.mono h.below.size), row_later h.rowA hb, row_later h.rowC hb, row_later h.rowD hb⟩
theorem til_bound {g h : Nat → Nat} (hg : ∀ i, g i < M64) (hh : ∀ i, h i < M64) (k i : Nat) : til g h k i < M64 := by
  unfold til
  split
  · exact hg i
  · exact hh i
theorem apart_same {f : Nat → Nat} (hf : ∀ i, f i < M64) {q x : Nat} (hq : q < 25) (hx : x < M64) : sameB (permN f) (permN (upd f q (f q ^^^ x))) = ((x : Int) == 0) := by
  by_cases h0 : x = 0
  · subst h0
    have e : upd f q (f q) = f := by
      funext i
      unfold upd
      by_cases e : i = q
      · rw [if_pos e, e]
      · rw [if_neg e]
    rw [Nat.xor_zero, e]
    exact sameB_true (Same.refl _)
  · have hn : ((x : Int) == 0) = false := by simpa using h0
    rw [hn, Bool.eq_false_iff]
    intro h
    have hg : ∀ i, upd f q (f q ^^^ x) i < M64 := fun i => by
      unfold upd
      split
      · exact xor_lt (hf q) hx
      · exact hf i
    have e := st_inj hf hg 24 (sameB_same h) q hq
    rw [upd_same] at e
    have e2 := congrArg (f q ^^^ ·) e
    simp only [Nat.xor_self, ← Nat.xor_assoc, Nat.zero_xor] at e2
    exact h0 e2.symm

set_option maxRecDepth 100000 in
set_option maxHeartbeats 4000000 in
theorem apart_c {p : Option Addr} {len cap a x : Nat} {g : Nat → Nat} (hg : ∀ i, g i < M64) (_hm : len ≤ maxLen) (ha : a < 256) (hx : x < M64) (w : World) (hT : Walk w) (hS : Sl p len g w) :
    Calls Tryd.prog 5 #[.slice p len cap, .int .u8 a, .int .u64 x] w fun e w' => e = .returned (.bool true) ∧ Below w.heap.size w w' := by
  have hz1 : ∀ w : World, (zeroValue 27).run Tryd.prog w = .ok (.agg (blk .u64 25 fun _ => 0)) w := fun _ => by kernel_rfl
  have HZ := Lib.hid (fun g => show (Tryd.prog.info? 27).map (·.size) = some (blk .u64 25 g).size by rw [blk_size]; kernel_rfl)
  have HO := Lib.hid (blk_one .u64 25)
  have HT := Lib.hid hT; clear hT
  have HS := Lib.hid hS; clear hS
  go_enter Tryd.func5, Tryd.ntmps5
  go_wp2_with (go_at_call 8; refine (head_c _ HT.out).mono ?_)
  rintro e w1 ⟨rfl, h1⟩
  have H0 := Lib.hid (show ApS w1 (til g (fun _ => 0) 0) (w1.alloc (.cells (blk .u64 25 fun _ => 0) 27)) from ⟨(Below.refl _ _).alloc (by omega) _, by rw [heap_last _ rfl, til_zero]⟩)
  have H1 := Lib.hid h1; clear h1
  go_wp2_with fail
  go_loopw [9] (fun i wr => ∃ k : Nat, i = .int .i64 k ∧ k ≤ 25 ∧ k ≤ len ∧ ApS w1 (til g (fun _ => 0) k) wr) (fun i _ => 25 - (intOf i).toNat)
  case atStart => exact ⟨0, rfl, by omega, by omega, H0.out⟩
  case round =>
    clear H0
    obtain ⟨k, rfl, hk, hkl, hs⟩ := hrel
    by_cases hlt : k < 25 ∧ k < len
    · obtain ⟨hlt, hll⟩ := hlt
      obtain ⟨b, off, rfl, hc⟩ := (HS.out.later (H1.out.trans (hs.below.mono H1.out.size))) (by omega)
      have c0 := hc k hll
      have d0 := (cell_of hs.row k).trans (blk_at _ _ (by omega))
      rw [til_at] at d0
      have e0 := free_of hs.row k
      have HE := Lib.hid hs.step
      have hlti : (k : Int) < 25 := by omega
      have hlli : (k : Int) < (len : Int) := by omega
      clear hs hc
      generalize g k = y at *
      go_wp2_with fail
      go_roundw
      case rel => exact ⟨k + 1, by go_num, by omega, by omega, HE.out⟩
      case measure => simp [intOf]; omega
    · have hF := til_bound hg (fun _ => (by show 0 < M64; decide : (0 : Nat) < M64)) k
      have hr := hs.row
      have HB := Lib.hid (H1.out.trans (hs.below.mono H1.out.size))
      clear hs
      generalize til g (fun _ => 0) k = F at *
      obtain ⟨q, hq⟩ : ∃ q, a % 25 = q := ⟨_, rfl⟩
      have hq25 : q < 25 := by omega
      have hq1 : (a : Int).tmod 25 = (q : Int) := by rw [Int.tmod_eq_emod_of_nonneg (by omega)]; omega
      have hq2 : (a : Int) % 25 = (q : Int) := by omega
      have x0 := xor64 (hF q) hx
      have HX := Lib.hid (apart_same hF hq25 hx)
      have hG : ∀ i, upd F q (F q ^^^ x) i < M64 := fun i => by
        unfold upd
        split
        · exact xor_lt (hF q) hx
        · exact hF i
      obtain ⟨z, hzz⟩ : ∃ z, F q ^^^ x = z := ⟨_, rfl⟩
      rw [hzz] at x0 HX hG
      have hn := row_new wr (blk .u64 25 fun _ => 0) (blk .u64 25 F) 27
      have c0 := (cell_of hn q).trans (blk_at _ _ hq25)
      have e0 := free_of hn q
      have hlr := lt_of hr
      have HA := Lib.hid ((heap_setCell_other _ ⟨wr.heap.size, q, none⟩ _ (.int .u64 (z : Nat)) (by show w1.heap.size ≠ wr.heap.size; omega)).trans (row_old (o' := (.cells (blk .u64 25 fun _ => 0) 27)) hr (blk .u64 25 F)))
      have HN := Lib.hid ((heap_setCell_same _ _ q _ _ (.int .u64 (z : Nat)) hn))
      rw [blk_set] at HN
      have HB2 := Lib.hid ((Below.new HB.out HB.out.size (.cells (blk .u64 25 fun _ => 0) 27) (blk .u64 25 F)).setCell (p := ⟨wr.heap.size, q, none⟩) HB.out.size (.int .u64 (z : Nat)))
      have HL := Lib.hid hr
      have HSz := Lib.hid (show (((((wr).alloc (.cells (blk .u64 25 fun _ => 0) 27)).setRow (wr).heap.size (blk .u64 25 (F)))).setCell ⟨wr.heap.size, q, none⟩ (.int .u64 (z : Nat))).heap.size = wr.heap.size + 1 by simp [World.setRow, World.setCell])
      clear hn hr hlr hq hzz
      have HM := Lib.hid (heap_last (w := wr) (.cells (blk .u64 25 fun _ => 0) 27) rfl)
      have HP := Lib.hid (fun W h => perm_c hF W h)
      have bq : (0 : Int) ≤ (q : Int) ∧ (q : Int) < 25 := by omega
      generalize upd F q z = G at *
      have hcase : (((k : Int) < 25) ∧ ¬ ((k : Int) < (len : Int))) ∨ ¬ ((k : Int) < 25) := by omega
      clear hlt
      rcases hcase with ⟨ht1, ht2⟩ | ht1
      all_goals
      go_wp2_with (first | (refine wpList_load_row rfl 27 (.tmp 8) rfl w1.heap.size rfl 27 (blk .u64 25 F) (0, 0) _ HL.out Tryd.underlying27 rfl (HZ.out _) ?_) | (refine wpList_store_row rfl 27 (.tmp 10) (.tmp 32) rfl wr.heap.size (blk .u64 25 F) rfl rfl 27 (blk .u64 25 fun _ => 0) HM.out (HZ.out _) (by rw [blk_size, blk_size]) (HO.out _) ?_) | (refine wpList_load_row rfl 27 (.tmp 8) rfl w1.heap.size rfl 27 (blk .u64 25 F) (0, 0) _ HA.out Tryd.underlying27 rfl (HZ.out _) ?_) | (go_at_call 11; refine (HP.out _ (HT.out.later HB2.out)).mono ?_))
      rintro e w3 rfl h3
      rw [← HSz.out] at h3
      have HA3 := Lib.hid (row_later HA.out h3)
      have HN3 := Lib.hid (row_later HN.out h3)
      have HB3 := Lib.hid (HB2.out.trans (h3.mono HB2.out.size))
      clear h3 HA HN HB2 HSz HL HM c0 e0 x0 HP HB
      have HM := Lib.hid (heap_last (w := w3) (.cells (blk .u64 25 fun _ => 0) 27) rfl)
      have HN4 := Lib.hid (row_old (o' := (.cells (blk .u64 25 fun _ => 0) 27)) HN3.out (blk .u64 25 (permN F)))
      have HA4 := Lib.hid (row_old (o' := (.cells (blk .u64 25 fun _ => 0) 27)) HA3.out (blk .u64 25 (permN F)))
      have HC4 := Lib.hid (row_new w3 (blk .u64 25 fun _ => 0) (blk .u64 25 (permN F)) 27)
      have HB4 := Lib.hid (Below.new HB3.out HB3.out.size (.cells (blk .u64 25 fun _ => 0) 27) (blk .u64 25 (permN F)))
      have HP := Lib.hid (fun W h => perm_c hG W h)
      clear HA3 HN3 HB3
      go_wp2_with (first | (refine wpList_store_row rfl 27 (.tmp 11) (.tmp 43) rfl w3.heap.size (blk .u64 25 (permN F)) rfl rfl 27 (blk .u64 25 fun _ => 0) HM.out (HZ.out _) (by rw [blk_size, blk_size]) (HO.out _) ?_) | (refine wpList_load_row rfl 27 (.tmp 10) rfl wr.heap.size rfl 27 (blk .u64 25 G) (0, 0) _ HN4.out Tryd.underlying27 rfl (HZ.out _) ?_) | (go_at_call 11; refine (HP.out _ (HT.out.later HB4.out)).mono ?_))
      rintro e w5 ⟨rfl, h5⟩
      have HA5 := Lib.hid (row_later HA4.out h5)
      have HC5 := Lib.hid (row_later HC4.out h5)
      have HB5 := Lib.hid (HB4.out.trans (h5.mono HB4.out.size))
      clear h5 HA4 HN4 HC4 HB4 HM HP
      have HM := Lib.hid (heap_last (w := w5) (.cells (blk .u64 25 fun _ => 0) 27) rfl)
      have H0 := (show Ap3 w w1.heap.size w3.heap.size w5.heap.size F G (((w5).alloc (.cells (blk .u64 25 fun _ => 0) 27)).setRow (w5).heap.size (blk .u64 25 (permN G))) from ⟨Below.new HB5.out HB5.out.size (.cells (blk .u64 25 fun _ => 0) 27) (blk .u64 25 (permN G)), row_old (o' := (.cells (blk .u64 25 fun _ => 0) 27)) HA5.out (blk .u64 25 (permN G)), row_old (o' := (.cells (blk .u64 25 fun _ => 0) 27)) HC5.out (blk .u64 25 (permN G)), row_new w5 (blk .u64 25 fun _ => 0) (blk .u64 25 (permN G)) 27⟩)
      replace H0 := Lib.hid H0.drew
      clear HA5 HC5 HB5
      go_wp2_with (first | (refine wpList_store_row rfl 27 (.tmp 12) (.tmp 45) rfl w5.heap.size (blk .u64 25 (permN G)) rfl rfl 27 (blk .u64 25 fun _ => 0) HM.out (HZ.out _) (by rw [blk_size, blk_size]) (HO.out _) ?_))
      clear HM
      generalize (((w5).alloc (.cells (blk .u64 25 fun _ => 0) 27)).setRow (w5).heap.size (blk .u64 25 (permN G))) = W6 at *
      obtain ⟨bx, hbx⟩ : ∃ b, ((x : Int) == 0) = b := ⟨_, rfl⟩
      rw [hbx] at HX
      have heq : ∀ W, (binOp .eql 27 (.agg (blk .u64 25 (permN F))) (.agg (blk .u64 25 (permN G)))).run Tryd.prog W = .ok (.bool bx) W := fun W => by rw [eql_blk, HX.out]
      have heq2 : ∀ W, (binOp .eql 27 (.agg (blk .u64 25 (permN F))) (.agg (blk .u64 25 (permN F)))).run Tryd.prog W = .ok (.bool true) W := fun W => by rw [eql_blk, sameB_true (Same.refl _)]
      have HP := Lib.hid (fun W h => perm_c hF W h)
      replace H0 := H0.out
      simp only [put_none]
      refine Drawn.start (fun W => Ap3 w w1.heap.size w3.heap.size w5.heap.size F G W) (fun _ => false) (by kernel_rfl) ?_
      refine Drawn.take 0 (some 46) (v := ?_) rfl rfl (by kernel_rfl) (by kernel_rfl) (by kernel_rfl) (by kernel_rfl) (by kernel_rfl) rfl (fun _ _ _ h => h) (Or.inl ⟨by kernel_rfl, ?_⟩) H0 ?_
      rotate_left
      · intro W hW; clear hW; go_simp; try with_reducible rfl
      try simp only [put_list, List.set]
      refine Drawn.take 1 (some 47) (v := ?_) rfl rfl (by kernel_rfl) (by kernel_rfl) (by kernel_rfl) (by kernel_rfl) (by kernel_rfl) rfl (fun _ _ _ h => h) (Or.inl ⟨by kernel_rfl, ?_⟩) H0 ?_
      rotate_left
      · intro W hW; clear hW; go_simp; try with_reducible rfl
      try simp only [put_list, List.set]
      refine Drawn.take 2 (some 48) (v := .agg (blk .u64 25 (permN F))) rfl rfl (by kernel_rfl) (by kernel_rfl) (by kernel_rfl) (by kernel_rfl) (by kernel_rfl) rfl (fun _ _ _ h => h) (Or.inl ⟨by kernel_rfl, fun W hW => load_row_run 27 (.tmp 11) rfl (w3.heap.size) rfl 27 _ (0, 0) _ hW.rowC Tryd.underlying27 rfl (HZ.out _)⟩) H0 ?_
      try simp only [put_list, List.set]
      refine Drawn.take 3 (some 49) (v := .agg (blk .u64 25 (permN G))) rfl rfl (by kernel_rfl) (by kernel_rfl) (by kernel_rfl) (by kernel_rfl) (by kernel_rfl) rfl (fun _ _ _ h => h) (Or.inl ⟨by kernel_rfl, fun W hW => load_row_run 27 (.tmp 12) rfl (w5.heap.size) rfl 27 _ (0, 0) _ hW.rowD Tryd.underlying27 rfl (HZ.out _)⟩) H0 ?_
      try simp only [put_list, List.set]
      refine Drawn.take 4 (some 50) (v := ?_) rfl rfl (by kernel_rfl) (by kernel_rfl) (by kernel_rfl) (by kernel_rfl) (by kernel_rfl) rfl (fun _ _ _ h => h) (Or.inl ⟨by kernel_rfl, ?_⟩) H0 ?_
      rotate_left
      · intro W hW; clear hW; go_simp; try with_reducible rfl
      try simp only [put_list, List.set]
      refine Drawn.take 5 (some 51) (v := ?_) rfl rfl (by kernel_rfl) (by kernel_rfl) (by kernel_rfl) (by kernel_rfl) (by kernel_rfl) rfl (fun _ _ _ h => h) (Or.inl ⟨by kernel_rfl, ?_⟩) H0 ?_
      rotate_left
      · intro W hW; clear hW; go_simp; try with_reducible rfl
      try simp only [put_list, List.set]
      refine Drawn.take 6 (some 52) (v := ?_) rfl rfl (by kernel_rfl) (by kernel_rfl) (by kernel_rfl) (by kernel_rfl) (by kernel_rfl) rfl (fun _ _ _ h => h) (Or.inl ⟨by kernel_rfl, ?_⟩) H0 ?_
      rotate_left
      · intro W hW; clear hW; go_simp; try with_reducible rfl
      try simp only [put_list, List.set]
      refine Drawn.take 7 (some 53) (v := ?_) rfl rfl (by kernel_rfl) (by kernel_rfl) (by kernel_rfl) (by kernel_rfl) (by kernel_rfl) rfl (fun _ _ _ h => h) (Or.inl ⟨by kernel_rfl, ?_⟩) H0 ?_
      rotate_left
      · intro W hW; clear hW; go_simp; try with_reducible rfl
      try simp only [put_list, List.set]
      refine Drawn.take 8 (some 54) (v := ?_) rfl rfl (by kernel_rfl) (by kernel_rfl) (by kernel_rfl) (by kernel_rfl) (by kernel_rfl) rfl (fun _ _ _ h => h) (Or.inl ⟨by kernel_rfl, ?_⟩) H0 ?_
      rotate_left
      · intro W hW; clear hW; go_simp; try with_reducible rfl
      try simp only [put_list, List.set]
      refine Drawn.take 9 (some 55) (v := ?_) rfl rfl (by kernel_rfl) (by kernel_rfl) (by kernel_rfl) (by kernel_rfl) (by kernel_rfl) rfl (fun _ _ _ h => h) (Or.inl ⟨by kernel_rfl, ?_⟩) H0 ?_
      rotate_left
      · intro W hW; clear hW; go_simp; try with_reducible rfl
      try simp only [put_list, List.set]
      refine Drawn.take 10 (some 56) (v := .agg (blk .u64 25 (permN F))) rfl rfl (by kernel_rfl) (by kernel_rfl) (by kernel_rfl) (by kernel_rfl) (by kernel_rfl) rfl (fun _ _ _ h => h) (Or.inl ⟨by kernel_rfl, fun W hW => load_row_run 27 (.tmp 11) rfl (w3.heap.size) rfl 27 _ (0, 0) _ hW.rowC Tryd.underlying27 rfl (HZ.out _)⟩) H0 ?_
      try simp only [put_list, List.set]
      refine Drawn.take 11 (some 57) (v := .agg (blk .u64 25 (F))) rfl rfl (by kernel_rfl) (by kernel_rfl) (by kernel_rfl) (by kernel_rfl) (by kernel_rfl) rfl (fun _ _ _ h => h) (Or.inl ⟨by kernel_rfl, fun W hW => load_row_run 27 (.tmp 8) rfl (w1.heap.size) rfl 27 _ (0, 0) _ hW.rowA Tryd.underlying27 rfl (HZ.out _)⟩) H0 ?_
      try simp only [put_list, List.set]
      refine Drawn.only 12 (by kernel_rfl) rfl rfl (fun K hK => ?_)
      go_simp
      refine (HP.out _ (HT.out.later H0.below)).mono ?_
      rintro e w7 ⟨rfl, h7⟩
      replace H0 := H0.call h7
      refine hK _ _ (fun _ _ => H0) ?_
      clear hK K h7
      try simp only [put_list, List.set]
      refine Drawn.take 13 (some 59) (v := ?_) rfl rfl (by kernel_rfl) (by kernel_rfl) (by kernel_rfl) (by kernel_rfl) (by kernel_rfl) rfl (fun _ _ _ h => h) (Or.inl ⟨by kernel_rfl, ?_⟩) H0 ?_
      rotate_left
      · intro W hW; clear hW; go_simp; try with_reducible rfl
      try simp only [put_list, List.set]
      refine Drawn.take 14 (some 60) (v := ?_) rfl rfl (by kernel_rfl) (by kernel_rfl) (by kernel_rfl) (by kernel_rfl) (by kernel_rfl) rfl (fun _ _ _ h => h) (Or.inl ⟨by kernel_rfl, ?_⟩) H0 ?_
      rotate_left
      · intro W hW; clear hW; go_simp; try with_reducible rfl
      try simp only [put_list, List.set]
      refine Drawn.take 15 (some 6) (v := ?_) rfl rfl (by kernel_rfl) (by kernel_rfl) (by kernel_rfl) (by kernel_rfl) (by kernel_rfl) rfl (fun _ _ _ h => h) (Or.inl ⟨by kernel_rfl, ?_⟩) H0 ?_
      rotate_left
      · intro W hW; clear hW; go_simp; try with_reducible rfl
      try simp only [put_list, List.set]
      refine Drawn.done (by kernel_rfl) ?_ _
      go_wp2_with fail
      go_ret
      exact ⟨rfl, H0.below⟩
end Go.Proofs.YtienelgkdhmelaaDoor
