/- The contract of KeccakSame. -/
import Derived.Test.YtienelgkdhmelaaDoorKEql
import Derived.Test.YtienelgkdhmelaaDoorKHead
namespace Go.Proofs.YtienelgkdhmelaaDoor
open Go.RowKit

/-- The lanes behind k bytes. -/
def accN (P : Nat → Nat) (k j : Nat) : Nat := lnK (fun t => P (8 * j + t)) (min 8 (k - 8 * j))
theorem accN_lt (P : Nat → Nat) (k j : Nat) : accN P k j < M64 := lnK_lt _ _
theorem accN_zero (P : Nat → Nat) (j : Nat) : accN P 0 j = 0 := by
  unfold accN
  rw [show min 8 (0 - 8 * j) = 0 by omega]
  rfl
theorem accN_step (P : Nat → Nat) (k j : Nat) : upd (accN P k) (k / 8) (accN P k (k / 8) ||| (P k * 2 ^ (8 * (k % 8)) % M64)) j = accN P (k + 1) j := by
  unfold upd
  by_cases e : j = k / 8
  · rw [if_pos e, e]
    unfold accN
    rw [show min 8 (k - 8 * (k / 8)) = k % 8 by omega, show min 8 (k + 1 - 8 * (k / 8)) = k % 8 + 1 by omega]
    show _ = lnK _ (k % 8) ||| (P (8 * (k / 8) + k % 8) * 2 ^ (8 * (k % 8)) % M64)
    rw [show 8 * (k / 8) + k % 8 = k by omega]
  · rw [if_neg e]
    unfold accN
    congr 1
    omega
theorem accN_end (P : Nat → Nat) : Same (accN P 136) (soakF (fun _ => 0) P 17) := fun j _ => by
  unfold accN soakF
  by_cases e : j < 17
  · rw [if_pos e, Nat.zero_xor, show min 8 (136 - 8 * j) = 8 by omega]
  · rw [if_neg e, show min 8 (136 - 8 * j) = 0 by omega]
    rfl
theorem blk_perm {f g : Nat → Nat} (h : Same f g) : blk .u64 25 (permN f) = blk .u64 25 (permN g) := blk_congr _ fun j hj => h.st 24 j hj

structure S8 (w : World) (f : Nat → Nat) (W : World) : Prop where
  below : Below w.heap.size w W
  row : W.heap[w.heap.size]? = some (.cells (blk .u8 136 f) 5 (0, 0))
theorem S8.step {w W : World} {g h : Nat → Nat} {k : Nat} (s : S8 w (til g h k) W) : S8 w (til g h (k + 1)) (W.setCell ⟨w.heap.size, k, none⟩ (.int .u8 (g k : Nat))) := by
  refine ⟨s.below.setCell (by simp) _, ?_⟩
  rw [heap_setCell_same _ _ _ _ _ _ s.row, blk_set]
  congr 2
  exact blk_congr _ fun j _ => til_step _ _ _ _
structure S64 (w v : World) (b : Nat) (P : Nat → Nat) (k : Nat) (W : World) : Prop where
  below : Below w.heap.size w W
  size : w.heap.size ≤ v.heap.size
  ne : ¬ b = v.heap.size
  byt : W.heap[b]? = some (.cells (blk .u8 136 P) 5 (0, 0))
  row : W.heap[v.heap.size]? = some (.cells (blk .u64 25 (accN P k)) 27 (0, 0))
theorem S64.drew {w v W : World} {b : Nat} {P : Nat → Nat} {k : Nat} (s : S64 w v b P k W) : S64 w v b P k W.drew := ⟨s.below.drew, s.size, s.ne, s.byt, s.row⟩
theorem S64.step {w v W : World} {b : Nat} {P : Nat → Nat} {k : Nat} (s : S64 w v b P k W) : S64 w v b P (k + 1) (W.setCell ⟨v.heap.size, k / 8, none⟩ (.int .u64 (accN P k (k / 8) ||| (P k * 2 ^ (8 * (k % 8)) % M64) : Nat))) := by
  refine ⟨s.below.setCell s.size _, s.size, s.ne, (heap_setCell_other _ _ _ _ s.ne).trans s.byt, ?_⟩
  rw [heap_setCell_same _ _ _ _ _ _ s.row, blk_set]
  congr 2
  exact blk_congr _ fun j _ => accN_step _ _ _
structure SO (w : World) (x o : Nat) (X : Nat → Nat) (k : Nat) (W : World) : Prop where
  below : Below w.heap.size w W
  size : w.heap.size ≤ o
  ne : ¬ x = o
  row : W.heap[x]? = some (.cells (blk .u64 25 X) 27 (0, 0))
  sum : W.heap[o]? = some (.cells (blk .u8 32 (til (outN X) (fun _ => 0) k)) 5 (0, 0))
theorem SO.step {w W : World} {x o : Nat} {X : Nat → Nat} {k : Nat} (s : SO w x o X k W) : SO w x o X (k + 1) (W.setCell ⟨o, k, none⟩ (.int .u8 (outN X k : Nat))) := by
  refine ⟨s.below.setCell s.size _, s.size, s.ne, (heap_setCell_other _ _ _ _ s.ne).trans s.row, ?_⟩
  rw [heap_setCell_same _ _ _ _ _ _ s.sum, blk_set]
  congr 2
  exact blk_congr _ fun j _ => til_step _ _ _ _
/-- What the last region knows. -/
structure SE (w : World) (o : Nat) (g : Nat → Nat) (W : World) : Prop where
  below : Below w.heap.size w W
  sum : W.heap[o]? = some (.cells (blk .u8 32 g) 5 (0, 0))
theorem SE.drew {w W : World} {o : Nat} {g : Nat → Nat} (s : SE w o g W) : SE w o g W.drew := ⟨s.below.drew, s.sum⟩
theorem SE.call {w W W' : World} {o : Nat} {g : Nat → Nat} (s : SE w o g W) (hb : Below W.heap.size W W') : SE w o g W' := ⟨s.below.trans (hb.mono s.below.size), row_later s.sum hb⟩

set_option maxRecDepth 100000 in
set_option maxHeartbeats 4000000 in
theorem same_c {s : ByteArray} (_hs : s.size ≤ maxLen) (w : World) (hT : Walk w) :
    Calls Tryd.prog 6 #[.string s] w fun e w' => e = .returned (.bool true) ∧ Below w.heap.size w w' := by
  have hz1 : ∀ w : World, (zeroValue 27).run Tryd.prog w = .ok (.agg (blk .u64 25 fun _ => 0)) w := fun _ => by kernel_rfl
  have hmk : ∀ w : World, (Instr.makeSlice 32 (.int .i64 136) (.int .i64 136)).run Tryd.prog w = .ok (.slice (some ⟨w.heap.size, 0, none⟩) 136 136) (w.alloc (.cells (blk .u8 136 fun _ => 0) 5)) := fun _ => by kernel_rfl
  have hmk2 : ∀ w : World, (Instr.makeSlice 32 (.int .i64 32) (.int .i64 32)).run Tryd.prog w = .ok (.slice (some ⟨w.heap.size, 0, none⟩) 32 32) (w.alloc (.cells (blk .u8 32 fun _ => 0) 5)) := fun _ => by kernel_rfl
  have HZ := Lib.hid (fun g => show (Tryd.prog.info? 27).map (·.size) = some (blk .u64 25 g).size by rw [blk_size]; kernel_rfl)
  have HO := Lib.hid (blk_one .u64 25)
  have HT := Lib.hid hT; clear hT
  go_enter Tryd.func6, Tryd.ntmps6
  go_wp2_with (go_at_call 8; refine (head_c _ HT.out).mono ?_)
  rintro e w1 ⟨rfl, h1⟩
  have H1 := Lib.hid h1; clear h1
  have H0 := Lib.hid (show S8 w1 (til (fun _ => 0) (fun _ => 0) 0) (w1.alloc (.cells (blk .u8 136 fun _ => 0) 5)) from ⟨(Below.refl _ _).alloc (by omega) _, by rw [heap_last _ rfl, til_zero]⟩)
  go_wp2_with fail
  have ht : (s.extract 0 (min (s.size : Int) 130).toNat).size ≤ 130 := by rw [ByteArray.size_extract]; omega
  generalize s.extract 0 (min (s.size : Int) 130).toNat = t at *
  have H2 := Lib.hid (show S8 w1 (til (byteAt t) (fun _ => 0) 0) (w1.alloc (.cells (blk .u8 136 fun _ => 0) 5)) from ⟨H0.out.below, by rw [heap_last _ rfl, til_zero]⟩)
  have HX := Lib.hid (fun i j hj e W => index_i64 t i j hj e W)
  go_loopw [5] (fun i wr => ∃ k : Nat, i = .int .i64 k ∧ k ≤ t.size ∧ S8 w1 (til (byteAt t) (fun _ => 0) k) wr) (fun i _ => t.size - (intOf i).toNat)
  case atStart => exact ⟨0, rfl, by omega, H2.out⟩
  case round =>
    clear H0 H2
    obtain ⟨k, rfl, hk, hS⟩ := hrel
    by_cases hlt : k < t.size
    · have hx := fun W => HX.out (k : Int) k hlt rfl W
      have d0 := (cell_of hS.row k).trans (blk_at _ _ (by omega))
      rw [til_at] at d0
      have e0 := free_of hS.row k
      have HE := Lib.hid hS.step
      have hlti : (k : Int) < (t.size : Int) := by omega
      have bk : (0 : Int) ≤ (k : Int) ∧ (k : Int) < 136 := by omega
      clear hS
      generalize byteAt t k = y at *
      go_wp2_with fail
      go_roundw
      case rel => exact ⟨k + 1, by go_num, by omega, HE.out⟩
      case measure => simp [intOf]; omega
    · obtain rfl : k = t.size := by omega
      clear hlt hk
      obtain ⟨v, rfl⟩ : ∃ v, v = wr := ⟨_, rfl⟩
      have hp : til (byteAt t) (fun _ => 0) t.size = padA t := rfl
      rw [hp] at hS
      have hp1 : upd (padA t) t.size 1 = padB t := by
        unfold padB
        rw [show padA t t.size = 0 from if_neg (by omega)]
        rfl
      have d0 := (cell_of hS.row t.size).trans (blk_at _ _ (by omega))
      have e0 := free_of hS.row t.size
      have hw2 : (v.setCell ⟨w1.heap.size, t.size, none⟩ (.int .u8 1)).heap[w1.heap.size]? = some (.cells (blk .u8 136 (padB t)) 5 (0, 0)) := by
        have h := (heap_setCell_same _ _ t.size _ _ (.int .u8 (1 : Nat)) hS.row)
        rw [blk_set, hp1] at h
        exact h
      have hbb : ∀ j, padB t j < 256 := fun j => by
        rw [← hp1]
        unfold upd
        split
        · omega
        · unfold padA
          split
          · exact byteAt_lt t j
          · omega
      have d1 := (cell_of hw2 135).trans (blk_at _ _ (by omega))
      have e1 := free_of hw2 135
      have x1 := u8_xor (hbb 135) (y := 128) (by omega)
      have hw3 := (heap_setCell_same _ _ 135 _ _ (.int .u8 (padB t 135 ^^^ 128 : Nat)) hw2)
      rw [blk_set, blk_congr .u8 (g := padN (byteAt t) t.size) fun j hj => padB_end t hj] at hw3
      have H3 := Lib.hid (show S64 w v w1.heap.size (padN (byteAt t) t.size) 0 (((v.setCell ⟨w1.heap.size, t.size, none⟩ (.int .u8 1)).setCell ⟨w1.heap.size, 135, none⟩ (.int .u8 (padB t 135 ^^^ 128 : Nat))).alloc (.cells (blk .u64 25 fun _ => 0) 27)) from by
        have hsz := lt_of hS.row
        refine ⟨?_, (H1.out.trans (hS.below.mono H1.out.size)).size, by omega, ?_, ?_⟩
        · exact (((H1.out.trans (hS.below.mono H1.out.size)).setCell (p := ⟨w1.heap.size, t.size, none⟩) H1.out.size _).setCell (p := ⟨w1.heap.size, 135, none⟩) H1.out.size _).alloc (by simpa [World.setCell] using (H1.out.trans (hS.below.mono H1.out.size)).size) _
        · rw [heap_down _ (by simpa [World.setCell] using hsz)]
          exact hw3
        · rw [heap_last _ (by simp [World.setCell]), blk_congr .u64 (g := accN (padN (byteAt t) t.size) 0) fun j _ => (accN_zero _ j).symm])
      have bt : (0 : Int) ≤ (t.size : Int) ∧ (t.size : Int) < 136 := by omega
      have hP := padN_lt (byteAt_lt t) t.size
      have hend := endN_short (s := byteAt t) (n := t.size) (by omega)
      have HS := Lib.hid (show sumN t = txt 32 (outN (permN (accN (padN (byteAt t) t.size) 136))) by
        unfold sumN
        rw [hend]
        refine txt_congr fun j hj => ?_
        unfold outN
        show _ = stN _ 24 _ / _ % _
        rw [(accN_end _).st 24 _ (by omega)]
        rfl)
      have x2 : Go.bits .xor .u8 (padB t 135 : Int) 128 = (padB t 135 ^^^ 128 : Nat) := x1
      clear hS hp hp1 hw2 hw3 hbb hend x1
      generalize padN (byteAt t) t.size = P at *
      generalize padB t 135 ^^^ 128 = z1 at *
      generalize padB t 135 = z0 at *
      generalize padA t t.size = z2 at *
      go_wp2_with fail
      go_loopw [7] (fun i wr => ∃ k : Nat, i = .int .i64 k ∧ k ≤ 136 ∧ S64 w v w1.heap.size P k wr) (fun i _ => 136 - (intOf i).toNat)
      case atStart => exact ⟨0, rfl, by omega, H3.out⟩
      case round =>
        clear H3 d0 e0 d1 e1 x2 bt
        obtain ⟨k, rfl, hk, hS⟩ := hrel
        by_cases hlt : k < 136
        · have hlti : (k : Int) < 136 := by omega
          have c0 := (cell_of hS.row (k / 8)).trans (blk_at _ _ (by omega))
          have e0 := free_of hS.row (k / 8)
          have c1 := (cell_of hS.byt k).trans (blk_at _ _ hlt)
          have HE := Lib.hid hS.step.drew
          have q1 : (k : Int).tdiv 8 = ((k / 8 : Nat) : Int) := by rw [Int.tdiv_eq_ediv_of_nonneg (by omega)]; omega
          have q2 : (k : Int) / 8 = ((k / 8 : Nat) : Int) := by omega
          have r1 : (k : Int).tmod 8 = ((k % 8 : Nat) : Int) := by rw [Int.tmod_eq_emod_of_nonneg (by omega)]; omega
          have r2 : (k : Int) % 8 = ((k % 8 : Nat) : Int) := by omega
          have hq : k / 8 < 17 := by omega
          have hr : k % 8 < 8 := by omega
          have x0 := or64 (accN_lt P k (k / 8)) (show P k * 2 ^ (8 * (k % 8)) % M64 < M64 from Nat.mod_lt _ (by decide))
          have x1 := wrap_mul_nat (P k) (8 * (k % 8))
          have hy := hP k
          clear hS
          generalize accN P k (k / 8) ||| (P k * 2 ^ (8 * (k % 8)) % M64) = z at *
          generalize P k * 2 ^ (8 * (k % 8)) % M64 = y at *
          generalize accN P k (k / 8) = a0 at *
          generalize P k = b0 at *
          generalize k / 8 = q at *
          generalize k % 8 = r at *
          have bq : (0 : Int) ≤ (q : Int) ∧ (q : Int) < 25 := by omega
          have bk : (0 : Int) ≤ (k : Int) ∧ (k : Int) < 136 := by omega
          have hn : (8 * (r : Int)).toNat = 8 * r := by omega
          have hn2 : IntKind.i64.wrap (8 * (r : Int)) = 8 * (r : Int) := IntWalk.i64_in _ (by omega)
          have hn3 : IntKind.i64.wrap (q : Int) = (q : Int) := IntWalk.i64_in _ (by omega)
          go_wp2_with fail
          go_still_tail 17, (by kernel_rfl)
          go_wp2_with fail
          go_roundw
          case rel => exact ⟨k + 1, by go_num, by omega, HE.out⟩
          case measure => simp [intOf]; omega
        · obtain rfl : k = 136 := by omega
          have HL := Lib.hid hS.row
          have HB := Lib.hid hS.below
          have HP := Lib.hid (fun W h => perm_c (accN_lt P 136) W h)
          have hXl := permN_lt (accN_lt P 136)
          clear hS hP hlt hk
          generalize hX : permN (accN P 136) = X at *
          clear hX
          generalize accN P 136 = Y at *
          go_wp2_with (first | (refine wpList_load_row rfl 27 (.tmp 6) rfl v.heap.size rfl 27 (blk .u64 25 Y) (0, 0) _ HL.out Tryd.underlying27 rfl (HZ.out _) ?_) | (go_at_call 11; refine (HP.out _ (HT.out.later HB.out)).mono ?_))
          rintro e w3 ⟨rfl, h3⟩
          have HB3 := Lib.hid (HB.out.trans (h3.mono HB.out.size))
          clear h3 HB HP HL
          have HM := Lib.hid (heap_last (w := w3) (.cells (blk .u64 25 fun _ => 0) 27) rfl)
          have hne : w3.heap.size < ((((w3).alloc (.cells (blk .u64 25 fun _ => 0) 27)).setRow (w3).heap.size (blk .u64 25 (X)))).heap.size := by simp [World.setRow]
          have H4 := Lib.hid (show SO w w3.heap.size (w3.heap.size + 1) X 0 (((((w3).alloc (.cells (blk .u64 25 fun _ => 0) 27)).setRow (w3).heap.size (blk .u64 25 (X)))).alloc (.cells (blk .u8 32 fun _ => 0) 5)) from
            ⟨(Below.new HB3.out HB3.out.size (.cells (blk .u64 25 fun _ => 0) 27) (blk .u64 25 X)).alloc (Nat.le_trans HB3.out.size (Nat.le_of_lt hne)) _, Nat.le_succ_of_le HB3.out.size, by omega, by rw [heap_down _ hne]; exact row_new w3 (blk .u64 25 fun _ => 0) (blk .u64 25 X) 27, by rw [heap_last _ (by simp [World.setRow]), til_zero]⟩)
          clear hne
          go_wp2_with (first | (refine wpList_store_row rfl 27 (.tmp 8) (.tmp 64) rfl w3.heap.size (blk .u64 25 X) rfl rfl 27 (blk .u64 25 fun _ => 0) HM.out (HZ.out _) (by rw [blk_size, blk_size]) (HO.out _) ?_))
          go_loopw [10] (fun i wr => ∃ k : Nat, i = .int .i64 k ∧ k ≤ 32 ∧ SO w w3.heap.size (w3.heap.size + 1) X k wr) (fun i _ => 32 - (intOf i).toNat)
          case atStart => exact ⟨0, rfl, by omega, H4.out⟩
          case round =>
            clear H4 HM HB3
            obtain ⟨k, rfl, hk, hS⟩ := hrel
            by_cases hlt : k < 32
            · have hlti : (k : Int) < 32 := by omega
              have c0 := (cell_of hS.row (k / 8)).trans (blk_at _ _ (by omega))
              have d0 := (cell_of hS.sum k).trans (blk_at _ _ (by omega))
              rw [til_at] at d0
              have e0 := free_of hS.sum k
              have HE := Lib.hid hS.step
              have q1 : (k : Int).tdiv 8 = ((k / 8 : Nat) : Int) := by rw [Int.tdiv_eq_ediv_of_nonneg (by omega)]; omega
              have q2 : (k : Int) / 8 = ((k / 8 : Nat) : Int) := by omega
              have r1 : (k : Int).tmod 8 = ((k % 8 : Nat) : Int) := by rw [Int.tmod_eq_emod_of_nonneg (by omega)]; omega
              have r2 : (k : Int) % 8 = ((k % 8 : Nat) : Int) := by omega
              have hq : k / 8 < 4 := by omega
              have hr : k % 8 < 8 := by omega
              have ho : IntKind.u8.wrap ((X (k / 8) : Int) / 2 ^ (8 * (k % 8))) = (outN X k : Nat) := by
                rw [IntKind.wrap_u8]; unfold outN; simp
              clear hS
              generalize outN X k = o at *
              generalize X (k / 8) = x at *
              generalize k / 8 = q at *
              generalize k % 8 = r at *
              have bq : (0 : Int) ≤ (q : Int) ∧ (q : Int) < 25 := by omega
              have bk : (0 : Int) ≤ (k : Int) ∧ (k : Int) < 32 := by omega
              have hn : (8 * (r : Int)).toNat = 8 * r := by omega
              have hn2 : IntKind.i64.wrap (8 * (r : Int)) = 8 * (r : Int) := IntWalk.i64_in _ (by omega)
              have hn3 : IntKind.i64.wrap (q : Int) = (q : Int) := IntWalk.i64_in _ (by omega)
              go_wp2_with fail
              go_roundw
              case rel => exact ⟨k + 1, by go_num, by omega, HE.out⟩
              case measure => simp [intOf]; omega
            · obtain rfl : k = 32 := by omega
              have H5 := Lib.hid (show SE w (w3.heap.size + 1) (outN X) wr.drew from SE.drew ⟨hS.below, by rw [hS.sum, blk_congr .u8 (g := outN X) fun j hj => til_lt hj]⟩)
              have HC := Lib.hid (fun W h => sum_c t W h)
              have HV := Lib.hid (fun W (h : SE w (w3.heap.size + 1) (outN X) W) => conv_blk W (w3.heap.size + 1) 32 32 (outN X) (outN_lt X) 5 h.sum)
              rw [HS.out] at HC
              clear hS hlt hk HS
              generalize txt 32 (outN X) = u at *
              go_wp2_with fail
              have H0 := H5.out
              clear H5
              refine Drawn.start (fun W => SE w (w3.heap.size + 1) (outN X) W) (fun _ => false) (by kernel_rfl) ?_
              refine Drawn.take 0 (some 82) (v := ?_) rfl rfl (by kernel_rfl) (by kernel_rfl) (by kernel_rfl) (by kernel_rfl) (by kernel_rfl) rfl (fun _ _ _ h => h) (Or.inl ⟨by kernel_rfl, ?_⟩) H0 ?_
              rotate_left
              · intro W hW; clear hW; go_simp; try with_reducible rfl
              try simp only [put_list, List.set]
              refine Drawn.take 1 (some 83) (v := ?_) rfl rfl (by kernel_rfl) (by kernel_rfl) (by kernel_rfl) (by kernel_rfl) (by kernel_rfl) rfl (fun _ _ _ h => h) (Or.inl ⟨by kernel_rfl, ?_⟩) H0 ?_
              rotate_left
              · intro W hW; clear hW; go_simp; try with_reducible rfl
              try simp only [put_list, List.set]
              refine Drawn.take 2 (some 84) (v := ?_) rfl rfl (by kernel_rfl) (by kernel_rfl) (by kernel_rfl) (by kernel_rfl) (by kernel_rfl) rfl (fun _ _ _ h => h) (Or.inl ⟨by kernel_rfl, ?_⟩) H0 ?_
              rotate_left
              · intro W hW; clear hW; go_simp; try with_reducible rfl
              try simp only [put_list, List.set]
              refine Drawn.take 4 (some 86) (v := ?_) rfl rfl (by kernel_rfl) (by kernel_rfl) (by kernel_rfl) (by kernel_rfl) (by kernel_rfl) rfl (fun _ _ _ h => h) (Or.inl ⟨by kernel_rfl, ?_⟩) H0 ?_
              rotate_left
              · intro W hW; clear hW; go_simp; try with_reducible rfl
              try simp only [put_list, List.set]
              refine Drawn.take 5 (some 87) (v := ?_) rfl rfl (by kernel_rfl) (by kernel_rfl) (by kernel_rfl) (by kernel_rfl) (by kernel_rfl) rfl (fun _ _ _ h => h) (Or.inl ⟨by kernel_rfl, ?_⟩) H0 ?_
              rotate_left
              · intro W hW; have hcv := HV.out W hW; clear hW; go_simp; try with_reducible rfl
              try simp only [put_list, List.set]
              refine Drawn.only 3 (by kernel_rfl) rfl rfl (fun K hK => ?_)
              go_simp
              refine (HC.out _ (HT.out.later H0.below)).mono ?_
              rintro e w9 ⟨rfl, h9⟩
              replace H0 := H0.call h9
              refine hK _ _ (fun _ _ => H0) ?_
              clear hK K h9
              try simp only [put_list, List.set]
              refine Drawn.take 6 (some 88) (v := ?_) rfl rfl (by kernel_rfl) (by kernel_rfl) (by kernel_rfl) (by kernel_rfl) (by kernel_rfl) rfl (fun _ _ _ h => h) (Or.inl ⟨by kernel_rfl, ?_⟩) H0 ?_
              rotate_left
              · intro W hW; clear hW; go_simp; try with_reducible rfl
              try simp only [put_list, List.set]
              refine Drawn.take 7 (some 89) (v := ?_) rfl rfl (by kernel_rfl) (by kernel_rfl) (by kernel_rfl) (by kernel_rfl) (by kernel_rfl) rfl (fun _ _ _ h => h) (Or.inl ⟨by kernel_rfl, ?_⟩) H0 ?_
              rotate_left
              · intro W hW; clear hW; go_simp; try with_reducible rfl
              try simp only [put_list, List.set]
              refine Drawn.take 8 (some 90) (v := ?_) rfl rfl (by kernel_rfl) (by kernel_rfl) (by kernel_rfl) (by kernel_rfl) (by kernel_rfl) rfl (fun _ _ _ h => h) (Or.inl ⟨by kernel_rfl, ?_⟩) H0 ?_
              rotate_left
              · intro W hW; clear hW; go_simp; try with_reducible rfl
              try simp only [put_list, List.set]
              refine Drawn.take 9 (some 91) (v := ?_) rfl rfl (by kernel_rfl) (by kernel_rfl) (by kernel_rfl) (by kernel_rfl) (by kernel_rfl) rfl (fun _ _ _ h => h) (Or.inl ⟨by kernel_rfl, ?_⟩) H0 ?_
              rotate_left
              · intro W hW; clear hW; go_simp; try with_reducible rfl
              try simp only [put_list, List.set]
              refine Drawn.take 11 (some 93) (v := ?_) rfl rfl (by kernel_rfl) (by kernel_rfl) (by kernel_rfl) (by kernel_rfl) (by kernel_rfl) rfl (fun _ _ _ h => h) (Or.inl ⟨by kernel_rfl, ?_⟩) H0 ?_
              rotate_left
              · intro W hW; clear hW; go_simp; try with_reducible rfl
              try simp only [put_list, List.set]
              refine Drawn.only 10 (by kernel_rfl) rfl rfl (fun K hK => ?_)
              go_simp
              refine (HC.out _ (HT.out.later H0.below)).mono ?_
              rintro e w9 ⟨rfl, h9⟩
              replace H0 := H0.call h9
              refine hK _ _ (fun _ _ => H0) ?_
              clear hK K h9
              try simp only [put_list, List.set]
              refine Drawn.only 12 (by kernel_rfl) rfl rfl (fun K hK => ?_)
              go_simp
              refine (HC.out _ (HT.out.later H0.below)).mono ?_
              rintro e w9 ⟨rfl, h9⟩
              replace H0 := H0.call h9
              refine hK _ _ (fun _ _ => H0) ?_
              clear hK K h9
              try simp only [put_list, List.set]
              refine Drawn.take 13 (some 95) (v := ?_) rfl rfl (by kernel_rfl) (by kernel_rfl) (by kernel_rfl) (by kernel_rfl) (by kernel_rfl) rfl (fun _ _ _ h => h) (Or.inl ⟨by kernel_rfl, ?_⟩) H0 ?_
              rotate_left
              · intro W hW; clear hW; go_simp; try with_reducible rfl
              try simp only [put_list, List.set]
              refine Drawn.take 14 (some 96) (v := ?_) rfl rfl (by kernel_rfl) (by kernel_rfl) (by kernel_rfl) (by kernel_rfl) (by kernel_rfl) rfl (fun _ _ _ h => h) (Or.inl ⟨by kernel_rfl, ?_⟩) H0 ?_
              rotate_left
              · intro W hW; clear hW; go_simp; try with_reducible rfl
              try simp only [put_list, List.set]
              refine Drawn.take 15 (some 2) (v := ?_) rfl rfl (by kernel_rfl) (by kernel_rfl) (by kernel_rfl) (by kernel_rfl) (by kernel_rfl) rfl (fun _ _ _ h => h) (Or.inl ⟨by kernel_rfl, ?_⟩) H0 ?_
              rotate_left
              · intro W hW; clear hW; go_simp; try with_reducible rfl
              try simp only [put_list, List.set]
              refine Drawn.done (by kernel_rfl) ?_ _
              go_wp2_with fail
              go_ret
              exact ⟨rfl, H0.below⟩
end Go.Proofs.YtienelgkdhmelaaDoor
