/- The contract of (*lanes).mix. -/
import Derived.Test.YtienelgkdhmelaaDoorKRot
import Derived.StillTailTactics
import Derived.Deep.QuietTactic
import Derived.BigQuiet
namespace Go.Proofs.YtienelgkdhmelaaDoor
open Go.RowKit

/-- A column's lanes, xored. -/
def colN (f : Nat → Nat) (x : Nat) : Nat := f x ^^^ f (x + 5) ^^^ f (x + 10) ^^^ f (x + 15) ^^^ f (x + 20)

/-- The block of a state. -/
def Lan (B : Nat) (f : Nat → Nat) (w : World) : Prop := w.heap[B]? = some (.cells (blk .u64 25 f) 34 (0, 0))
def ColsS (w : World) (f : Nat → Nat) (k : Nat) (W : World) : Prop :=
  Below w.heap.size w W ∧ W.heap[w.heap.size]? = some (.cells (blk .u64 5 fun i => if i < k then colN f i else 0) 50 (0, 0))

theorem ColsS.step {w W : World} {f : Nat → Nat} {k : Nat} (h : ColsS w f k W) (hk : k < 5) : ColsS w f (k + 1) (W.setCell ⟨w.heap.size, k, none⟩ (.int .u64 (colN f k : Nat))).drew := by
  refine ⟨(h.1.setCell (by simp) _).drew, ?_⟩
  show (W.setCell _ _).heap[_]? = _
  rw [heap_setCell_same _ _ _ _ _ _ h.2, blk_set]
  congr 2
  apply blk_congr
  intro j hj
  unfold upd
  by_cases e : j = k
  · subst e; rw [if_pos rfl, if_pos (by omega)]
  · rw [if_neg e]
    show (if j < k then colN f j else 0) = _
    by_cases e2 : j < k
    · rw [if_pos e2, if_pos (by omega)]
    · rw [if_neg e2, if_neg (by omega)]

/-- What mix xors onto a column's lanes; what it makes of the lanes. -/
def besN (f : Nat → Nat) (x : Nat) : Nat := colN f ((x + 4) % 5) ^^^ rotN (colN f ((x + 1) % 5)) 1
def mixN (f : Nat → Nat) (i : Nat) : Nat := f i ^^^ besN f (i % 5)
theorem colN_lt {f : Nat → Nat} (hf : ∀ i, f i < M64) (x : Nat) : colN f x < M64 := xor_lt (xor_lt (xor_lt (xor_lt (hf _) (hf _)) (hf _)) (hf _)) (hf _)
theorem besN_lt {f : Nat → Nat} (hf : ∀ i, f i < M64) (x : Nat) : besN f x < M64 := xor_lt (colN_lt hf _) (rotN_lt (colN_lt hf _) _)
theorem mixN_lt {f : Nat → Nat} (hf : ∀ i, f i < M64) (i : Nat) : mixN f i < M64 := xor_lt (hf i) (besN_lt hf _)
def mixF (f : Nat → Nat) (k i : Nat) : Nat := if i % 5 < k then mixN f i else f i
theorem mixF_at (f : Nat → Nat) {k i : Nat} (hi : i < 25) (h : i % 5 = k) : (blk .u64 25 (mixF f k))[i]? = some (.int .u64 (f i : Nat)) := by
  rw [blk_at _ _ hi, mixF, if_neg (by omega)]
def MixS (w : World) (B : Nat) (f : Nat → Nat) (k : Nat) (W : World) : Prop :=
  Only (· = B) w.heap.size w W ∧ Lan B (mixF f k) W ∧ W.heap[w.heap.size]? = some (.cells (blk .u64 5 (colN f)) 50 (0, 0))
theorem MixS.start {w W : World} {B : Nat} {f : Nat → Nat} (hb : B < w.heap.size) (hB : Lan B f w) (h : ColsS w f 5 W) : MixS w B f 0 W := by
  refine ⟨Only.of_below h.1, ?_, ?_⟩
  · show W.heap[B]? = _
    rw [h.1.block B hb, hB, blk_congr .u64 (g := mixF f 0) fun j _ => (if_neg (by omega)).symm]
  · rw [h.2, blk_congr .u64 (g := colN f) fun j hj => if_pos hj]
theorem mixF_step (f : Nat → Nat) {k : Nat} (hk : k < 5) {j : Nat} (hj : j < 25) :
    upd (upd (upd (upd (upd (mixF f k) k (f k ^^^ besN f k)) (k + 5) (f (k + 5) ^^^ besN f k)) (k + 10) (f (k + 10) ^^^ besN f k)) (k + 15) (f (k + 15) ^^^ besN f k)) (k + 20) (f (k + 20) ^^^ besN f k) j = mixF f (k + 1) j := by
  unfold upd mixF mixN
  have e0 : j = k ∨ j = k + 5 ∨ j = k + 10 ∨ j = k + 15 ∨ j = k + 20 ∨ j % 5 ≠ k := by omega
  rcases e0 with rfl | rfl | rfl | rfl | rfl | e0
  · rw [if_neg (by omega), if_neg (by omega), if_neg (by omega), if_neg (by omega), if_pos rfl, if_pos (by omega), show j % 5 = j by omega]
  · rw [if_neg (by omega), if_neg (by omega), if_neg (by omega), if_pos rfl, if_pos (by omega), show (k + 5) % 5 = k by omega]
  · rw [if_neg (by omega), if_neg (by omega), if_pos rfl, if_pos (by omega), show (k + 10) % 5 = k by omega]
  · rw [if_neg (by omega), if_pos rfl, if_pos (by omega), show (k + 15) % 5 = k by omega]
  · rw [if_pos rfl, if_pos (by omega), show (k + 20) % 5 = k by omega]
  · rw [if_neg (by omega), if_neg (by omega), if_neg (by omega), if_neg (by omega), if_neg (by omega)]
    by_cases e2 : j % 5 < k
    · rw [if_pos e2, if_pos (by omega)]
    · rw [if_neg e2, if_neg (by omega)]
/-- A store into a state's block. -/
theorem Lan.set {B : Nat} {f : Nat → Nat} {W : World} (h : Lan B f W) (j v : Nat) : Lan B (upd f j v) (W.setCell ⟨B, j, none⟩ (.int .u64 (v : Int))) := by
  have e := heap_setCell_same _ _ j _ _ (.int .u64 (v : Int)) h
  rw [blk_set] at e
  exact e
theorem Lan.congr {B : Nat} {f g : Nat → Nat} {W : World} (h : Lan B f W) (hfg : ∀ j, j < 25 → f j = g j) : Lan B g W := by
  unfold Lan at *
  rw [h, blk_congr .u64 hfg]
theorem Lan.setd {B : Nat} {f : Nat → Nat} {W : World} (h : Lan B f W) (j v : Nat) : Lan B (upd f j v) (W.setCell ⟨B, j, none⟩ (.int .u64 (v : Int))).drew := h.set j v
theorem heap_past {W : World} {b B j : Nat} {u : Value} (h : ¬ b = B) : (W.setCell ⟨B, j, none⟩ u).drew.heap[b]? = W.heap[b]? := heap_setCell_other _ _ _ _ h
theorem Only.setd {B n : Nat} {a W : World} (h : Only (· = B) n a W) (j : Nat) (u : Value) : Only (· = B) n a (W.setCell ⟨B, j, none⟩ u).drew := (h.setCell (.inr rfl) _).drew
theorem MixS.stepd {w W : World} {B : Nat} {f : Nat → Nat} {k : Nat} (hb : B < w.heap.size) (h : MixS w B f k W) (hk : k < 5) :
    MixS w B f (k + 1) (((((W.setCell ⟨B, k, none⟩ (.int .u64 (f k ^^^ besN f k : Nat))).drew.setCell ⟨B, k + 5, none⟩ (.int .u64 (f (k + 5) ^^^ besN f k : Nat))).drew.setCell ⟨B, k + 10, none⟩ (.int .u64 (f (k + 10) ^^^ besN f k : Nat))).drew.setCell ⟨B, k + 15, none⟩ (.int .u64 (f (k + 15) ^^^ besN f k : Nat))).drew.setCell ⟨B, k + 20, none⟩ (.int .u64 (f (k + 20) ^^^ besN f k : Nat))).drew := by
  obtain ⟨h1, h2, h3⟩ := h
  have hne : ¬ w.heap.size = B := by omega
  refine ⟨((((h1.setd _ _).setd _ _).setd _ _).setd _ _).setd _ _, ?_, ?_⟩
  · exact (((((h2.setd _ _).setd _ _).setd _ _).setd _ _).setd _ _).congr fun j hj => mixF_step f hk hj
  · rw [heap_past hne, heap_past hne, heap_past hne, heap_past hne, heap_past hne]
    exact h3
/-- The cells of a column, from the s-th on. -/
def From (B k : Nat) (g : Nat → Nat) (s : Nat) (W : World) : Prop :=
  ∀ t, s ≤ t → t < 5 → W.cell? ⟨B, k + 5 * t, none⟩ = some (.int .u64 (g t : Nat)) ∧ W.frozen? ⟨B, k + 5 * t, none⟩ = false
theorem Lan.five {B : Nat} {f : Nat → Nat} {k : Nat} {wr : World} (h : Lan B (mixF f k) wr) (hk : k < 5) (n : Nat) : From B k (fun t => f (k + 5 * t)) 0 (wr.drewN n) := by
  intro t _ ht
  have hL : (wr.drewN n).heap[B]? = some (.cells (blk .u64 25 (mixF f k)) 34 (0, 0)) := h
  exact ⟨(cell_of hL _).trans (mixF_at f (by omega) (by omega)), free_of hL _⟩
theorem From.next {B k : Nat} {g : Nat → Nat} {s : Nat} {W : World} (h : From B k g s W) (o : Nat) (ho : o = k + 5 * s) (u : Value) : From B k g (s + 1) (W.setCell ⟨B, o, none⟩ u).drew := by
  intro t h1 h2
  obtain ⟨c, z⟩ := h t (by omega) h2
  refine ⟨?_, ?_⟩
  · show (W.setCell _ _).cell? _ = _
    rw [World.cell?_setCell_other _ _ _ _ (by intro e; injection e with e1 e2; omega)]
    exact c
  · show (W.setCell _ _).frozen? _ = _
    simpa using z
/-- What a method over the state's block leaves. -/
def LanTo (B : Nat) (w : World) (g : Nat → Nat) (w' : World) : Prop := Only (· = B) w.heap.size w w' ∧ Lan B g w'
theorem MixS.end_ {w W : World} {B : Nat} {f : Nat → Nat} (h : MixS w B f 5 W) : LanTo B w (mixN f) W := by
  exact ⟨h.1, h.2.1.congr fun j _ => if_pos (Nat.mod_lt _ (by decide))⟩

set_option maxRecDepth 100000 in
set_option maxHeartbeats 8000000 in
theorem mix_c {B : Nat} {f : Nat → Nat} (hf : ∀ i, f i < M64) (w : World) (hB : Lan B f w) :
    Calls Tryd.prog 22 #[.pointer (some ⟨B, 0, none⟩)] w fun e w' => e = .returned (.tuple #[]) ∧ LanTo B w (mixN f) w' := by
  have hb := lt_of hB
  have H0 := Lib.hid (show ColsS w f 0 _ from ⟨(Below.refl w.heap.size w).alloc (Nat.le_refl _) (.cells (blk .u64 5 fun _ => 0) 50), heap_alloc_new _ _⟩)
  have hz5 : ∀ w : World, (zeroValue 50).run Tryd.prog w = .ok (.agg (blk .u64 5 fun _ => 0)) w := fun _ => by kernel_rfl
  have HL := Lib.hid hB; clear hB
  go_enter Tryd.func22, Tryd.ntmps22
  go_wp2_with fail
  go_loopw [6] (fun i wr => ∃ k : Nat, i = .int .i64 k ∧ k ≤ 5 ∧ ColsS w f k wr) (fun i _ => 5 - (intOf i).toNat)
  case atStart => exact ⟨0, rfl, by omega, H0.out⟩
  case round =>
    clear H0
    obtain ⟨k, rfl, hk, hS⟩ := hrel
    by_cases hlt : k < 5
    · have hL : wr.heap[B]? = _ := (hS.1.block B hb).trans HL.out
      have c0 := (cell_of hL k).trans (blk_at _ f (by omega))
      have c1 := (cell_of hL (k + 5)).trans (blk_at _ f (by omega))
      have c2 := (cell_of hL (k + 10)).trans (blk_at _ f (by omega))
      have c3 := (cell_of hL (k + 15)).trans (blk_at _ f (by omega))
      have c4 := (cell_of hL (k + 20)).trans (blk_at _ f (by omega))
      have d0 := (cell_of hS.2 k).trans (blk_at _ _ (by omega))
      have e0 := free_of hS.2 k
      have x1 := xor64 (hf k) (hf (k + 5))
      have x2 := xor64 (xor_lt (hf k) (hf (k + 5))) (hf (k + 10))
      have x3 := xor64 (xor_lt (xor_lt (hf k) (hf (k + 5))) (hf (k + 10))) (hf (k + 15))
      have x4 := xor64 (xor_lt (xor_lt (xor_lt (hf k) (hf (k + 5))) (hf (k + 10))) (hf (k + 15))) (hf (k + 20))
      have HE := Lib.hid (hS.step hlt)
      rw [show f k ^^^ f (k + 5) ^^^ f (k + 10) ^^^ f (k + 15) ^^^ f (k + 20) = colN f k from rfl] at x4
      rw [if_neg (Nat.lt_irrefl _)] at d0
      clear hL hS
      generalize colN f k = v4 at *
      generalize f k ^^^ f (k + 5) ^^^ f (k + 10) ^^^ f (k + 15) = v3 at *
      generalize f k ^^^ f (k + 5) ^^^ f (k + 10) = v2 at *
      generalize f k ^^^ f (k + 5) = v1 at *
      generalize f (k + 5) = a1 at *
      generalize f (k + 10) = a2 at *
      generalize f (k + 15) = a3 at *
      generalize f (k + 20) = a4 at *
      generalize f k = a0 at *
      have hlti : (k : Int) < 5 := by omega
      have b0 : (0 : Int) ≤ (k : Int) ∧ (k : Int) < 25 := by omega
      have b1 : (0 : Int) ≤ (k : Int) + 5 ∧ (k : Int) + 5 < 25 := by omega
      have b2 : (0 : Int) ≤ (k : Int) + 10 ∧ (k : Int) + 10 < 25 := by omega
      have b3 : (0 : Int) ≤ (k : Int) + 15 ∧ (k : Int) + 15 < 25 := by omega
      have b4 : (0 : Int) ≤ (k : Int) + 20 ∧ (k : Int) + 20 < 25 := by omega
      have n1 : ((k : Int) + 5).toNat = k + 5 := by omega
      have n2 : ((k : Int) + 10).toNat = k + 10 := by omega
      have n3 : ((k : Int) + 15).toNat = k + 15 := by omega
      have n4 : ((k : Int) + 20).toNat = k + 20 := by omega
      have w1 : IntKind.i64.wrap ((k : Int) + 5) = (k : Int) + 5 := IntWalk.i64_in _ (by omega)
      have w2 : IntKind.i64.wrap ((k : Int) + 10) = (k : Int) + 10 := IntWalk.i64_in _ (by omega)
      have w3 : IntKind.i64.wrap ((k : Int) + 15) = (k : Int) + 15 := IntWalk.i64_in _ (by omega)
      have w4 : IntKind.i64.wrap ((k : Int) + 20) = (k : Int) + 20 := IntWalk.i64_in _ (by omega)
      go_wp2_with fail
      go_still_tail 35, (by kernel_rfl)
      go_wp2_with fail
      go_roundw
      case rel => exact ⟨k + 1, by go_num, by omega, HE.out⟩
      case measure => simp [intOf]; omega
    · obtain rfl : k = 5 := by omega
      have H1 := Lib.hid (MixS.start hb HL.out hS)
      clear hS
      go_wp2_with fail
      rw [show ((5 : Nat) : Int) = 5 from rfl]
      go_loopw [45] (fun i wr => ∃ k : Nat, i = .int .i64 k ∧ k ≤ 5 ∧ MixS w B f k wr) (fun i _ => 5 - (intOf i).toNat)
      case atStart => exact ⟨0, rfl, by omega, H1.out⟩
      case round =>
        clear H1
        obtain ⟨k, rfl, hk, hS⟩ := hrel
        by_cases hlt : k < 5
        · have hL := hS.2.1
          have HT := Lib.hid (Lan.five hL hlt)
          have hp : (k + 4) % 5 < 5 := Nat.mod_lt _ (by decide)
          have hq : (k + 1) % 5 < 5 := Nat.mod_lt _ (by decide)
          have p1 : ((k : Int) + 5 - 1).tmod 5 = (((k + 4) % 5 : Nat) : Int) := by rw [Int.tmod_eq_emod_of_nonneg (by omega)]; omega
          have q1 : ((k : Int) + 1).tmod 5 = (((k + 1) % 5 : Nat) : Int) := by rw [Int.tmod_eq_emod_of_nonneg (by omega)]; omega
          have p2 : ((k : Int) + 4) % 5 = (((k + 4) % 5 : Nat) : Int) := by omega
          have q2 : ((k : Int) + 1) % 5 = (((k + 1) % 5 : Nat) : Int) := by omega
          have hb1 : besN f k = colN f ((k + 4) % 5) ^^^ rotN (colN f ((k + 1) % 5)) 1 := rfl
          have g0 := (cell_of hS.2.2 ((k + 4) % 5)).trans (blk_at _ _ hp)
          have g1 := (cell_of hS.2.2 ((k + 1) % 5)).trans (blk_at _ _ hq)
          have HE := Lib.hid (fun n => MixS.stepd (W := wr.drewN n) hb ⟨Only.drewN hS.1 n, hS.2⟩ hlt)
          have x0 := xor64 (colN_lt hf ((k + 4) % 5)) (rotN_lt (colN_lt hf ((k + 1) % 5)) 1)
          have y0 := xor64 (hf k) (besN_lt hf k)
          have y1 := xor64 (hf (k + 5)) (besN_lt hf k)
          have y2 := xor64 (hf (k + 10)) (besN_lt hf k)
          have y3 := xor64 (hf (k + 15)) (besN_lt hf k)
          have y4 := xor64 (hf (k + 20)) (besN_lt hf k)
          rw [← hb1] at x0
          have R := Lib.hid (fun W => rot_c (x := colN f ((k + 1) % 5)) (k := 1) (colN_lt hf _) (by decide) W)
          clear hL hS hb1
          generalize rotN (colN f ((k + 1) % 5)) 1 = r1 at *
          generalize colN f ((k + 1) % 5) = cq at *
          generalize colN f ((k + 4) % 5) = cp at *
          generalize (k + 4) % 5 = p at *
          generalize (k + 1) % 5 = q at *
          generalize f k ^^^ besN f k = z0 at *
          generalize f (k + 5) ^^^ besN f k = z1 at *
          generalize f (k + 10) ^^^ besN f k = z2 at *
          generalize f (k + 15) ^^^ besN f k = z3 at *
          generalize f (k + 20) ^^^ besN f k = z4 at *
          generalize besN f k = bs at *
          have hlti : (k : Int) < 5 := by omega
          have bp : (0 : Int) ≤ (p : Int) ∧ (p : Int) < 5 := by omega
          have bq : (0 : Int) ≤ (q : Int) ∧ (q : Int) < 5 := by omega
          have w0 : IntKind.i64.wrap ((k : Int) + 1) = (k : Int) + 1 := IntWalk.i64_in _ (by omega)
          have w1 : IntKind.i64.wrap ((k : Int) + 5) = (k : Int) + 5 := IntWalk.i64_in _ (by omega)
          have w5 : IntKind.i64.wrap ((k : Int) + 5 - 1) = (k : Int) + 5 - 1 := IntWalk.i64_in _ (by omega)
          have Y := Lib.hid (And.intro y0 (And.intro y1 (And.intro y2 (And.intro y3 y4))))
          clear y0 y1 y2 y3 y4
          go_wp2_with fail
          go_quiet ((go_at_call 25; exact calm (R.out _)))
          go_wp2_with fail
          have X0 := Lib.hid (HT.out nq)
          have HF := Lib.hid (HE.out nq)
          clear HT HE p1 q1 p2 q2 x0 g0 g1 w0 w1 w5 R bp bq hp hq
          generalize wr.drewN nq = W0 at *
          have c : W0.cell? ⟨B, k, none⟩ = some (.int .u64 (f (k) : Nat)) := (X0.out 0 (by decide) (by decide)).1
          have fz : W0.frozen? ⟨B, k, none⟩ = false := (X0.out 0 (by decide) (by decide)).2
          have y := Y.out.1
          have bd : (0 : Int) ≤ (k : Int) ∧ (k : Int) < 25 := by omega
          generalize f (k) = a0 at c y
          go_still_tail 9, (by kernel_rfl)
          go_wp2_with fail
          clear c fz y bd
          have X1 := Lib.hid (X0.out.next (k) (by omega) (.int .u64 (z0 : Nat)))
          generalize (W0.setCell ⟨B, k, none⟩ (.int .u64 (z0 : Nat))).drew = W1 at *
          clear X0 W0
          have c : W1.cell? ⟨B, k + 5, none⟩ = some (.int .u64 (f (k + 5) : Nat)) := (X1.out 1 (by decide) (by decide)).1
          have fz : W1.frozen? ⟨B, k + 5, none⟩ = false := (X1.out 1 (by decide) (by decide)).2
          have y := Y.out.2.1
          have bd : (0 : Int) ≤ (k : Int) + 5 ∧ (k : Int) + 5 < 25 := by omega
          have nn : ((k : Int) + 5).toNat = k + 5 := by omega
          have ww : IntKind.i64.wrap ((k : Int) + 5) = (k : Int) + 5 := IntWalk.i64_in _ (by omega)
          generalize f (k + 5) = a1 at c y
          go_still_tail 10, (by kernel_rfl)
          go_wp2_with fail
          clear c fz y bd nn ww
          have X2 := Lib.hid (X1.out.next (k + 5) (by omega) (.int .u64 (z1 : Nat)))
          generalize (W1.setCell ⟨B, k + 5, none⟩ (.int .u64 (z1 : Nat))).drew = W2 at *
          clear X1 W1
          have c : W2.cell? ⟨B, k + 10, none⟩ = some (.int .u64 (f (k + 10) : Nat)) := (X2.out 2 (by decide) (by decide)).1
          have fz : W2.frozen? ⟨B, k + 10, none⟩ = false := (X2.out 2 (by decide) (by decide)).2
          have y := Y.out.2.2.1
          have bd : (0 : Int) ≤ (k : Int) + 10 ∧ (k : Int) + 10 < 25 := by omega
          have nn : ((k : Int) + 10).toNat = k + 10 := by omega
          have ww : IntKind.i64.wrap ((k : Int) + 10) = (k : Int) + 10 := IntWalk.i64_in _ (by omega)
          generalize f (k + 10) = a2 at c y
          go_still_tail 10, (by kernel_rfl)
          go_wp2_with fail
          clear c fz y bd nn ww
          have X3 := Lib.hid (X2.out.next (k + 10) (by omega) (.int .u64 (z2 : Nat)))
          generalize (W2.setCell ⟨B, k + 10, none⟩ (.int .u64 (z2 : Nat))).drew = W3 at *
          clear X2 W2
          have c : W3.cell? ⟨B, k + 15, none⟩ = some (.int .u64 (f (k + 15) : Nat)) := (X3.out 3 (by decide) (by decide)).1
          have fz : W3.frozen? ⟨B, k + 15, none⟩ = false := (X3.out 3 (by decide) (by decide)).2
          have y := Y.out.2.2.2.1
          have bd : (0 : Int) ≤ (k : Int) + 15 ∧ (k : Int) + 15 < 25 := by omega
          have nn : ((k : Int) + 15).toNat = k + 15 := by omega
          have ww : IntKind.i64.wrap ((k : Int) + 15) = (k : Int) + 15 := IntWalk.i64_in _ (by omega)
          generalize f (k + 15) = a3 at c y
          go_still_tail 10, (by kernel_rfl)
          go_wp2_with fail
          clear c fz y bd nn ww
          have X4 := Lib.hid (X3.out.next (k + 15) (by omega) (.int .u64 (z3 : Nat)))
          generalize (W3.setCell ⟨B, k + 15, none⟩ (.int .u64 (z3 : Nat))).drew = W4 at *
          clear X3 W3
          have c : W4.cell? ⟨B, k + 20, none⟩ = some (.int .u64 (f (k + 20) : Nat)) := (X4.out 4 (by decide) (by decide)).1
          have fz : W4.frozen? ⟨B, k + 20, none⟩ = false := (X4.out 4 (by decide) (by decide)).2
          have y := Y.out.2.2.2.2
          have bd : (0 : Int) ≤ (k : Int) + 20 ∧ (k : Int) + 20 < 25 := by omega
          have nn : ((k : Int) + 20).toNat = k + 20 := by omega
          have ww : IntKind.i64.wrap ((k : Int) + 20) = (k : Int) + 20 := IntWalk.i64_in _ (by omega)
          generalize f (k + 20) = a4 at c y
          go_still_tail 10, (by kernel_rfl)
          go_wp2_with fail
          clear c fz y bd nn ww
          go_roundw
          case rel => exact ⟨k + 1, by go_num, by omega, HF.out⟩
          case measure => simp [intOf]; omega
        · obtain rfl : k = 5 := by omega
          have HS := Lib.hid hS; clear hS
          go_wp2_with fail
          go_end0
          exact ⟨rfl, HS.out.end_⟩
end Go.Proofs.YtienelgkdhmelaaDoor
