/- The contracts of word.plus, word.minus, over word.up. -/
import Derived.Test.YthbfhfgmanafpaaWordUp
import Derived.Shelf.Spec.BitsCarry
import Derived.BigQuiet
namespace Go.Proofs.Ythbfhfgmanafpaa
open Go.RowKit

theorem add64_run (x y c : Nat) (hc : c ≤ 1) (w : World) :
    (callFunc 76 #[.int .u64 x, .int .u64 y, .int .u64 c]).run Try.prog w =
      .ok (.value (.tuple #[.int .u64 (((x + y + c) % M64 : Nat) : Int), .int .u64 (((x + y + c) / M64 : Nat) : Int)])) w := by
  rw [run_callFunc_extern Try.func76 (by kernel_rfl) (by kernel_rfl) (by kernel_rfl) (e := add64Entry) (by kernel_rfl), run_add64 x y c (by omega) (by omega) (by omega) (by omega)]
  simp only [Result.andThen, M64]
  congr 5 <;> omega

theorem sub64_run (x y b : Nat) (hb : b ≤ 1) (w : World) :
    (callFunc 79 #[.int .u64 x, .int .u64 y, .int .u64 b]).run Try.prog w =
      .ok (.value (.tuple #[.int .u64 (((x + M64 - y - b) % M64 : Nat) : Int), .int .u64 ((if x < y + b then 1 else 0 : Nat) : Int)])) w := by
  rw [run_callFunc_extern Try.func79 (by kernel_rfl) (by kernel_rfl) (by kernel_rfl) (e := sub64Entry) (by kernel_rfl), run_sub64 x y b hb]
  rfl

theorem four_at (a b c d k : Nat) (hk : k < 4) : (four a b c d)[k]? = some (.int .u64 (nth a b c d k : Nat)) := by
  match k, hk with
  | 0, _ | 1, _ | 2, _ | 3, _ => rfl


set_option maxRecDepth 100000 in
set_option maxHeartbeats 400000 in
theorem plus1_any (k : Nat) (hk : k < 4) (bx by' bc x0 x1 x2 x3 y0 y1 y2 y3 c : Nat) (w : World)
    (hx : w.heap[bx]? = some (.cells (four x0 x1 x2 x3) 45 (0, 0))) (hy : w.heap[by']? = some (.cells (four y0 y1 y2 y3) 45 (0, 0)))
    (hc : w.heap[bc]? = some (.cells #[.int .u64 c] 22 (0, 0))) (hc1 : c ≤ 1) :
    Calls Try.prog 75 #[.int .i64 k, .pointer (some ⟨bx, 0, none⟩), .pointer (some ⟨by', 0, none⟩), .pointer (some ⟨bc, 0, none⟩)] w fun e w' =>
      e = .returned (.int .u64 ((nth x0 x1 x2 x3 k + nth y0 y1 y2 y3 k + c) % M64 : Nat)) ∧ w' = (w.setCell ⟨bc, 0, none⟩ (.int .u64 ((nth x0 x1 x2 x3 k + nth y0 y1 y2 y3 k + c) / M64 : Nat))).drew := by
  have cx := (cell_of hx k).trans (four_at _ _ _ _ k hk)
  have cy := (cell_of hy k).trans (four_at _ _ _ _ k hk)
  have cc := cell_of hc 0
  have fc := free_of hc 0
  simp at cc
  clear hx hy hc
  generalize nth x0 x1 x2 x3 k = x at *
  generalize nth y0 y1 y2 y3 k = y at *
  have hadd := add64_run x y c hc1
  generalize (x + y + c) % M64 = s at *
  generalize (x + y + c) / M64 = t at *
  go_enter Try.func75, Try.ntmps75
  go_wp2_with fail
  go_region
  all_goals (go_wp2; go_ret; exact ⟨rfl, rfl⟩)

set_option maxRecDepth 100000 in
set_option maxHeartbeats 400000 in
theorem minus1_any (k : Nat) (hk : k < 4) (bx by' bc x0 x1 x2 x3 y0 y1 y2 y3 c : Nat) (w : World)
    (hx : w.heap[bx]? = some (.cells (four x0 x1 x2 x3) 45 (0, 0))) (hy : w.heap[by']? = some (.cells (four y0 y1 y2 y3) 45 (0, 0)))
    (hc : w.heap[bc]? = some (.cells #[.int .u64 c] 22 (0, 0))) (hc1 : c ≤ 1) :
    Calls Try.prog 78 #[.int .i64 k, .pointer (some ⟨bx, 0, none⟩), .pointer (some ⟨by', 0, none⟩), .pointer (some ⟨bc, 0, none⟩)] w fun e w' =>
      e = .returned (.int .u64 ((nth x0 x1 x2 x3 k + M64 - nth y0 y1 y2 y3 k - c) % M64 : Nat)) ∧ w' = (w.setCell ⟨bc, 0, none⟩ (.int .u64 ((if nth x0 x1 x2 x3 k < nth y0 y1 y2 y3 k + c then 1 else 0 : Nat) : Int))).drew := by
  have cx := (cell_of hx k).trans (four_at _ _ _ _ k hk)
  have cy := (cell_of hy k).trans (four_at _ _ _ _ k hk)
  have cc := cell_of hc 0
  have fc := free_of hc 0
  simp at cc
  clear hx hy hc
  generalize nth x0 x1 x2 x3 k = x at *
  generalize nth y0 y1 y2 y3 k = y at *
  have hadd := sub64_run x y c hc1
  generalize (x + M64 - y - c) % M64 = s at *
  generalize (if x < y + c then 1 else 0 : Nat) = t at *
  go_enter Try.func78, Try.ntmps78
  go_wp2_with fail
  go_region
  all_goals (go_wp2; go_ret; exact ⟨rfl, rfl⟩)

/-- The state of a closure that carries: its digits so far, what it carries, the two numbers' blocks. -/
def CarryS (D C : Nat → Nat) (bx by' bc : Nat) (X Y : Array Value) (k : Nat) (ls : List Nat) (w : World) : Prop :=
  ls = (List.range k).map D ∧ w.heap[bc]? = some (.cells #[.int .u64 (C k : Nat)] 22 (0, 0)) ∧
    w.heap[bx]? = some (.cells X 45 (0, 0)) ∧ w.heap[by']? = some (.cells Y 45 (0, 0))

theorem CarryS.stable {D C : Nat → Nat} {bx by' bc B : Nat} {X Y : Array Value} (h1 : bx < B) (h2 : by' < B) (h3 : bc < B) :
    ∀ k ls w1 w2, Below B w1 w2 → CarryS D C bx by' bc X Y k ls w1 → CarryS D C bx by' bc X Y k ls w2 := by
  rintro k ls w1 w2 hb ⟨a, b, c, d⟩
  exact ⟨a, (hb.block _ h3).trans b, (hb.block _ h1).trans c, (hb.block _ h2).trans d⟩

theorem CarryS.step {D C : Nat → Nat} {bx by' bc : Nat} {X Y : Array Value} (h1 : bx ≠ bc) (h2 : by' ≠ bc) {k : Nat} {ls : List Nat} {w : World}
    (h : CarryS D C bx by' bc X Y k ls w) : CarryS D C bx by' bc X Y (k + 1) (ls ++ [D k]) (w.setCell ⟨bc, 0, none⟩ (.int .u64 (C (k + 1) : Nat))).drew := by
  obtain ⟨a, b, c, d⟩ := h
  refine ⟨by rw [a, List.range_succ]; simp, ?_, ?_, ?_⟩
  · exact one_setCell b
  · exact (heap_setCell_other _ _ _ _ (by simpa using h1)).trans c
  · exact (heap_setCell_other _ _ _ _ (by simpa using h2)).trans d

theorem CarryS.only {bc : Nat} {w : World} (v : Value) : Only (fun k => k = bc) w.heap.size w (w.setCell ⟨bc, 0, none⟩ v).drew :=
  ((Only.refl (fun k => k = bc) _ _).setCell (p := ⟨bc, 0, none⟩) (.inr rfl) _).drew


theorem four_list (D : Nat → Nat) (r0 r1 r2 r3 : Nat) (h : [r0, r1, r2, r3] = (List.range 4).map D) : r0 = D 0 ∧ r1 = D 1 ∧ r2 = D 2 ∧ r3 = D 3 := by
  simpa [List.range, List.range.loop] using h

/-- 'up' over plus's closure, in whatever world. -/
theorem plus_up (x0 x1 x2 x3 y0 y1 y2 y3 : Nat) (hx : ∀ k, nth x0 x1 x2 x3 k < M64) (hy : ∀ k, nth y0 y1 y2 y3 k < M64) (bx by' bc : Nat) (w : World)
    (h1 : w.heap[bx]? = some (.cells (four x0 x1 x2 x3) 45 (0, 0))) (h2 : w.heap[by']? = some (.cells (four y0 y1 y2 y3) 45 (0, 0)))
    (h3 : w.heap[bc]? = some (.cells #[.int .u64 0] 22 (0, 0))) (n1 : bx ≠ bc) (n2 : by' ≠ bc) :
    Calls Try.prog 74 #[.func (.func 75) #[] #[.pointer (some ⟨bx, 0, none⟩), .pointer (some ⟨by', 0, none⟩), .pointer (some ⟨bc, 0, none⟩)]] w fun e w' =>
      e = .returned (.agg (four (addD (nth x0 x1 x2 x3) (nth y0 y1 y2 y3) 0) (addD (nth x0 x1 x2 x3) (nth y0 y1 y2 y3) 1) (addD (nth x0 x1 x2 x3) (nth y0 y1 y2 y3) 2) (addD (nth x0 x1 x2 x3) (nth y0 y1 y2 y3) 3))) ∧
      w'.heap[bc]? = some (.cells #[.int .u64 (addC (nth x0 x1 x2 x3) (nth y0 y1 y2 y3) 4 : Nat)] 22 (0, 0)) ∧ Only (fun k => k = bc) w.heap.size w w' := by
  refine (up_any 75 _ (fun k => k = bc) (CarryS (addD (nth x0 x1 x2 x3) (nth y0 y1 y2 y3)) (addC (nth x0 x1 x2 x3) (nth y0 y1 y2 y3)) bx by' bc (four x0 x1 x2 x3) (four y0 y1 y2 y3)) w
    (fun k hk => hk ▸ lt_of h3) (fun i w => by kernel_rfl) (CarryS.stable (lt_of h1) (lt_of h2) (lt_of h3)) ⟨rfl, h3, h1, h2⟩ ?_).mono ?_
  · rintro k ls wr hk _ _ hs
    refine (plus1_any k hk bx by' bc x0 x1 x2 x3 y0 y1 y2 y3 _ wr hs.2.2.1 hs.2.2.2 hs.2.1 (addC_le hx hy k)).mono ?_
    rintro e w' ⟨rfl, rfl⟩
    exact ⟨_, rfl, hs.step n1 n2, CarryS.only _⟩
  · rintro e w' ⟨r0, r1, r2, r3, rfl, hs, ho⟩
    obtain ⟨rfl, rfl, rfl, rfl⟩ := four_list _ _ _ _ _ hs.1
    exact ⟨rfl, hs.2.1, ho⟩

set_option maxRecDepth 100000 in
set_option maxHeartbeats 400000 in
theorem plus_any (x0 x1 x2 x3 y0 y1 y2 y3 : Nat) (hx : ∀ k, nth x0 x1 x2 x3 k < M64) (hy : ∀ k, nth y0 y1 y2 y3 k < M64) (w : World) :
    Calls Try.prog 58 #[.agg (four x0 x1 x2 x3), .agg (four y0 y1 y2 y3)] w fun e w' =>
      e = .returned (.tuple #[.agg (four (addD (nth x0 x1 x2 x3) (nth y0 y1 y2 y3) 0) (addD (nth x0 x1 x2 x3) (nth y0 y1 y2 y3) 1) (addD (nth x0 x1 x2 x3) (nth y0 y1 y2 y3) 2) (addD (nth x0 x1 x2 x3) (nth y0 y1 y2 y3) 3)),
        .int .u64 (addC (nth x0 x1 x2 x3) (nth y0 y1 y2 y3) 4 : Nat)]) ∧ Below w.heap.size w w' := by
  have HX := Lib.hid hx; have HY := Lib.hid hy; clear hx hy
  unfold four
  go_enter Try.func58, Try.ntmps58
  go_wp2_with fail
  refine (plus_up x0 x1 x2 x3 y0 y1 y2 y3 HX.out HY.out _ _ _ _ (by simp only [heap_alloc_get, alloc_size, Nat.add_assoc, Nat.reduceAdd]; simp [four]) (by simp only [heap_alloc_get, alloc_size, Nat.add_assoc, Nat.reduceAdd]; simp [four]) (by simp only [heap_alloc_get, alloc_size, Nat.add_assoc, Nat.reduceAdd]; simp) (by omega) (by omega)).mono ?_
  rintro e w1 ⟨rfl, hc, hO⟩
  have hr := hO.block (w.heap.size + 1 + 1) (by simp) (by simp)
  simp only [heap_alloc_get, alloc_size] at hr; simp at hr
  have hz := hO.size
  simp at hz
  have hz3 : w.heap.size + 1 + 1 + 1 < w1.heap.size := by omega
  have hz2 : w.heap.size + 1 + 1 < w1.heap.size := by omega
  have hB : Below w.heap.size w w1 := (((((Below.refl _ _).alloc (Nat.le_refl _) _).alloc (by simp) _).alloc (by simp; omega) _).alloc (by simp; omega) _).trans (hO.below (by simp; omega) (by intro k hk; omega))
  clear hO
  have HB := Lib.hid hB; clear hB
  have c0 := cell_of hr 0; have c1 := cell_of hr 1; have c2 := cell_of hr 2; have c3 := cell_of hr 3
  have f0 := free_of hr 0; have f1 := free_of hr 1; have f2 := free_of hr 2; have f3 := free_of hr 3
  have cc := cell_of hc 0
  simp at c0 c1 c2 c3 cc
  have Hr := Lib.hid hr; clear hr hc
  unfold four
  go_wp2_with fail
  go_region
  go_wp2
  refine bodyPost_ret (results_cell_slot Try.results58 _ _ _ _ _ _ _ _ rfl rfl ((Below.heap_alloc _ _ _ (by simp; omega)).trans (heap_set4 Hr.out _ _ _ _)) Try.underlying45 rfl (by kernel_rfl)) rfl ⟨rfl, ?_⟩
  exact (((((HB.out.setCell (by simp; omega) _).setCell (by simp; omega) _).setCell (by simp; omega) _).setCell (by simp; omega) _).alloc (by simp; omega) _).drew

/-- 'up' over minus's closure, in whatever world. -/
theorem minus_up (x0 x1 x2 x3 y0 y1 y2 y3 : Nat) (bx by' bc : Nat) (w : World)
    (h1 : w.heap[bx]? = some (.cells (four x0 x1 x2 x3) 45 (0, 0))) (h2 : w.heap[by']? = some (.cells (four y0 y1 y2 y3) 45 (0, 0)))
    (h3 : w.heap[bc]? = some (.cells #[.int .u64 0] 22 (0, 0))) (n1 : bx ≠ bc) (n2 : by' ≠ bc) :
    Calls Try.prog 74 #[.func (.func 78) #[] #[.pointer (some ⟨bx, 0, none⟩), .pointer (some ⟨by', 0, none⟩), .pointer (some ⟨bc, 0, none⟩)]] w fun e w' =>
      e = .returned (.agg (four (subD (nth x0 x1 x2 x3) (nth y0 y1 y2 y3) 0) (subD (nth x0 x1 x2 x3) (nth y0 y1 y2 y3) 1) (subD (nth x0 x1 x2 x3) (nth y0 y1 y2 y3) 2) (subD (nth x0 x1 x2 x3) (nth y0 y1 y2 y3) 3))) ∧
      w'.heap[bc]? = some (.cells #[.int .u64 (subC (nth x0 x1 x2 x3) (nth y0 y1 y2 y3) 4 : Nat)] 22 (0, 0)) ∧ Only (fun k => k = bc) w.heap.size w w' := by
  refine (up_any 78 _ (fun k => k = bc) (CarryS (subD (nth x0 x1 x2 x3) (nth y0 y1 y2 y3)) (subC (nth x0 x1 x2 x3) (nth y0 y1 y2 y3)) bx by' bc (four x0 x1 x2 x3) (four y0 y1 y2 y3)) w
    (fun k hk => hk ▸ lt_of h3) (fun i w => by kernel_rfl) (CarryS.stable (lt_of h1) (lt_of h2) (lt_of h3)) ⟨rfl, h3, h1, h2⟩ ?_).mono ?_
  · rintro k ls wr hk _ _ hs
    refine (minus1_any k hk bx by' bc x0 x1 x2 x3 y0 y1 y2 y3 _ wr hs.2.2.1 hs.2.2.2 hs.2.1 (subC_le k)).mono ?_
    rintro e w' ⟨rfl, rfl⟩
    exact ⟨_, rfl, hs.step n1 n2, CarryS.only _⟩
  · rintro e w' ⟨r0, r1, r2, r3, rfl, hs, ho⟩
    obtain ⟨rfl, rfl, rfl, rfl⟩ := four_list _ _ _ _ _ hs.1
    exact ⟨rfl, hs.2.1, ho⟩

set_option maxRecDepth 100000 in
set_option maxHeartbeats 400000 in
theorem minus_any (x0 x1 x2 x3 y0 y1 y2 y3 : Nat) (w : World) :
    Calls Try.prog 62 #[.agg (four x0 x1 x2 x3), .agg (four y0 y1 y2 y3)] w fun e w' =>
      e = .returned (.tuple #[.agg (four (subD (nth x0 x1 x2 x3) (nth y0 y1 y2 y3) 0) (subD (nth x0 x1 x2 x3) (nth y0 y1 y2 y3) 1) (subD (nth x0 x1 x2 x3) (nth y0 y1 y2 y3) 2) (subD (nth x0 x1 x2 x3) (nth y0 y1 y2 y3) 3)),
        .int .u64 (subC (nth x0 x1 x2 x3) (nth y0 y1 y2 y3) 4 : Nat)]) ∧ Below w.heap.size w w' := by
  unfold four
  go_enter Try.func62, Try.ntmps62
  go_wp2_with fail
  refine (minus_up x0 x1 x2 x3 y0 y1 y2 y3 _ _ _ _ (by simp only [heap_alloc_get, alloc_size, Nat.add_assoc, Nat.reduceAdd]; simp [four]) (by simp only [heap_alloc_get, alloc_size, Nat.add_assoc, Nat.reduceAdd]; simp [four]) (by simp only [heap_alloc_get, alloc_size, Nat.add_assoc, Nat.reduceAdd]; simp) (by omega) (by omega)).mono ?_
  rintro e w1 ⟨rfl, hc, hO⟩
  have hr := hO.block (w.heap.size + 1 + 1) (by simp) (by simp)
  simp only [heap_alloc_get, alloc_size] at hr; simp at hr
  have hz := hO.size
  simp at hz
  have hz3 : w.heap.size + 1 + 1 + 1 < w1.heap.size := by omega
  have hz2 : w.heap.size + 1 + 1 < w1.heap.size := by omega
  have hB : Below w.heap.size w w1 := (((((Below.refl _ _).alloc (Nat.le_refl _) _).alloc (by simp) _).alloc (by simp; omega) _).alloc (by simp; omega) _).trans (hO.below (by simp; omega) (by intro k hk; omega))
  clear hO
  have HB := Lib.hid hB; clear hB
  have c0 := cell_of hr 0; have c1 := cell_of hr 1; have c2 := cell_of hr 2; have c3 := cell_of hr 3
  have f0 := free_of hr 0; have f1 := free_of hr 1; have f2 := free_of hr 2; have f3 := free_of hr 3
  have cc := cell_of hc 0
  simp at c0 c1 c2 c3 cc
  have Hr := Lib.hid hr; clear hr hc
  unfold four
  go_wp2_with fail
  go_region
  go_wp2
  refine bodyPost_ret (results_cell_slot Try.results62 _ _ _ _ _ _ _ _ rfl rfl ((Below.heap_alloc _ _ _ (by simp; omega)).trans (heap_set4 Hr.out _ _ _ _)) Try.underlying45 rfl (by kernel_rfl)) rfl ⟨rfl, ?_⟩
  exact (((((HB.out.setCell (by simp; omega) _).setCell (by simp; omega) _).setCell (by simp; omega) _).setCell (by simp; omega) _).alloc (by simp; omega) _).drew


/-- A call that hands back a number of four limbs and a carry. -/
def RetLC (q : Nat → Nat → Prop) (w : World) (e : Ending) (w' : World) : Prop :=
  ∃ s s0 s1 s2 s3 c : Nat, e = .returned (.tuple #[.agg #[.int .u64 s0, .int .u64 s1, .int .u64 s2, .int .u64 s3], .int .u64 c]) ∧ Dig s s0 s1 s2 s3 ∧ q s c ∧ Below w.heap.size w w'

theorem plus_c {x y x0 x1 x2 x3 y0 y1 y2 y3 : Nat} (hx : Dig x x0 x1 x2 x3) (hy : Dig y y0 y1 y2 y3) (w : World) :
    Calls Try.prog 58 #[.agg #[.int .u64 x0, .int .u64 x1, .int .u64 x2, .int .u64 x3], .agg #[.int .u64 y0, .int .u64 y1, .int .u64 y2, .int .u64 y3]] w
      (RetLC (fun s c => c ≤ 1 ∧ x + y = s + W256 * c) w) := by
  refine (plus_any x0 x1 x2 x3 y0 y1 y2 y3 hx.nth hy.nth w).mono ?_
  rintro e w' ⟨rfl, hb⟩
  obtain ⟨s, hs, hq⟩ := add_digits hx hy
  exact ⟨s, _, _, _, _, _, rfl, hs, ⟨addC_le hx.nth hy.nth _, hq⟩, hb⟩

theorem minus_c {x y x0 x1 x2 x3 y0 y1 y2 y3 : Nat} (hx : Dig x x0 x1 x2 x3) (hy : Dig y y0 y1 y2 y3) (w : World) :
    Calls Try.prog 62 #[.agg #[.int .u64 x0, .int .u64 x1, .int .u64 x2, .int .u64 x3], .agg #[.int .u64 y0, .int .u64 y1, .int .u64 y2, .int .u64 y3]] w
      (RetLC (fun s c => c ≤ 1 ∧ x + W256 * c = s + y) w) := by
  refine (minus_any x0 x1 x2 x3 y0 y1 y2 y3 w).mono ?_
  rintro e w' ⟨rfl, hb⟩
  obtain ⟨s, hs, hq⟩ := sub_digits hx hy
  exact ⟨s, _, _, _, _, _, rfl, hs, ⟨subC_le _, hq⟩, hb⟩

end Go.Proofs.Ythbfhfgmanafpaa
