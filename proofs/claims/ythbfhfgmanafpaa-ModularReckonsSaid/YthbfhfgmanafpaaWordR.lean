/- Contracts of package word: plusRow. -/
import Derived.Test.YthbfhfgmanafpaaWordM
import Derived.Test.YthbfhfgmanafpaaDraw
namespace Go.Proofs.Ythbfhfgmanafpaa
open Go.RowKit
attribute [local go_sem ↓] Go.wp_at_zero Go.wp_at_succ

theorem lifted_in (a0 a1 a2 a3 l k : Nat) (h : l ≤ k) : lifted (nth a0 a1 a2 a3) l k = nth a0 a1 a2 a3 (k - l) := by
  unfold lifted; rw [if_neg (by omega)]

/-- limbs.at, at an index that may be below 0. -/
theorem at_lift (a0 a1 a2 a3 l k : Nat) (hk : k < 4) (hl : l < 4) (w : World) :
    Calls Try.prog 85 #[.agg #[.int .u64 a0, .int .u64 a1, .int .u64 a2, .int .u64 a3], .int .i64 ((k : Int) - (l : Int))] w fun e w' =>
      e = .returned (.int .u64 (lifted (nth a0 a1 a2 a3) l k : Nat)) ∧ Below w.heap.size w w' := by
  by_cases h : k < l
  · have e : lifted (nth a0 a1 a2 a3) l k = 0 := by unfold lifted; rw [if_pos h]
    rw [e]
    exact at_out _ _ _ _ _ (by omega) w
  · rw [lifted_in _ _ _ _ _ _ (by omega)]
    have e : ((k : Int) - (l : Int)) = ((k - l : Nat) : Int) := by omega
    rw [e]
    exact at_in _ _ _ _ _ (by omega) w

/-- What the closure of plusRow finds in memory. -/
structure RowS (ba bl bd bs bc a0 a1 a2 a3 l d s0 s1 s2 s3 c : Nat) (w : World) : Prop where
  a : w.heap[ba]? = some (.cells #[.int .u64 a0, .int .u64 a1, .int .u64 a2, .int .u64 a3] 45 (0, 0))
  l : w.heap[bl]? = some (.cells #[.int .i64 l] 3 (0, 0))
  d : w.heap[bd]? = some (.cells #[.int .u64 d] 22 (0, 0))
  s : w.heap[bs]? = some (.cells (four s0 s1 s2 s3) 45 (0, 0))
  c : w.heap[bc]? = some (.cells #[.int .u64 c] 22 (0, 0))

theorem RowS.below {ba bl bd bs bc a0 a1 a2 a3 l d s0 s1 s2 s3 c : Nat} {w w1 : World} (h : RowS ba bl bd bs bc a0 a1 a2 a3 l d s0 s1 s2 s3 c w) (hb : Below w.heap.size w w1) : RowS ba bl bd bs bc a0 a1 a2 a3 l d s0 s1 s2 s3 c w1 :=
  ⟨(hb.block _ (lt_of h.a)).trans h.a, (hb.block _ (lt_of h.l)).trans h.l, (hb.block _ (lt_of h.d)).trans h.d, (hb.block _ (lt_of h.s)).trans h.s, (hb.block _ (lt_of h.c)).trans h.c⟩

theorem RowS.cells {ba bl bd bs bc a0 a1 a2 a3 l d s0 s1 s2 s3 c : Nat} {w : World} (h : RowS ba bl bd bs bc a0 a1 a2 a3 l d s0 s1 s2 s3 c w) {k s : Nat} (hk : k < 4) (hs : nth s0 s1 s2 s3 k = s) :
    (w.cell? ⟨ba, 0, none⟩ = some (.int .u64 a0) ∧ w.cell? ⟨ba, 1, none⟩ = some (.int .u64 a1) ∧ w.cell? ⟨ba, 2, none⟩ = some (.int .u64 a2) ∧ w.cell? ⟨ba, 3, none⟩ = some (.int .u64 a3)) ∧
      w.cell? ⟨bl, 0, none⟩ = some (.int .i64 l) ∧ w.cell? ⟨bd, 0, none⟩ = some (.int .u64 d) ∧ w.cell? ⟨bs, k, none⟩ = some (.int .u64 s) ∧ w.cell? ⟨bc, 0, none⟩ = some (.int .u64 c) ∧ w.frozen? ⟨bc, 0, none⟩ = false :=
  ⟨(cells4 h.a).1, (cell_of h.l 0).trans rfl, (cell_of h.d 0).trans rfl, (cell_of h.s k).trans ((four_at _ _ _ _ _ hk).trans (by rw [hs])), (cell_of h.c 0).trans rfl, free_of h.c 0⟩

set_option maxRecDepth 100000 in
set_option maxHeartbeats 1000000 in
theorem plusRow1_any (k l : Nat) (hk : k < 4) (hl : l < 4) (ba bl bd bs bc a0 a1 a2 a3 d s0 s1 s2 s3 c : Nat) (w : World)
    (h : RowS ba bl bd bs bc a0 a1 a2 a3 l d s0 s1 s2 s3 c w)
    (hx : lifted (nth a0 a1 a2 a3) l k < M64) (hd : d < M64) (hs : nth s0 s1 s2 s3 k < M64) (hc : c < M64) :
    Calls Try.prog 91 #[.int .i64 k, .pointer (some ⟨ba, 0, none⟩), .pointer (some ⟨bl, 0, none⟩), .pointer (some ⟨bd, 0, none⟩), .pointer (some ⟨bs, 0, none⟩), .pointer (some ⟨bc, 0, none⟩)] w fun e w' =>
      e = .returned (.int .u64 (fuseL (lifted (nth a0 a1 a2 a3) l k) d (nth s0 s1 s2 s3 k) c : Nat)) ∧
      w'.heap[bc]? = some (.cells #[.int .u64 (fuseH (lifted (nth a0 a1 a2 a3) l k) d (nth s0 s1 s2 s3 k) c : Nat)] 22 (0, 0)) ∧ Only (fun b => b = bc) w.heap.size w w' := by
  have A := Lib.hid (at_lift a0 a1 a2 a3 l k hk hl)
  have F := Lib.hid (fuse_c _ d _ c hx hd hs hc)
  have HS := Lib.hid (fun W (hW : RowS ba bl bd bs bc a0 a1 a2 a3 l d s0 s1 s2 s3 c W) => RowS.cells hW hk rfl)
  have H0 : RowS ba bl bd bs bc a0 a1 a2 a3 l d s0 s1 s2 s3 c w.drew := ⟨h.a, h.l, h.d, h.s, h.c⟩
  have hw1 : IntKind.i64.wrap ((k : Int) - (l : Int)) = (k : Int) - (l : Int) := IntWalk.i64_in _ (by omega)
  have hk0 : (0 : Int) ≤ (k : Int) := by omega
  have hk4 : (k : Int) < 4 := by omega
  clear hx hd hs hc hl
  generalize nth s0 s1 s2 s3 k = s at *
  generalize lifted (nth a0 a1 a2 a3) l k = x at *
  generalize fuseH x d s c = fh at *
  generalize fuseL x d s c = fl at *
  go_enter Try.func91, Try.ntmps91
  go_wp2_with fail
  refine Drawn.start (RowS ba bl bd bs bc a0 a1 a2 a3 l d s0 s1 s2 s3 c) (fun i => i == 14) (by kernel_rfl) ?_
  refine Drawn.take 0 (some 10) (v := ?_) rfl rfl (by kernel_rfl) (by kernel_rfl) (by kernel_rfl) (by kernel_rfl) (by kernel_rfl) rfl (fun _ _ _ h => h) (Or.inl ⟨rfl, ?_⟩) H0 ?_
  rotate_left
  · intro W hW; have hW := HS.out W hW; go_simp; try with_reducible rfl
  simp only [put_list, List.set]
  refine Drawn.take 1 (some 11) (v := ?_) rfl rfl (by kernel_rfl) (by kernel_rfl) (by kernel_rfl) (by kernel_rfl) (by kernel_rfl) rfl (fun _ _ _ h => h) (Or.inl ⟨rfl, ?_⟩) H0 ?_
  rotate_left
  · intro W hW; have hW := HS.out W hW; go_simp; try with_reducible rfl
  simp only [put_list, List.set]
  refine Drawn.take 2 (some 12) (v := ?_) rfl rfl (by kernel_rfl) (by kernel_rfl) (by kernel_rfl) (by kernel_rfl) (by kernel_rfl) rfl (fun _ _ _ h => h) (Or.inl ⟨rfl, ?_⟩) H0 ?_
  rotate_left
  · intro W hW; have hW := HS.out W hW; go_simp; try with_reducible rfl
  simp only [put_list, List.set]
  refine Drawn.take 3 (some 13) (v := ?_) rfl rfl (by kernel_rfl) (by kernel_rfl) (by kernel_rfl) (by kernel_rfl) (by kernel_rfl) rfl (fun _ _ _ h => h) (Or.inl ⟨rfl, ?_⟩) H0 ?_
  rotate_left
  · intro W hW; have hW := HS.out W hW; go_simp; try with_reducible rfl
  simp only [put_list, List.set]
  refine Drawn.take 5 (some 15) (v := ?_) rfl rfl (by kernel_rfl) (by kernel_rfl) (by kernel_rfl) (by kernel_rfl) (by kernel_rfl) rfl (fun _ _ _ h => h) (Or.inl ⟨rfl, ?_⟩) H0 ?_
  rotate_left
  · intro W hW; have hW := HS.out W hW; go_simp; try with_reducible rfl
  simp only [put_list, List.set]
  refine Drawn.take 6 (some 16) (v := ?_) rfl rfl (by kernel_rfl) (by kernel_rfl) (by kernel_rfl) (by kernel_rfl) (by kernel_rfl) rfl (fun _ _ _ h => h) (Or.inl ⟨rfl, ?_⟩) H0 ?_
  rotate_left
  · intro W hW; have hW := HS.out W hW; go_simp; try with_reducible rfl
  simp only [put_list, List.set]
  refine Drawn.take 7 (some 17) (v := ?_) rfl rfl (by kernel_rfl) (by kernel_rfl) (by kernel_rfl) (by kernel_rfl) (by kernel_rfl) rfl (fun _ _ _ h => h) (Or.inl ⟨rfl, ?_⟩) H0 ?_
  rotate_left
  · intro W hW; have hW := HS.out W hW; go_simp; try with_reducible rfl
  simp only [put_list, List.set]
  refine Drawn.take 8 (some 18) (v := ?_) rfl rfl (by kernel_rfl) (by kernel_rfl) (by kernel_rfl) (by kernel_rfl) (by kernel_rfl) rfl (fun _ _ _ h => h) (Or.inl ⟨rfl, ?_⟩) H0 ?_
  rotate_left
  · intro W hW; have hW := HS.out W hW; go_simp; try with_reducible rfl
  simp only [put_list, List.set]
  refine Drawn.take 9 (some 19) (v := ?_) rfl rfl (by kernel_rfl) (by kernel_rfl) (by kernel_rfl) (by kernel_rfl) (by kernel_rfl) rfl (fun _ _ _ h => h) (Or.inl ⟨rfl, ?_⟩) H0 ?_
  rotate_left
  · intro W hW; have hW := HS.out W hW; go_simp; try with_reducible rfl
  simp only [put_list, List.set]
  refine Drawn.only 4 (by kernel_rfl) rfl rfl (fun K hK => ?_)
  go_simp
  refine (A.out _).mono ?_
  rintro e w1 ⟨rfl, hb1⟩
  refine hK _ _ (fun _ _ => H0.below hb1) ?_
  replace H0 := H0.below hb1
  clear hK K
  refine Drawn.only 10 (by kernel_rfl) rfl rfl (fun K hK => ?_)
  go_simp
  refine (F.out _).mono ?_
  rintro e w2 ⟨rfl, rfl⟩
  refine hK _ _ (fun _ _ => H0) ?_
  clear hK K
  refine Drawn.take 11 (some 9) (v := ?_) rfl rfl (by kernel_rfl) (by kernel_rfl) (by kernel_rfl) (by kernel_rfl) (by kernel_rfl) rfl (fun _ _ _ h => h) (Or.inl ⟨rfl, ?_⟩) H0 ?_
  rotate_left
  · intro W hW; have hW := HS.out W hW; go_simp; try with_reducible rfl
  simp only [put_list, List.set]
  refine Drawn.take 12 (some 21) (v := ?_) rfl rfl (by kernel_rfl) (by kernel_rfl) (by kernel_rfl) (by kernel_rfl) (by kernel_rfl) rfl (fun _ _ _ h => h) (Or.inl ⟨rfl, ?_⟩) H0 ?_
  rotate_left
  · intro W hW; have hW := HS.out W hW; go_simp; try with_reducible rfl
  simp only [put_list, List.set]
  refine Drawn.free 13 (some 22) (v := ?_) rfl rfl (by kernel_rfl) (by kernel_rfl) (by kernel_rfl) rfl (fun _ _ _ h => h) (Or.inl ⟨rfl, ?_⟩) (fun _ => H0) ?_
  rotate_left
  · intro W; go_simp; try with_reducible rfl
  simp only [put_list, List.set]
  have hc0 := HS.out _ H0
  refine Drawn.only 14 (by kernel_rfl) rfl rfl (fun K hK => ?_)
  go_simp
  refine hK _ _ (fun h => by simp at h) ?_
  clear hK K
  refine Drawn.only 15 (by kernel_rfl) rfl rfl (fun K hK => ?_)
  go_simp
  refine hK _ _ (fun _ h => by simp [dirty, List.range, List.range.loop] at h) ?_
  refine Drawn.done (by kernel_rfl) ?_ _
  go_wp2
  go_ret
  have hb : Below w.heap.size w w1 := ⟨hb1.os, hb1.tape, hb1.output, hb1.size, hb1.block⟩
  exact ⟨rfl, one_setCell H0.c, Only.setCell (may := fun b => b = bc) (Only.of_below hb) (p := ⟨bc, 0, none⟩) (.inr rfl) _⟩

/-- 'up' over plusRow's closure, in whatever world. -/
theorem plusRow_up (l : Nat) (hl : l < 4) (ba bl bd bs bc a0 a1 a2 a3 d s0 s1 s2 s3 : Nat) (w : World)
    (h : RowS ba bl bd bs bc a0 a1 a2 a3 l d s0 s1 s2 s3 0 w) (ha : ∀ k, nth a0 a1 a2 a3 k < M64) (hd : d < M64) (hs : ∀ k, nth s0 s1 s2 s3 k < M64)
    (n1 : ba ≠ bc) (n2 : bl ≠ bc) (n3 : bd ≠ bc) (n4 : bs ≠ bc) :
    Calls Try.prog 74 #[.func (.func 91) #[] #[.pointer (some ⟨ba, 0, none⟩), .pointer (some ⟨bl, 0, none⟩), .pointer (some ⟨bd, 0, none⟩), .pointer (some ⟨bs, 0, none⟩), .pointer (some ⟨bc, 0, none⟩)]] w fun e w' =>
      e = .returned (.agg #[.int .u64 (rowD (nth a0 a1 a2 a3) (nth s0 s1 s2 s3) d l 0 : Nat), .int .u64 (rowD (nth a0 a1 a2 a3) (nth s0 s1 s2 s3) d l 1 : Nat), .int .u64 (rowD (nth a0 a1 a2 a3) (nth s0 s1 s2 s3) d l 2 : Nat), .int .u64 (rowD (nth a0 a1 a2 a3) (nth s0 s1 s2 s3) d l 3 : Nat)]) ∧
      w'.heap[bc]? = some (.cells #[.int .u64 (rowC (nth a0 a1 a2 a3) (nth s0 s1 s2 s3) d l 4 : Nat)] 22 (0, 0)) ∧ Only (fun k => k = bc) w.heap.size w w' := by
  refine (up_any 91 _ (fun k => k = bc) (fun k ls wr => ls = (List.range k).map (rowD (nth a0 a1 a2 a3) (nth s0 s1 s2 s3) d l) ∧ RowS ba bl bd bs bc a0 a1 a2 a3 l d s0 s1 s2 s3 (rowC (nth a0 a1 a2 a3) (nth s0 s1 s2 s3) d l k) wr) w
    (fun k hk => hk ▸ lt_of h.c) (fun i w => by kernel_rfl) ?_ ⟨rfl, h⟩ ?_).mono ?_
  · rintro k ls w1 w2 hb ⟨h1, h2⟩
    exact ⟨h1, (hb.block _ (lt_of h.a)).trans h2.a, (hb.block _ (lt_of h.l)).trans h2.l, (hb.block _ (lt_of h.d)).trans h2.d, (hb.block _ (lt_of h.s)).trans h2.s, (hb.block _ (lt_of h.c)).trans h2.c⟩
  · rintro k ls wr hk _ _ ⟨h1, h2⟩
    refine (plusRow1_any k l hk hl ba bl bd bs bc a0 a1 a2 a3 d s0 s1 s2 s3 _ wr h2 (lifted_lt ha _ _) hd (hs k) (rowC_lt ha hs hd l k)).mono ?_
    rintro e w' ⟨rfl, hc, ho⟩
    exact ⟨_, rfl, ⟨by rw [h1, List.range_succ, List.map_append]; rfl, (ho.block _ (lt_of h2.a) n1).trans h2.a, (ho.block _ (lt_of h2.l) n2).trans h2.l, (ho.block _ (lt_of h2.d) n3).trans h2.d, (ho.block _ (lt_of h2.s) n4).trans h2.s, hc⟩, ho⟩
  · rintro e w' ⟨r0, r1, r2, r3, rfl, hs, ho⟩
    obtain ⟨rfl, rfl, rfl, rfl⟩ := four_list _ _ _ _ _ hs.1
    exact ⟨rfl, hs.2.c, ho⟩

set_option maxRecDepth 100000 in
set_option maxHeartbeats 1000000 in
theorem plusRow_any (l : Nat) (hl : l < 4) (a0 a1 a2 a3 d s0 s1 s2 s3 : Nat) (ha : ∀ k, nth a0 a1 a2 a3 k < M64) (hd : d < M64) (hs : ∀ k, nth s0 s1 s2 s3 k < M64) (w : World) :
    Calls Try.prog 77 #[.agg #[.int .u64 s0, .int .u64 s1, .int .u64 s2, .int .u64 s3], .agg #[.int .u64 a0, .int .u64 a1, .int .u64 a2, .int .u64 a3], .int .u64 d, .int .i64 l] w fun e w' =>
      e = .returned (.tuple #[.agg #[.int .u64 (rowD (nth a0 a1 a2 a3) (nth s0 s1 s2 s3) d l 0 : Nat), .int .u64 (rowD (nth a0 a1 a2 a3) (nth s0 s1 s2 s3) d l 1 : Nat), .int .u64 (rowD (nth a0 a1 a2 a3) (nth s0 s1 s2 s3) d l 2 : Nat), .int .u64 (rowD (nth a0 a1 a2 a3) (nth s0 s1 s2 s3) d l 3 : Nat)],
        .int .u64 (rowC (nth a0 a1 a2 a3) (nth s0 s1 s2 s3) d l 4 : Nat)]) ∧ Below w.heap.size w w' := by
  have H := ((((((Fx.start w).new #[.int .u64 s0, .int .u64 s1, .int .u64 s2, .int .u64 s3] 45).new #[.int .u64 a0, .int .u64 a1, .int .u64 a2, .int .u64 a3] 45).new #[.int .u64 d] 22).new #[.int .i64 l] 3).new #[.int .u64 0, .int .u64 0, .int .u64 0, .int .u64 0] 45).new #[.int .u64 0] 22
  have U := Lib.hid (fun W hW => plusRow_up l hl (w.heap.size + 1) (w.heap.size + 1 + 1 + 1) (w.heap.size + 1 + 1) w.heap.size (w.heap.size + 1 + 1 + 1 + 1 + 1) a0 a1 a2 a3 d s0 s1 s2 s3 W hW ha hd hs (by omega) (by omega) (by omega) (by omega))
  clear ha hd hs
  generalize rowD (nth a0 a1 a2 a3) (nth s0 s1 s2 s3) d l 0 = r0 at *
  generalize rowD (nth a0 a1 a2 a3) (nth s0 s1 s2 s3) d l 1 = r1 at *
  generalize rowD (nth a0 a1 a2 a3) (nth s0 s1 s2 s3) d l 2 = r2 at *
  generalize rowD (nth a0 a1 a2 a3) (nth s0 s1 s2 s3) d l 3 = r3 at *
  generalize rowC (nth a0 a1 a2 a3) (nth s0 s1 s2 s3) d l 4 = c at *
  go_enter Try.func77, Try.ntmps77
  go_wp2_with fail
  refine (U.out _ ⟨(H.1.know (w.heap.size + 1, _, _) (by simp)).2, (H.1.know (w.heap.size + 1 + 1 + 1, _, _) (by simp)).2, (H.1.know (w.heap.size + 1 + 1, _, _) (by simp)).2, (H.1.know (w.heap.size, _, _) (by simp)).2, (H.1.know (w.heap.size + 1 + 1 + 1 + 1 + 1, _, _) (by simp)).2⟩).mono ?_
  rintro e w1 ⟨rfl, hc, hO⟩
  have hz := hO.size
  rw [H.2] at hz hO
  have hr := (hO.block (w.heap.size + 1 + 1 + 1 + 1) (by omega) (by omega)).trans (H.1.know (w.heap.size + 1 + 1 + 1 + 1, #[.int .u64 0, .int .u64 0, .int .u64 0, .int .u64 0], 45) (by simp)).2
  have hB : Below w.heap.size w w1 := H.1.below.trans (hO.below (by omega) (by intro k hk; omega))
  have hz2 : w.heap.size + 1 + 1 + 1 + 1 < w1.heap.size := by omega
  have hz3 : w.heap.size + 1 + 1 + 1 + 1 + 1 < w1.heap.size := by omega
  have HB := Lib.hid hB; clear hB hO hz H
  have cc := cell_of hc 0
  obtain ⟨⟨c0, c1, c2, c3⟩, f0, f1, f2, f3⟩ := cells4 hr
  simp at cc
  have Hr := Lib.hid hr; clear hr hc
  go_wp2_with fail
  go_region
  go_wp2
  refine bodyPost_ret (results_cell_slot Try.results77 _ _ _ _ _ _ _ _ rfl rfl ((Below.heap_alloc _ _ _ (by simp; omega)).trans (heap_set4 Hr.out _ _ _ _)) Try.underlying45 rfl (by kernel_rfl)) rfl ⟨rfl, ?_⟩
  exact (((((HB.out.setCell (by simp; omega) _).setCell (by simp; omega) _).setCell (by simp; omega) _).setCell (by simp; omega) _).alloc (by simp; omega) _).drew

theorem plusRow_c {s a s0 s1 s2 s3 a0 a1 a2 a3 d l : Nat} (hs : Dig s s0 s1 s2 s3) (ha : Dig a a0 a1 a2 a3) (hd : d < M64) (hl : l < 4) (w : World) :
    Calls Try.prog 77 #[.agg #[.int .u64 s0, .int .u64 s1, .int .u64 s2, .int .u64 s3], .agg #[.int .u64 a0, .int .u64 a1, .int .u64 a2, .int .u64 a3], .int .u64 d, .int .i64 l] w
      (RetLC (fun r c => c < M64 ∧ ∃ q, s + a * d * M64 ^ l = r + W256 * q ∧ (l = 0 → q = c)) w) := by
  refine (plusRow_any l hl a0 a1 a2 a3 d s0 s1 s2 s3 ha.nth hd hs.nth w).mono ?_
  rintro e w' ⟨rfl, hb⟩
  obtain ⟨r, q, hr, hq, hl0⟩ := row_digits hs ha hl
  exact ⟨r, _, _, _, _, _, rfl, hr, ⟨rowC_lt ha.nth hs.nth hd _ _, q, hq, hl0⟩, hb⟩

end Go.Proofs.Ythbfhfgmanafpaa
