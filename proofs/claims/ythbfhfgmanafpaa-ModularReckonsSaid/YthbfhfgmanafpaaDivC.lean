/- The contract of word.divide's closure, and of 'down' over it. -/
import Derived.Test.YthbfhfgmanafpaaDivB
import Derived.Test.YthbfhfgmanafpaaWordDown
import Derived.Test.YthbfhfgmanafpaaDraw
namespace Go.Proofs.Ythbfhfgmanafpaa
open Go.RowKit
attribute [local go_sem ↓] Go.wp_at_zero Go.wp_at_succ

/-- What divide's closure finds in memory: what is left, the low limbs, the divisor. -/
structure DivS (br bl bd r0 r1 r2 r3 l0 l1 l2 l3 d0 d1 d2 d3 : Nat) (w : World) : Prop where
  r : w.heap[br]? = some (.cells #[.int .u64 r0, .int .u64 r1, .int .u64 r2, .int .u64 r3] 45 (0, 0))
  l : w.heap[bl]? = some (.cells (four l0 l1 l2 l3) 45 (0, 0))
  d : w.heap[bd]? = some (.cells #[.int .u64 d0, .int .u64 d1, .int .u64 d2, .int .u64 d3] 45 (0, 0))
theorem DivS.below {br bl bd r0 r1 r2 r3 l0 l1 l2 l3 d0 d1 d2 d3 : Nat} {w w1 : World} (h : DivS br bl bd r0 r1 r2 r3 l0 l1 l2 l3 d0 d1 d2 d3 w) (hb : Below w.heap.size w w1) : DivS br bl bd r0 r1 r2 r3 l0 l1 l2 l3 d0 d1 d2 d3 w1 :=
  ⟨(hb.block _ (lt_of h.r)).trans h.r, (hb.block _ (lt_of h.l)).trans h.l, (hb.block _ (lt_of h.d)).trans h.d⟩
theorem DivS.cells {br bl bd r0 r1 r2 r3 l0 l1 l2 l3 d0 d1 d2 d3 : Nat} {w : World} (h : DivS br bl bd r0 r1 r2 r3 l0 l1 l2 l3 d0 d1 d2 d3 w) {j n : Nat} (hj : j < 4) (hn : nth l0 l1 l2 l3 j = n) :
    ((w.cell? ⟨br, 0, none⟩ = some (.int .u64 r0) ∧ w.cell? ⟨br, 1, none⟩ = some (.int .u64 r1) ∧ w.cell? ⟨br, 2, none⟩ = some (.int .u64 r2) ∧ w.cell? ⟨br, 3, none⟩ = some (.int .u64 r3)) ∧
      (w.frozen? ⟨br, 0, none⟩ = false ∧ w.frozen? ⟨br, 1, none⟩ = false ∧ w.frozen? ⟨br, 2, none⟩ = false ∧ w.frozen? ⟨br, 3, none⟩ = false)) ∧
    w.cell? ⟨bl, j, none⟩ = some (.int .u64 n) ∧
    (w.cell? ⟨bd, 0, none⟩ = some (.int .u64 d0) ∧ w.cell? ⟨bd, 1, none⟩ = some (.int .u64 d1) ∧ w.cell? ⟨bd, 2, none⟩ = some (.int .u64 d2) ∧ w.cell? ⟨bd, 3, none⟩ = some (.int .u64 d3)) :=
  ⟨cells4 h.r, (cell_of h.l j).trans ((four_at _ _ _ _ _ hj).trans (by rw [hn])), (cells4 h.d).1⟩

/-- A closure's round of divide: the limb, what is left behind it. -/
def RetStep (br q s : Nat) (w : World) (e : Ending) (w' : World) : Prop :=
  ∃ s0 s1 s2 s3 : Nat, e = .returned (.int .u64 q) ∧ Dig s s0 s1 s2 s3 ∧ w'.heap[br]? = some (.cells #[.int .u64 s0, .int .u64 s1, .int .u64 s2, .int .u64 s3] 45 (0, 0)) ∧ Only (fun b => b = br) w.heap.size w w'

set_option maxRecDepth 100000 in
set_option maxHeartbeats 1000000 in
theorem divide1_c {j br bl bd r n d r0 r1 r2 r3 l0 l1 l2 l3 d0 d1 d2 d3 : Nat} (hj : j < 4) (hn : nth l0 l1 l2 l3 j = n) (hnM : n < M64) (hr : Dig r r0 r1 r2 r3) (hd : Dig d d0 d1 d2 d3) (hlt : r < d) (hd3 : M64 / 2 ≤ d3) (w : World)
    (h : DivS br bl bd r0 r1 r2 r3 l0 l1 l2 l3 d0 d1 d2 d3 w) :
    Calls Try.prog 82 #[.int .i64 j, .pointer (some ⟨br, 0, none⟩), .pointer (some ⟨bl, 0, none⟩), .pointer (some ⟨bd, 0, none⟩)] w (RetStep br ((r * M64 + n) / d) ((r * M64 + n) % d) w) := by
  have O := Lib.hid (fun W => divideOnce_c hr hd hlt hnM hd3 W)
  have HS := Lib.hid (fun W (hW : DivS br bl bd r0 r1 r2 r3 l0 l1 l2 l3 d0 d1 d2 d3 W) => DivS.cells hW hj hn)
  have hj0 : (0 : Int) ≤ (j : Int) ∧ (j : Int) < 4 := by omega
  have hbr := lt_of h.r
  have H0 : DivS br bl bd r0 r1 r2 r3 l0 l1 l2 l3 d0 d1 d2 d3 w.drew := ⟨h.r, h.l, h.d⟩
  clear hn hnM hr hd hlt hd3 h
  generalize (r * M64 + n) / d = q at *
  generalize (r * M64 + n) % d = s at *
  go_enter Try.func82, Try.ntmps82
  go_wp2_with fail
  refine Drawn.start (DivS br bl bd r0 r1 r2 r3 l0 l1 l2 l3 d0 d1 d2 d3) (fun i => i == 10) (by kernel_rfl) ?_
  refine Drawn.take 0 (some 8) (v := ?_) rfl rfl (by kernel_rfl) (by kernel_rfl) (by kernel_rfl) (by kernel_rfl) (by kernel_rfl) rfl (fun _ _ _ h => h) (Or.inl ⟨rfl, ?_⟩) H0 ?_
  rotate_left
  · intro W hW; have hW := HS.out W hW; go_simp; try with_reducible rfl
  simp only [put_list, List.set]
  refine Drawn.take 1 (some 9) (v := ?_) rfl rfl (by kernel_rfl) (by kernel_rfl) (by kernel_rfl) (by kernel_rfl) (by kernel_rfl) rfl (fun _ _ _ h => h) (Or.inl ⟨rfl, ?_⟩) H0 ?_
  rotate_left
  · intro W hW; have hW := HS.out W hW; go_simp; try with_reducible rfl
  simp only [put_list, List.set]
  refine Drawn.take 2 (some 10) (v := ?_) rfl rfl (by kernel_rfl) (by kernel_rfl) (by kernel_rfl) (by kernel_rfl) (by kernel_rfl) rfl (fun _ _ _ h => h) (Or.inl ⟨rfl, ?_⟩) H0 ?_
  rotate_left
  · intro W hW; have hW := HS.out W hW; go_simp; try with_reducible rfl
  simp only [put_list, List.set]
  refine Drawn.take 3 (some 11) (v := ?_) rfl rfl (by kernel_rfl) (by kernel_rfl) (by kernel_rfl) (by kernel_rfl) (by kernel_rfl) rfl (fun _ _ _ h => h) (Or.inl ⟨rfl, ?_⟩) H0 ?_
  rotate_left
  · intro W hW; have hW := HS.out W hW; go_simp; try with_reducible rfl
  simp only [put_list, List.set]
  refine Drawn.take 4 (some 12) (v := ?_) rfl rfl (by kernel_rfl) (by kernel_rfl) (by kernel_rfl) (by kernel_rfl) (by kernel_rfl) rfl (fun _ _ _ h => h) (Or.inl ⟨rfl, ?_⟩) H0 ?_
  rotate_left
  · intro W hW; have hW := HS.out W hW; go_simp; try with_reducible rfl
  simp only [put_list, List.set]
  refine Drawn.only 5 (by kernel_rfl) rfl rfl (fun K hK => ?_)
  go_simp
  refine (O.out _).mono ?_
  rintro e w1 ⟨s0, s1, s2, s3, rfl, hs, hb⟩
  refine hK _ _ (fun _ _ => H0.below hb) ?_
  replace H0 := H0.below hb
  have HD := Lib.hid hs; clear hs
  have HB := Lib.hid hb
  clear hK K hb
  refine Drawn.take 6 (some 7) (v := ?_) rfl rfl (by kernel_rfl) (by kernel_rfl) (by kernel_rfl) (by kernel_rfl) (by kernel_rfl) rfl (fun _ _ _ h => h) (Or.inl ⟨rfl, ?_⟩) H0 ?_
  rotate_left
  · intro W hW; have hW := HS.out W hW; go_simp; try with_reducible rfl
  simp only [put_list, List.set]
  refine Drawn.take 7 (some 14) (v := ?_) rfl rfl (by kernel_rfl) (by kernel_rfl) (by kernel_rfl) (by kernel_rfl) (by kernel_rfl) rfl (fun _ _ _ h => h) (Or.inl ⟨rfl, ?_⟩) H0 ?_
  rotate_left
  · intro W hW; have hW := HS.out W hW; go_simp; try with_reducible rfl
  simp only [put_list, List.set]
  refine Drawn.take 8 (some 15) (v := ?_) rfl rfl (by kernel_rfl) (by kernel_rfl) (by kernel_rfl) (by kernel_rfl) (by kernel_rfl) rfl (fun _ _ _ h => h) (Or.inl ⟨rfl, ?_⟩) H0 ?_
  rotate_left
  · intro W hW; have hW := HS.out W hW; go_simp; try with_reducible rfl
  simp only [put_list, List.set]
  refine Drawn.take 9 (some 6) (v := ?_) rfl rfl (by kernel_rfl) (by kernel_rfl) (by kernel_rfl) (by kernel_rfl) (by kernel_rfl) rfl (fun _ _ _ h => h) (Or.inl ⟨rfl, ?_⟩) H0 ?_
  rotate_left
  · intro W hW; have hW := HS.out W hW; go_simp; try with_reducible rfl
  simp only [put_list, List.set]
  obtain ⟨⟨⟨c0, c1, c2, c3⟩, f0, f1, f2, f3⟩, _⟩ := HS.out _ H0
  refine Drawn.only 10 (by kernel_rfl) rfl rfl (fun K hK => ?_)
  go_simp
  refine hK _ _ (fun h => by simp at h) ?_
  clear hK K
  refine Drawn.done (by kernel_rfl) ?_ _
  go_wp2_with fail
  go_ret
  exact ⟨s0, s1, s2, s3, rfl, HD.out, heap_set4 H0.r _ _ _ _, ((((Only.of_below (may := fun b => b = br) (show Below w.heap.size w w1 from ⟨HB.out.os, HB.out.tape, HB.out.output, HB.out.size, HB.out.block⟩)).setCell (.inr rfl) _).setCell (.inr rfl) _).setCell (.inr rfl) _).setCell (.inr rfl) _⟩

/-- The number of limbs that are told the highest first. -/
def foldL (ls : List Nat) : Nat := ls.foldl (fun a x => a * M64 + x) 0
theorem foldL_snoc (ls : List Nat) (x : Nat) : foldL (ls ++ [x]) = foldL ls * M64 + x := by simp [foldL]

theorem low_part {l l0 l1 l2 l3 k j : Nat} (h : Dig l l0 l1 l2 l3) (hk : j + k = 3) : l / M64 ^ (4 - (k + 1)) = l / M64 ^ (4 - k) * M64 + nth l0 l1 l2 l3 j := by
  obtain ⟨h0, h1, h2, h3, rfl⟩ := h
  have : k = 0 ∧ j = 3 ∨ k = 1 ∧ j = 2 ∨ k = 2 ∧ j = 1 ∨ k = 3 ∧ j = 0 := by omega
  rcases this with ⟨rfl, rfl⟩ | ⟨rfl, rfl⟩ | ⟨rfl, rfl⟩ | ⟨rfl, rfl⟩ <;> simp only [nth, Nat.reduceAdd, Nat.reduceSub, Nat.pow_succ, Nat.pow_zero] <;> unfold M64 at * <;> omega

theorem step_sum {R T T' Q d r n q s p : Nat} (h : R * p + T = Q * d + r) (hT : T' = T * M64 + n) (hq : d * q + s = r * M64 + n) : R * (p * M64) + T' = (Q * M64 + q) * d + s := by
  subst hT
  rw [Nat.add_mul, Nat.mul_comm q d, ← Nat.mul_assoc]
  have e : (R * p + T) * M64 = (Q * d + r) * M64 := by rw [h]
  rw [Nat.add_mul, Nat.add_mul] at e
  rw [show Q * M64 * d = Q * d * M64 by rw [Nat.mul_right_comm]]
  omega

/-- What 'down' knows ahead of round k. -/
def DownS (br bl bd R L d l0 l1 l2 l3 d0 d1 d2 d3 : Nat) (k : Nat) (ls : List Nat) (w : World) : Prop :=
  ∃ r r0 r1 r2 r3, Dig r r0 r1 r2 r3 ∧ r < d ∧ (∀ x ∈ ls, x < M64) ∧ R * M64 ^ k + L / M64 ^ (4 - k) = foldL ls * d + r ∧ DivS br bl bd r0 r1 r2 r3 l0 l1 l2 l3 d0 d1 d2 d3 w

/-- What 'down' hands back over divide's closure. -/
def RetDown (br R L d : Nat) (w : World) (e : Ending) (w' : World) : Prop :=
  ∃ q q0 q1 q2 q3 r r0 r1 r2 r3 : Nat, e = .returned (.agg #[.int .u64 q0, .int .u64 q1, .int .u64 q2, .int .u64 q3]) ∧ Dig q q0 q1 q2 q3 ∧ Dig r r0 r1 r2 r3 ∧ r < d ∧ R * W256 + L = q * d + r ∧
    w'.heap[br]? = some (.cells #[.int .u64 r0, .int .u64 r1, .int .u64 r2, .int .u64 r3] 45 (0, 0)) ∧ Only (fun b => b = br) w.heap.size w w'

theorem divide_down {br bl bd R L d r0 r1 r2 r3 l0 l1 l2 l3 d0 d1 d2 d3 : Nat} (hr : Dig R r0 r1 r2 r3) (hl : Dig L l0 l1 l2 l3) (hd : Dig d d0 d1 d2 d3) (hlt : R < d) (hd3 : M64 / 2 ≤ d3) (w : World)
    (h : DivS br bl bd r0 r1 r2 r3 l0 l1 l2 l3 d0 d1 d2 d3 w) (n1 : bl ≠ br) (n2 : bd ≠ br) :
    Calls Try.prog 81 #[.func (.func 82) #[] #[.pointer (some ⟨br, 0, none⟩), .pointer (some ⟨bl, 0, none⟩), .pointer (some ⟨bd, 0, none⟩)]] w (RetDown br R L d w) := by
  refine (down_any 82 _ (fun k => k = br) (DownS br bl bd R L d l0 l1 l2 l3 d0 d1 d2 d3) w
    (fun k hk => hk ▸ lt_of h.r) (fun i w => by kernel_rfl) ?_ ⟨R, r0, r1, r2, r3, hr, hlt, by simp, ?_, h⟩ ?_).mono ?_
  · rintro k ls w1 w2 hb ⟨r, s0, s1, s2, s3, a1, a2, a3, a4, a5⟩
    exact ⟨r, s0, s1, s2, s3, a1, a2, a3, a4, (hb.block _ (lt_of h.r)).trans a5.r, (hb.block _ (lt_of h.l)).trans a5.l, (hb.block _ (lt_of h.d)).trans a5.d⟩
  · have := hl.lt
    rw [show M64 ^ (4 - 0) = W256 by rfl, Nat.div_eq_of_lt this]
    simp [foldL]
  · rintro k j ls wr hk hlen _ ⟨r, s0, s1, s2, s3, a1, a2, a3, a4, a5⟩
    have hq := quot_lt a2 (hl.nth j)
    have e := Nat.div_add_mod (r * M64 + nth l0 l1 l2 l3 j) d
    have m := Nat.mod_lt (r * M64 + nth l0 l1 l2 l3 j) (show 0 < d by omega)
    refine (divide1_c (by omega) rfl (hl.nth j) a1 hd a2 hd3 wr a5).mono ?_
    rintro e' w' ⟨t0, t1, t2, t3, rfl, ht, hb, ho⟩
    refine ⟨_, rfl, ⟨_, t0, t1, t2, t3, ht, m, ?_, ?_, hb, (ho.block _ (lt_of a5.l) n1).trans a5.l, (ho.block _ (lt_of a5.d) n2).trans a5.d⟩, ho⟩
    · intro x hx
      rcases List.mem_append.1 hx with hx | hx
      · exact a3 x hx
      · simp only [List.mem_singleton] at hx; subst hx; exact hq
    · rw [foldL_snoc]
      exact step_sum a4 (low_part hl hk) e
  · rintro e w' ⟨q3, q2, q1, q0, rfl, ⟨r, s0, s1, s2, s3, a1, a2, a3, a4, a5⟩, ho⟩
    refine ⟨_, q0, q1, q2, q3, r, s0, s1, s2, s3, rfl, ⟨a3 _ (by simp), a3 _ (by simp), a3 _ (by simp), a3 _ (by simp), rfl⟩, a1, a2, ?_, a5.r, ho⟩
    rw [show M64 ^ 4 = W256 by rfl, show M64 ^ (4 - 4) = 1 by rfl, Nat.div_one] at a4
    have e : foldL [q3, q2, q1, q0] = q0 + M64 * (q1 + M64 * (q2 + M64 * q3)) := by
      simp only [foldL, List.foldl, Nat.zero_mul, Nat.zero_add]
      unfold M64
      omega
    rw [a4, e]

end Go.Proofs.Ythbfhfgmanafpaa
