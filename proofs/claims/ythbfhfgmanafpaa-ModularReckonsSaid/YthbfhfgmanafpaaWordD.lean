/- Contracts of package word: Not, Small, Below. -/
import Derived.Test.YthbfhfgmanafpaaWordC
import Derived.BigQuiet
namespace Go.Proofs.Ythbfhfgmanafpaa
open Go.RowKit
attribute [local go_sem ↓] Go.wp_at_zero Go.wp_at_succ

theorem and64 (x y : Nat) (hx : x < M64) (hy : y < M64) : Go.bits .and .u64 (x : Int) (y : Int) = ((x &&& y : Nat) : Int) := u64_and_nat x y hx hy
theorem or64 (x y : Nat) (hx : x < M64) (hy : y < M64) : Go.bits .or .u64 (x : Int) (y : Int) = ((x ||| y : Nat) : Int) := u64_or_nat x y hx hy
theorem xor64 (x y : Nat) (hx : x < M64) (hy : y < M64) : Go.bits .xor .u64 (x : Int) (y : Int) = ((x ^^^ y : Nat) : Int) := u64_xor_nat x y hx hy
theorem not64 (x : Nat) (hx : x < M64) : Go.bits .xor .u64 IntKind.u64.max (x : Int) = ((M64 - 1 - x : Nat) : Int) := by
  unfold M64 at *
  show IntKind.u64.wrap ((BitVec.ofInt 64 IntKind.u64.max ^^^ BitVec.ofInt 64 (x : Int)).toNat : Int) = _
  have h1 : BitVec.ofInt 64 IntKind.u64.max = BitVec.allOnes 64 := by decide
  rw [h1, BitVec.allOnes_xor, BitVec.toNat_not, ofInt_u64 x (by omega), IntKind.wrap_u64]
  omega
theorem flip64 (x : Nat) (hx : x < M64) : Go.bits .xor .u64 (x : Int) 9223372036854775808 = ((flip63 x : Nat) : Int) := by
  have h := u64_xor_nat x 9223372036854775808 hx (by omega)
  have e : x ^^^ 9223372036854775808 = flip63 x := by
    have := xor_top x hx
    unfold flip63 M64
    omega
  rw [e] at h
  exact h

/-- 'up' over a closure that only reads. -/
theorem up_pure (f : FuncId) (caps : Array Value) (D : Nat → Nat) (L : List (Nat × Array Value × TypeId)) (w : World)
    (hL : ∀ x ∈ L, x.1 < w.heap.size ∧ w.heap[x.1]? = some (.cells x.2.1 x.2.2 (0, 0)))
    (hf : ∀ (i : Int) (w : World), (callFunc f (#[.int .i64 i] ++ caps)).run Try.prog w = .ok (.enter f (#[.int .i64 i] ++ caps)) w)
    (hcall : ∀ k wr, k < 4 → (∀ x ∈ L, wr.heap[x.1]? = some (.cells x.2.1 x.2.2 (0, 0))) → Calls Try.prog f (#[.int .i64 (k : Nat)] ++ caps) wr fun e w' => e = .returned (.int .u64 (D k : Nat)) ∧ Below wr.heap.size wr w') :
    Calls Try.prog 74 #[.func (.func f) #[] caps] w fun e w' => e = .returned (.agg #[.int .u64 (D 0 : Nat), .int .u64 (D 1 : Nat), .int .u64 (D 2 : Nat), .int .u64 (D 3 : Nat)]) ∧ Below w.heap.size w w' := by
  refine (up_any f caps (fun _ => False) (fun k ls wr => ls = (List.range k).map D ∧ ∀ x ∈ L, wr.heap[x.1]? = some (.cells x.2.1 x.2.2 (0, 0))) w
    (fun k hk => hk.elim) hf ?_ ⟨rfl, fun x hx => (hL x hx).2⟩ ?_).mono ?_
  · rintro k ls w1 w2 hb ⟨h1, h2⟩
    exact ⟨h1, fun x hx => (hb.block _ (hL x hx).1).trans (h2 x hx)⟩
  · rintro k ls wr hk _ hsz ⟨h1, h2⟩
    refine (hcall k wr hk h2).mono ?_
    rintro e w' ⟨rfl, hb⟩
    refine ⟨_, rfl, ⟨by rw [h1, List.range_succ]; simp, fun x hx => (hb.block _ (Nat.lt_of_lt_of_le (hL x hx).1 hsz)).trans (h2 x hx)⟩, Only.of_below hb⟩
  · rintro e w' ⟨r0, r1, r2, r3, rfl, hs, ho⟩
    obtain ⟨rfl, rfl, rfl, rfl⟩ := four_list _ _ _ _ _ hs.1
    exact ⟨rfl, ho.below (Nat.le_refl _) (fun _ _ h => h)⟩

set_option maxRecDepth 100000 in
set_option maxHeartbeats 400000 in
theorem Not1_any (k : Nat) (hk : k < 4) (bx x0 x1 x2 x3 : Nat) (w : World)
    (hx : w.heap[bx]? = some (.cells (four x0 x1 x2 x3) 45 (0, 0)))
    (hx1 : ∀ k, nth x0 x1 x2 x3 k < M64) :
    Calls Try.prog 89 #[.int .i64 k, .pointer (some ⟨bx, 0, none⟩)] w fun e w' =>
      e = .returned (.int .u64 ((M64 - 1 - nth x0 x1 x2 x3 k : Nat) : Int)) ∧ Below w.heap.size w w' := by
  have cx := (cell_of hx k).trans (four_at _ _ _ _ k hk)
  have hn := not64 _ (hx1 k)
  have hsg : IntKind.u64.signed = false := rfl
  clear hx hx1
  generalize nth x0 x1 x2 x3 k = x at *
  generalize M64 - 1 - x = z at *
  go_enter Try.func89, Try.ntmps89
  go_wp2_with fail
  go_ret
  exact ⟨rfl, Below.refl _ _⟩

set_option maxRecDepth 100000 in
set_option maxHeartbeats 1000000 in
theorem Not_c {x a3 a2 a1 a0 : Nat} (hx : Dig x a0 a1 a2 a3) (w : World) :
    Calls Try.prog 70 #[.agg #[.int .u64 a3, .int .u64 a2, .int .u64 a1, .int .u64 a0]] w (RetW (fun s => s = W256 - 1 - x) w) := by
  have HX := Lib.hid hx; clear hx
  go_enter Try.func70, Try.ntmps70
  go_wp2_with fail
  have H1 := Fr.two w #[.int .u64 a3, .int .u64 a2, .int .u64 a1, .int .u64 a0] #[.int .u64 0, .int .u64 0, .int .u64 0, .int .u64 0] 24 24
  refine (split_any _ _ _ _ _).mono ?_
  rintro e w1 ⟨rfl, hb1⟩
  replace H1 := H1.call hb1
  clear hb1
  have H2 := H1.up.new #[.int .u64 a0, .int .u64 a1, .int .u64 a2, .int .u64 a3] 45
  go_wp2_with fail
  refine (up_pure 89 _ (fun k => M64 - 1 - nth a0 a1 a2 a3 k) [(w1.heap.size, four a0 a1 a2 a3, 45)] _ ?_ (fun i w => by kernel_rfl) ?_).mono ?_
  · intro x hx
    simp only [List.mem_singleton] at hx
    subst hx
    exact ⟨by simp, (H2.know _ List.mem_cons_self).2⟩
  · intro k wr hk hL
    exact Not1_any k hk _ _ _ _ _ wr (hL _ List.mem_cons_self) HX.out.nth
  rintro e w2 ⟨rfl, hb2⟩
  replace H2 := H2.call hb2
  clear hb2
  go_wp2_with fail
  refine (join_any _ _ _ _ _).mono ?_
  rintro e w4 ⟨rfl, hb4⟩
  replace H2 := H2.call hb4
  have k := H2.know (_, _, _) (List.mem_cons_of_mem _ List.mem_cons_self)
  have hC := cells4 k.2
  obtain ⟨⟨r0, r1, r2, r3⟩, g0, g1, g2, g3⟩ := hC
  have K := Lib.hid k; clear k hb4
  go_wp2_with fail
  exact bodyPost_ret (results_cell_row Try.results70 _ _ _ _ _ _ _ rfl (heap_set4 K.out.2 _ _ _ _) Try.underlying24 rfl (by kernel_rfl)) rfl
    ⟨_, _, _, _, _, rfl, HX.out.not, rfl, below_set4 H2.below (by omega) _ _ _ _⟩


set_option maxRecDepth 100000 in
set_option maxHeartbeats 1000000 in
theorem Small_c {x a3 a2 a1 a0 : Nat} (hx : Dig x a0 a1 a2 a3) (w : World) :
    Calls Try.prog 86 #[.agg #[.int .u64 a3, .int .u64 a2, .int .u64 a1, .int .u64 a0]] w fun e w' =>
      e = .returned (.tuple #[.int .u64 a0, .bool (decide (x < M64))]) ∧ Below w.heap.size w w' := by
  have h1 := or64 _ _ hx.h3 hx.h2
  have h2 := or64 _ _ (or_lt hx.h3 hx.h2) hx.h1
  have h3 := small_of hx
  generalize decide (x < M64) = z at *
  clear hx
  go_enter Try.func86, Try.ntmps86
  go_wp2_with fail
  go_region
  go_wp2
  go_ret2
  exact ⟨rfl, ((Below.refl _ _).alloc (Nat.le_refl _) _).drew⟩

set_option maxRecDepth 100000 in
set_option maxHeartbeats 1000000 in
theorem Below_c {x y a3 a2 a1 a0 b3 b2 b1 b0 : Nat} (hx : Dig x a0 a1 a2 a3) (hy : Dig y b0 b1 b2 b3) (w : World) :
    Calls Try.prog 26 #[.agg #[.int .u64 a3, .int .u64 a2, .int .u64 a1, .int .u64 a0], .agg #[.int .u64 b3, .int .u64 b2, .int .u64 b1, .int .u64 b0]] w
      (RetB (flip255 x < flip255 y) w) := by
  have h1 := flip64 _ hx.h3
  have h2 := flip64 _ hy.h3
  have HX := Lib.hid hx.flip; have HY := Lib.hid hy.flip; clear hx hy
  generalize flip63 a3 = c3 at *
  generalize flip63 b3 = d3 at *
  go_enter Try.func26, Try.ntmps26
  go_wp2_with fail
  refine (Less_c HX.out HY.out _).mono ?_
  rintro e w1 ⟨rfl, hb1⟩
  have HB := Lib.hid hb1; clear hb1
  go_wp2_with fail
  go_ret
  refine ⟨rfl, ((((Below.refl _ _).alloc (Nat.le_refl _) _).alloc (by simp) _)).trans (HB.out.mono (by simp; omega))⟩

end Go.Proofs.Ythbfhfgmanafpaa
