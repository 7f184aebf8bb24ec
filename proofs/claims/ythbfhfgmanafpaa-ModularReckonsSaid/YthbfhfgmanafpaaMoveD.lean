/- The contracts of word.lower and Shr. -/
import Derived.Test.YthbfhfgmanafpaaMoveC
import Derived.Test.YthbfhfgmanafpaaWordDown
namespace Go.Proofs.Ythbfhfgmanafpaa
open Go.RowKit
attribute [local go_sem ↓] Go.wp_at_zero Go.wp_at_succ

/-- Limb j of what is moved down by l limbs. -/
def sunk (f : Nat → Nat) (l j : Nat) : Nat := if j + l < 4 then f (j + l) else 0
theorem sunk_lt {f : Nat → Nat} (hf : ∀ k, f k < M64) (l j : Nat) : sunk f l j < M64 := by
  unfold sunk; split
  · exact hf _
  · unfold M64; omega

theorem at_sunk (a0 a1 a2 a3 l j : Nat) (w : World) :
    Calls Try.prog 85 #[.agg #[.int .u64 a0, .int .u64 a1, .int .u64 a2, .int .u64 a3], .int .i64 ((j : Int) + (l : Int))] w fun e w' =>
      e = .returned (.int .u64 (sunk (nth a0 a1 a2 a3) l j : Nat)) ∧ Below w.heap.size w w' := by
  by_cases h : j + l < 4
  · have e : sunk (nth a0 a1 a2 a3) l j = nth a0 a1 a2 a3 (j + l) := by unfold sunk; rw [if_pos h]
    rw [e, show (j : Int) + (l : Int) = ((j + l : Nat) : Int) by omega]
    exact at_in _ _ _ _ _ h w
  · have e : sunk (nth a0 a1 a2 a3) l j = 0 := by unfold sunk; rw [if_neg h]
    rw [e]
    exact at_out _ _ _ _ _ (by omega) w

theorem carry_low (y : Nat) {d : Nat} (hd : d < 64) : y * 2 ^ (64 - d) % M64 = y % 2 ^ d * 2 ^ (64 - d) := by
  rw [M64_pow hd, Nat.mul_comm (2 ^ (64 - d)), Nat.mul_mod_mul_right]

theorem shr_or {x : Nat} (y : Nat) {d : Nat} (hx : x < M64) (hd : d < 64) :
    Go.bits .or .u64 ((x : Int) / 2 ^ d) ((y * 2 ^ (64 - d) % M64 : Nat) : Int) = ((x / 2 ^ d + y * 2 ^ (64 - d) % M64 : Nat) : Int) := by
  have hl : x / 2 ^ d < 2 ^ (64 - d) := by
    rw [M64_pow hd] at hx
    exact (Nat.div_lt_iff_lt_mul (Nat.pow_pos (by decide))).2 hx
  have h1 : x / 2 ^ d < M64 := Nat.lt_of_le_of_lt (Nat.div_le_self _ _) hx
  have h2 : y * 2 ^ (64 - d) % M64 < M64 := Nat.mod_lt _ (by decide)
  have h := or64 _ _ h1 h2
  rw [carry_low y hd, or_add _ _ _ hl, ← carry_low y hd] at h
  rw [← h]
  congr 1

set_option maxRecDepth 100000 in
set_option maxHeartbeats 1000000 in
theorem lower1_any (j l : Nat) (hj : j < 4) (hl : l ≤ 4) (ba bl bd bc a0 a1 a2 a3 d y : Nat) (w : World)
    (h : ShS ba bl bd bc a0 a1 a2 a3 l d (y * 2 ^ (64 - d) % M64) w) (hd : d < 64) (hx : sunk (nth a0 a1 a2 a3) l j < M64) :
    Calls Try.prog 84 #[.int .i64 j, .pointer (some ⟨ba, 0, none⟩), .pointer (some ⟨bl, 0, none⟩), .pointer (some ⟨bd, 0, none⟩), .pointer (some ⟨bc, 0, none⟩)] w fun e w' =>
      e = .returned (.int .u64 ((sunk (nth a0 a1 a2 a3) l j / 2 ^ d + y * 2 ^ (64 - d) % M64 : Nat) : Int)) ∧
      w'.heap[bc]? = some (.cells #[.int .u64 (sunk (nth a0 a1 a2 a3) l j * 2 ^ (64 - d) % M64 : Nat)] 22 (0, 0)) ∧ Only (fun b => b = bc) w.heap.size w w' := by
  have A := Lib.hid (at_sunk a0 a1 a2 a3 l j)
  have hw1 : IntKind.i64.wrap ((j : Int) + (l : Int)) = (j : Int) + (l : Int) := IntWalk.i64_in _ (by omega)
  have hC := h.cells
  clear hl hj
  generalize sunk (nth a0 a1 a2 a3) l j = x at *
  have hv := shr_or y hx hd
  generalize x / 2 ^ d + y * 2 ^ (64 - d) % M64 = v at *
  generalize y * 2 ^ (64 - d) % M64 = c at *
  have hq : IntKind.u64.wrap ((x : Int) * 2 ^ (64 - d)) = ((x * 2 ^ (64 - d) % M64 : Nat) : Int) := by
    rw [IntKind.wrap_u64]
    unfold M64
    simp
  generalize x * 2 ^ (64 - d) % M64 = q at *
  have H0 := Lib.hid h; clear h
  have HX := Lib.hid hx; clear hx
  go_enter Try.func84, Try.ntmps84
  go_wp2_with fail
  refine (A.out _).mono ?_
  rintro e w1 ⟨rfl, hb1⟩
  have H1 := H0.out.below hb1
  replace hC := H1.cells
  replace H1 := Lib.hid H1
  replace hb1 := Lib.hid hb1
  go_wp2_with fail
  go_region
  clear hv
  go_wp2_with fail
  go_ret
  exact ⟨rfl, one_setCell H1.out.c, (Only.setCell (may := fun b => b = bc) (Only.of_below hb1.out) (p := ⟨bc, 0, none⟩) (.inr rfl) _).drew⟩

/-- What lower's closure takes its carry from, ahead of round k; round k's limb. -/
def shrY (f : Nat → Nat) : Nat → Nat
  | 0 => 0
  | k + 1 => f (3 - k)
def shrD (f : Nat → Nat) (d k : Nat) : Nat := f (3 - k) / 2 ^ d + shrY f k * 2 ^ (64 - d) % M64

/-- 'down' over lower's closure. -/
theorem lower_down (l : Nat) (hl : l ≤ 4) (ba bl bd bc a0 a1 a2 a3 d : Nat) (hd : d < 64) (w : World)
    (h : ShS ba bl bd bc a0 a1 a2 a3 l d 0 w) (ha : ∀ k, nth a0 a1 a2 a3 k < M64) (n1 : ba ≠ bc) (n2 : bl ≠ bc) (n3 : bd ≠ bc) :
    Calls Try.prog 81 #[.func (.func 84) #[] #[.pointer (some ⟨ba, 0, none⟩), .pointer (some ⟨bl, 0, none⟩), .pointer (some ⟨bd, 0, none⟩), .pointer (some ⟨bc, 0, none⟩)]] w fun e w' =>
      e = .returned (.agg #[.int .u64 (shrD (sunk (nth a0 a1 a2 a3) l) d 3 : Nat), .int .u64 (shrD (sunk (nth a0 a1 a2 a3) l) d 2 : Nat), .int .u64 (shrD (sunk (nth a0 a1 a2 a3) l) d 1 : Nat), .int .u64 (shrD (sunk (nth a0 a1 a2 a3) l) d 0 : Nat)]) ∧
      Only (fun k => k = bc) w.heap.size w w' := by
  refine (down_any 84 _ (fun k => k = bc) (fun k ls wr => ls = (List.range k).map (shrD (sunk (nth a0 a1 a2 a3) l) d) ∧ ShS ba bl bd bc a0 a1 a2 a3 l d (shrY (sunk (nth a0 a1 a2 a3) l) k * 2 ^ (64 - d) % M64) wr) w
    (fun k hk => hk ▸ lt_of h.c) (fun i w => by kernel_rfl) ?_ ⟨rfl, by rw [show shrY (sunk (nth a0 a1 a2 a3) l) 0 = 0 from rfl, Nat.zero_mul, Nat.zero_mod]; exact h⟩ ?_).mono ?_
  · rintro k ls w1 w2 hb ⟨h1, h2⟩
    exact ⟨h1, (hb.block _ (lt_of h.a)).trans h2.a, (hb.block _ (lt_of h.l)).trans h2.l, (hb.block _ (lt_of h.d)).trans h2.d, (hb.block _ (lt_of h.c)).trans h2.c⟩
  · rintro k j ls wr hk _ _ ⟨h1, h2⟩
    have hj : 3 - k = j := by omega
    refine (lower1_any j l (by omega) hl ba bl bd bc a0 a1 a2 a3 d _ wr h2 hd (sunk_lt ha _ _)).mono ?_
    rintro e w' ⟨rfl, hc, ho⟩
    refine ⟨_, rfl, ⟨?_, (ho.block _ (lt_of h2.a) n1).trans h2.a, (ho.block _ (lt_of h2.l) n2).trans h2.l, (ho.block _ (lt_of h2.d) n3).trans h2.d, ?_⟩, ho⟩
    · rw [h1, List.range_succ, List.map_append]
      show _ ++ _ = _ ++ [shrD (sunk (nth a0 a1 a2 a3) l) d k]
      rw [shrD, hj]
    · show _ = some (Obj.cells #[.int .u64 ((sunk (nth a0 a1 a2 a3) l (3 - k) * 2 ^ (64 - d) % M64 : Nat) : Int)] _ _)
      rw [hj]
      exact hc
  · rintro e w' ⟨r0, r1, r2, r3, rfl, hs, ho⟩
    obtain ⟨rfl, rfl, rfl, rfl⟩ := four_list _ _ _ _ _ hs.1
    exact ⟨rfl, ho⟩

theorem shr_limb {x y : Nat} {d : Nat} (hx : x < M64) (hd : d < 64) : x / 2 ^ d + y * 2 ^ (64 - d) % M64 < M64 ∧ 2 ^ d * (x / 2 ^ d + y * 2 ^ (64 - d) % M64) + x % 2 ^ d = x + M64 * (y % 2 ^ d) := by
  have hp : 0 < 2 ^ d := Nat.pow_pos (by decide)
  have hl : x / 2 ^ d < 2 ^ (64 - d) := by
    rw [M64_pow hd] at hx
    exact (Nat.div_lt_iff_lt_mul hp).2 hx
  have hm : y % 2 ^ d + 1 ≤ 2 ^ d := Nat.mod_lt _ hp
  have e := Nat.div_add_mod x (2 ^ d)
  rw [carry_low y hd]
  constructor
  · have h3 := Nat.mul_le_mul_right (2 ^ (64 - d)) hm
    rw [Nat.mul_comm (2 ^ d), ← M64_pow hd, Nat.add_mul] at h3
    omega
  · have h4 : 2 ^ d * (y % 2 ^ d * 2 ^ (64 - d)) = M64 * (y % 2 ^ d) := by
      rw [M64_pow hd, Nat.mul_comm (y % 2 ^ d), ← Nat.mul_assoc, Nat.mul_comm (2 ^ d)]
    rw [Nat.mul_add, h4]
    omega

theorem sunk_sum {a a0 a1 a2 a3 l : Nat} (ha : Dig a a0 a1 a2 a3) (hl : l ≤ 4) :
    a / M64 ^ l = sunk (nth a0 a1 a2 a3) l 0 + M64 * (sunk (nth a0 a1 a2 a3) l 1 + M64 * (sunk (nth a0 a1 a2 a3) l 2 + M64 * sunk (nth a0 a1 a2 a3) l 3)) := by
  obtain ⟨h0, h1, h2, h3, rfl⟩ := ha
  have hl' : l = 0 ∨ l = 1 ∨ l = 2 ∨ l = 3 ∨ l = 4 := by omega
  rcases hl' with rfl | rfl | rfl | rfl | rfl <;> simp [sunk, nth] <;> unfold M64 at * <;> first | omega | (simp only [Nat.reducePow]; omega) | (right; omega)

theorem lower_eq {a a0 a1 a2 a3 n : Nat} (ha : Dig a a0 a1 a2 a3) (hn : n ≤ 256) :
    Dig (a / 2 ^ n) (shrD (sunk (nth a0 a1 a2 a3) (n / 64)) (n % 64) 3) (shrD (sunk (nth a0 a1 a2 a3) (n / 64)) (n % 64) 2) (shrD (sunk (nth a0 a1 a2 a3) (n / 64)) (n % 64) 1) (shrD (sunk (nth a0 a1 a2 a3) (n / 64)) (n % 64) 0) := by
  have hd : n % 64 < 64 := by omega
  have hs := sunk_sum ha (l := n / 64) (by omega)
  have hf := sunk_lt ha.nth (n / 64)
  have e : a / 2 ^ n = a / M64 ^ (n / 64) / 2 ^ (n % 64) := by
    rw [show M64 = 2 ^ 64 from rfl, ← Nat.pow_mul, Nat.div_div_eq_div_mul, ← Nat.pow_add, show 64 * (n / 64) + n % 64 = n by omega]
  rw [e, hs]
  generalize sunk (nth a0 a1 a2 a3) (n / 64) = f at *
  generalize n % 64 = d at *
  obtain ⟨l3, e3⟩ := shr_limb (y := 0) (hf 3) hd
  obtain ⟨l2, e2⟩ := shr_limb (y := f 3) (hf 2) hd
  obtain ⟨l1, e1⟩ := shr_limb (y := f 2) (hf 1) hd
  obtain ⟨l0, e0⟩ := shr_limb (y := f 1) (hf 0) hd
  change shrD f d 0 < M64 at l3
  change shrD f d 1 < M64 at l2
  change shrD f d 2 < M64 at l1
  change shrD f d 3 < M64 at l0
  change 2 ^ d * shrD f d 0 + _ = _ at e3
  change 2 ^ d * shrD f d 1 + _ = _ at e2
  change 2 ^ d * shrD f d 2 + _ = _ at e1
  change 2 ^ d * shrD f d 3 + _ = _ at e0
  refine ⟨l0, l1, l2, l3, ?_⟩
  have hp : 0 < 2 ^ d := Nat.pow_pos (by decide)
  have hm := Nat.mod_lt (f 0) hp
  have key : f 0 + M64 * (f 1 + M64 * (f 2 + M64 * f 3)) = f 0 % 2 ^ d + 2 ^ d * (shrD f d 3 + M64 * (shrD f d 2 + M64 * (shrD f d 1 + M64 * shrD f d 0))) := by
    have m : ∀ x y : Nat, 2 ^ d * (x + M64 * y) = 2 ^ d * x + M64 * (2 ^ d * y) := fun x y => by rw [Nat.mul_add, Nat.mul_left_comm]
    rw [m, m, m]
    rw [Nat.zero_mod] at e3
    generalize 2 ^ d * shrD f d 0 = p0 at *
    generalize 2 ^ d * shrD f d 1 = p1 at *
    generalize 2 ^ d * shrD f d 2 = p2 at *
    generalize 2 ^ d * shrD f d 3 = p3 at *
    generalize f 0 % 2 ^ d = s0 at *
    generalize f 1 % 2 ^ d = s1 at *
    generalize f 2 % 2 ^ d = s2 at *
    generalize f 3 % 2 ^ d = s3 at *
    clear l0 l1 l2 l3 hs hf e
    unfold M64 at *
    omega
  rw [key, Nat.add_mul_div_left _ _ hp, Nat.div_eq_of_lt hm, Nat.zero_add]

set_option maxRecDepth 100000 in
set_option maxHeartbeats 1000000 in
theorem lower_c {a a0 a1 a2 a3 n : Nat} (ha : Dig a a0 a1 a2 a3) (hn : n ≤ 256) (w : World) :
    Calls Try.prog 65 #[.agg #[.int .u64 a0, .int .u64 a1, .int .u64 a2, .int .u64 a3], .int .i64 n] w (RetL (fun s => s = a / 2 ^ n) w) := by
  have hr := Lib.hid (lower_eq ha hn)
  have hl : (n : Int) / 64 = ((n / 64 : Nat) : Int) := by omega
  have hd : (n : Int) % 64 = ((n % 64 : Nat) : Int) := by omega
  have U := Lib.hid (fun ba bl bd bc W hW n1 n2 n3 => lower_down (n / 64) (by omega) ba bl bd bc a0 a1 a2 a3 (n % 64) (by omega) W hW ha.nth n1 n2 n3)
  have h0 : (0 : Int) ≤ (n : Int) := by omega
  have hwl : wrap64 ((n / 64 : Nat) : Int) = ((n / 64 : Nat) : Int) := by unfold wrap64; omega
  have H := ((((Fx.start w).new #[.int .u64 a0, .int .u64 a1, .int .u64 a2, .int .u64 a3] 45).new #[.int .u64 0, .int .u64 0, .int .u64 0, .int .u64 0] 45).new #[.int .i64 (n / 64 : Nat)] 3).new #[.int .i64 (n % 64 : Nat)] 3
  have H := H.new #[.int .u64 0] 22
  clear ha hn
  generalize n / 64 = l at *
  generalize n % 64 = d at *
  generalize a / 2 ^ n = s at *
  generalize shrD (sunk (nth a0 a1 a2 a3) l) d 3 = r0 at *
  generalize shrD (sunk (nth a0 a1 a2 a3) l) d 2 = r1 at *
  generalize shrD (sunk (nth a0 a1 a2 a3) l) d 1 = r2 at *
  generalize shrD (sunk (nth a0 a1 a2 a3) l) d 0 = r3 at *
  go_enter Try.func65, Try.ntmps65
  go_wp2_with fail
  clear hl hd hwl h0
  refine (U.out _ _ _ _ _ ⟨(H.1.know (w.heap.size, _, _) (by simp)).2, (H.1.know (w.heap.size + 1 + 1, _, _) (by simp)).2, (H.1.know (w.heap.size + 1 + 1 + 1, _, _) (by simp)).2, (H.1.know (w.heap.size + 1 + 1 + 1 + 1, _, _) (by simp)).2⟩ (by omega) (by omega) (by omega)).mono ?_
  rintro e w1 ⟨rfl, hO⟩
  have hz := hO.size
  rw [H.2] at hz hO
  have hr4 := (hO.block (w.heap.size + 1) (by omega) (by omega)).trans (H.1.know (w.heap.size + 1, #[.int .u64 0, .int .u64 0, .int .u64 0, .int .u64 0], 45) (by simp)).2
  have hB : Below w.heap.size w w1 := H.1.below.trans (hO.below (by omega) (by intro k hk; omega))
  have hz2 : w.heap.size + 1 < w1.heap.size := by omega
  have HB := Lib.hid hB; clear hB hO hz H
  obtain ⟨⟨c0, c1, c2, c3⟩, f0, f1, f2, f3⟩ := cells4 hr4
  have Hr := Lib.hid hr4; clear hr4
  go_wp2_with fail
  exact bodyPost_ret (results_cell_row Try.results65 _ _ _ _ _ _ _ rfl (heap_set4 Hr.out _ _ _ _) Try.underlying45 rfl (by kernel_rfl)) rfl
    ⟨_, _, _, _, _, rfl, hr.out, rfl, below_set4 HB.out (by omega) _ _ _ _⟩

set_option maxRecDepth 100000 in
set_option maxHeartbeats 2000000 in
theorem Shr_c {n a b3 b2 b1 b0 a3 a2 a1 a0 : Nat} (hn : Dig n b0 b1 b2 b3) (ha : Dig a a0 a1 a2 a3) (w : World) :
    Calls Try.prog 30 #[.agg #[.int .u64 b3, .int .u64 b2, .int .u64 b1, .int .u64 b0], .agg #[.int .u64 a3, .int .u64 a2, .int .u64 a1, .int .u64 a0]] w
      (RetW (fun s => s = a / 2 ^ (min n 256)) w) := by
  have H := ((((Fx.start w).new #[.int .u64 b3, .int .u64 b2, .int .u64 b1, .int .u64 b0] 24).new #[.int .u64 a3, .int .u64 a2, .int .u64 a1, .int .u64 a0] 24).new #[.int .u64 0, .int .u64 0, .int .u64 0, .int .u64 0] 24).1
  have hP := Lib.hid (places_c hn)
  have hR := Lib.hid (lower_c ha (Nat.min_le_right n 256))
  clear hn ha
  unfold RetL at hR
  generalize a / 2 ^ (min n 256) = r at *
  generalize min n 256 = m at *
  go_enter Try.func30, Try.ntmps30
  go_wp2_with fail
  have H0 := H.drew
  have HS := Lib.hid H0.read3
  refine Drawn.startEx (fun i => i == 6) H (by kernel_rfl) ?_
  clear H
  refine Drawn.take 0 (some 5) (v := ?_) rfl rfl (by kernel_rfl) (by kernel_rfl) (by kernel_rfl) (by kernel_rfl) (by kernel_rfl) rfl (fun _ _ _ h => h) (Or.inl ⟨rfl, ?_⟩) H0 ?_
  rotate_left
  · intro W hW; have hW := HS.out W hW; go_simp; try with_reducible rfl
  simp only [put_list, List.set]
  refine Drawn.take 2 (some 7) (v := ?_) rfl rfl (by kernel_rfl) (by kernel_rfl) (by kernel_rfl) (by kernel_rfl) (by kernel_rfl) rfl (fun _ _ _ h => h) (Or.inl ⟨rfl, ?_⟩) H0 ?_
  rotate_left
  · intro W hW; have hW := HS.out W hW; go_simp; try with_reducible rfl
  simp only [put_list, List.set]
  refine Drawn.only 1 (by kernel_rfl) rfl rfl (fun K hK => ?_)
  go_simp
  refine (split_any _ _ _ _ _).mono ?_
  rintro e w1 ⟨rfl, hb⟩
  refine hK _ _ (fun _ _ => H0.call hb) ?_
  replace H0 := H0.call hb
  clear hK K hb
  refine Drawn.only 3 (by kernel_rfl) rfl rfl (fun K hK => ?_)
  go_simp
  refine (hP.out _).mono ?_
  rintro e w2 ⟨rfl, hb⟩
  refine hK _ _ (fun _ _ => H0.call hb) ?_
  replace H0 := H0.call hb
  clear hK K hb
  refine Drawn.only 4 (by kernel_rfl) rfl rfl (fun K hK => ?_)
  go_simp
  refine (hR.out _).mono ?_
  rintro e w3 ⟨s, s0, s1, s2, s3, rfl, hs, rfl, hb⟩
  refine hK _ _ (fun _ _ => H0.call hb) ?_
  replace H0 := H0.call hb
  have Hs := Lib.hid hs
  clear hK K hb hs
  refine Drawn.only 5 (by kernel_rfl) rfl rfl (fun K hK => ?_)
  go_simp
  refine (join_any _ _ _ _ _).mono ?_
  rintro e w4 ⟨rfl, hb⟩
  refine hK _ _ (fun _ _ => H0.call hb) ?_
  replace H0 := H0.call hb
  clear hK K hb
  have K0 := H0.know (_, _, _) List.mem_cons_self
  obtain ⟨⟨r0, r1, r2, r3⟩, g0, g1, g2, g3⟩ := cells4 K0.2
  replace K0 := Lib.hid K0
  refine Drawn.only 6 (by kernel_rfl) rfl rfl (fun K hK => ?_)
  go_simp
  refine hK _ _ (fun h => by simp at h) ?_
  clear hK K
  refine Drawn.done (by kernel_rfl) ?_ _
  go_wp2_with fail
  exact bodyPost_ret (results_cell_row Try.results30 _ _ _ _ _ _ _ rfl (heap_set4 K0.out.2 _ _ _ _) Try.underlying24 rfl (by kernel_rfl)) rfl
    ⟨_, _, _, _, _, rfl, Hs.out, rfl, below_set4 H0.below (by omega) _ _ _ _⟩

end Go.Proofs.Ythbfhfgmanafpaa
