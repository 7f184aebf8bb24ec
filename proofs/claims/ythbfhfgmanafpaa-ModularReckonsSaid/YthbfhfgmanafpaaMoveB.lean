/- The contracts of word.raise and Shl. -/
import Derived.Test.YthbfhfgmanafpaaPlaces
import Derived.Test.YthbfhfgmanafpaaWordT
namespace Go.Proofs.Ythbfhfgmanafpaa
open Go.RowKit
attribute [local go_sem ↓] Go.wp_at_zero Go.wp_at_succ

theorem at_lift4 (a0 a1 a2 a3 l k : Nat) (hk : k < 4) (w : World) :
    Calls Try.prog 85 #[.agg #[.int .u64 a0, .int .u64 a1, .int .u64 a2, .int .u64 a3], .int .i64 ((k : Int) - (l : Int))] w fun e w' =>
      e = .returned (.int .u64 (lifted (nth a0 a1 a2 a3) l k : Nat)) ∧ Below w.heap.size w w' := by
  by_cases h : k < l
  · have e : lifted (nth a0 a1 a2 a3) l k = 0 := by unfold lifted; rw [if_pos h]
    rw [e]
    exact at_out _ _ _ _ _ (by omega) w
  · rw [lifted_in _ _ _ _ _ _ (by omega)]
    have e : ((k : Int) - (l : Int)) = ((k - l : Nat) : Int) := by omega
    rw [e]
    exact at_in _ _ _ _ _ (by omega) w

/-- What the closures of raise and lower find in memory. -/
structure ShS (ba bl bd bc a0 a1 a2 a3 l d c : Nat) (w : World) : Prop where
  a : w.heap[ba]? = some (.cells #[.int .u64 a0, .int .u64 a1, .int .u64 a2, .int .u64 a3] 45 (0, 0))
  l : w.heap[bl]? = some (.cells #[.int .i64 l] 3 (0, 0))
  d : w.heap[bd]? = some (.cells #[.int .i64 d] 3 (0, 0))
  c : w.heap[bc]? = some (.cells #[.int .u64 c] 22 (0, 0))
theorem ShS.below {ba bl bd bc a0 a1 a2 a3 l d c : Nat} {w w1 : World} (h : ShS ba bl bd bc a0 a1 a2 a3 l d c w) (hb : Below w.heap.size w w1) : ShS ba bl bd bc a0 a1 a2 a3 l d c w1 :=
  ⟨(hb.block _ (lt_of h.a)).trans h.a, (hb.block _ (lt_of h.l)).trans h.l, (hb.block _ (lt_of h.d)).trans h.d, (hb.block _ (lt_of h.c)).trans h.c⟩
theorem ShS.cells {ba bl bd bc a0 a1 a2 a3 l d c : Nat} {w : World} (h : ShS ba bl bd bc a0 a1 a2 a3 l d c w) :
    (w.cell? ⟨ba, 0, none⟩ = some (.int .u64 a0) ∧ w.cell? ⟨ba, 1, none⟩ = some (.int .u64 a1) ∧ w.cell? ⟨ba, 2, none⟩ = some (.int .u64 a2) ∧ w.cell? ⟨ba, 3, none⟩ = some (.int .u64 a3)) ∧
      w.cell? ⟨bl, 0, none⟩ = some (.int .i64 l) ∧ w.cell? ⟨bd, 0, none⟩ = some (.int .i64 d) ∧ w.cell? ⟨bc, 0, none⟩ = some (.int .u64 c) ∧ w.frozen? ⟨bc, 0, none⟩ = false :=
  ⟨(cells4 h.a).1, (cell_of h.l 0).trans rfl, (cell_of h.d 0).trans rfl, (cell_of h.c 0).trans rfl, free_of h.c 0⟩

theorem shl_or (x : Nat) {d c : Nat} (hd : d < 64) (hc : c < 2 ^ d) :
    Go.bits .or .u64 (IntKind.u64.wrap ((x : Int) * 2 ^ d)) (c : Int) = ((x * 2 ^ d % M64 + c : Nat) : Int) := by
  have h2 : M64 = 2 ^ (64 - d) * 2 ^ d := by
    rw [← Nat.pow_add, show 64 - d + d = 64 by omega]; rfl
  have e1 : IntKind.u64.wrap ((x : Int) * 2 ^ d) = ((x * 2 ^ d % M64 : Nat) : Int) := by
    rw [IntKind.wrap_u64]
    unfold M64
    simp
  have hlt : x * 2 ^ d % M64 < M64 := Nat.mod_lt _ (by decide)
  have hcl : c < M64 := by
    have : 2 ^ d ≤ 2 ^ 64 := Nat.pow_le_pow_right (by decide) (by omega)
    unfold M64; omega
  rw [e1, or64 _ _ hlt hcl]
  congr 1
  rw [h2, Nat.mul_mod_mul_right, Nat.or_comm, or_add _ _ _ hc, Nat.add_comm]

set_option maxRecDepth 100000 in
set_option maxHeartbeats 1000000 in
theorem raise1_any (k l : Nat) (hk : k < 4) (hl : l ≤ 4) (ba bl bd bc a0 a1 a2 a3 d c : Nat) (w : World)
    (h : ShS ba bl bd bc a0 a1 a2 a3 l d c w) (hd : d < 64) (hx : lifted (nth a0 a1 a2 a3) l k < M64) (hc : c < 2 ^ d) :
    Calls Try.prog 90 #[.int .i64 k, .pointer (some ⟨ba, 0, none⟩), .pointer (some ⟨bl, 0, none⟩), .pointer (some ⟨bd, 0, none⟩), .pointer (some ⟨bc, 0, none⟩)] w fun e w' =>
      e = .returned (.int .u64 ((lifted (nth a0 a1 a2 a3) l k * 2 ^ d % M64 + c : Nat) : Int)) ∧
      w'.heap[bc]? = some (.cells #[.int .u64 (lifted (nth a0 a1 a2 a3) l k / 2 ^ (64 - d) : Nat)] 22 (0, 0)) ∧ Only (fun b => b = bc) w.heap.size w w' := by
  have A := Lib.hid (at_lift4 a0 a1 a2 a3 l k hk)
  have hw1 : IntKind.i64.wrap ((k : Int) - (l : Int)) = (k : Int) - (l : Int) := IntWalk.i64_in _ (by omega)
  have hC := h.cells
  have H0 := Lib.hid h; clear h
  clear hl
  generalize lifted (nth a0 a1 a2 a3) l k = x at *
  have hv := shl_or x hd hc
  generalize x * 2 ^ d % M64 + c = v at *
  have HX := Lib.hid hx; have HC := Lib.hid hc; clear hx hc
  go_enter Try.func90, Try.ntmps90
  go_wp2_with fail
  refine (A.out _).mono ?_
  rintro e w1 ⟨rfl, hb1⟩
  have H1 := H0.out.below hb1
  replace hC := H1.cells
  replace H1 := Lib.hid H1
  replace hb1 := Lib.hid hb1
  go_wp2_with fail
  go_region
  clear hv
  go_wp2_with fail
  go_ret
  have e1 : ((x : Int) / 2 ^ (64 - d)) = ((x / 2 ^ (64 - d) : Nat) : Int) := by simp
  rw [e1]
  exact ⟨rfl, one_setCell H1.out.c, (Only.setCell (may := fun b => b = bc) (Only.of_below hb1.out) (p := ⟨bc, 0, none⟩) (.inr rfl) _).drew⟩

/-- What is carried into limb k when f is moved up by d bits; and limb k. -/
def shlC (f : Nat → Nat) (d : Nat) : Nat → Nat
  | 0 => 0
  | k + 1 => f k / 2 ^ (64 - d)
def shlD (f : Nat → Nat) (d k : Nat) : Nat := f k * 2 ^ d % M64 + shlC f d k
theorem M64_pow {d : Nat} (hd : d < 64) : M64 = 2 ^ (64 - d) * 2 ^ d := by
  rw [← Nat.pow_add, show 64 - d + d = 64 by omega]; rfl
theorem shlC_lt {f : Nat → Nat} (hf : ∀ k, f k < M64) {d : Nat} (hd : d < 64) (k : Nat) : shlC f d k < 2 ^ d := by
  cases k with
  | zero => exact Nat.pow_pos (by decide)
  | succ k =>
    have h := hf k
    rw [M64_pow hd, Nat.mul_comm] at h
    exact (Nat.div_lt_iff_lt_mul (Nat.pow_pos (by decide))).2 h
theorem shl_step (f : Nat → Nat) {d : Nat} (hd : d < 64) (k : Nat) : f k * 2 ^ d + shlC f d k = shlD f d k + M64 * shlC f d (k + 1) := by
  have h := Nat.mod_add_div (f k * 2 ^ d) M64
  have e : f k * 2 ^ d / M64 = f k / 2 ^ (64 - d) := by
    rw [M64_pow hd, Nat.mul_div_mul_right _ _ (Nat.pow_pos (by decide))]
  rw [e] at h
  unfold shlD
  show _ = _ + M64 * (f k / 2 ^ (64 - d))
  omega
theorem shlD_lt {f : Nat → Nat} (hf : ∀ k, f k < M64) {d : Nat} (hd : d < 64) (k : Nat) : shlD f d k < M64 := by
  have h := shlC_lt hf hd k
  have e : f k * 2 ^ d % M64 = f k % 2 ^ (64 - d) * 2 ^ d := by rw [M64_pow hd, Nat.mul_mod_mul_right]
  have hl : f k % 2 ^ (64 - d) + 1 ≤ 2 ^ (64 - d) := Nat.mod_lt _ (Nat.pow_pos (by decide))
  have h3 := Nat.mul_le_mul_right (2 ^ d) hl
  rw [← M64_pow hd, Nat.add_mul] at h3
  unfold shlD
  omega

theorem raise_digits {a a0 a1 a2 a3 l d : Nat} (ha : Dig a a0 a1 a2 a3) (hl : l ≤ 4) (hd : d < 64) :
    ∃ r q, Dig r (shlD (lifted (nth a0 a1 a2 a3) l) d 0) (shlD (lifted (nth a0 a1 a2 a3) l) d 1) (shlD (lifted (nth a0 a1 a2 a3) l) d 2) (shlD (lifted (nth a0 a1 a2 a3) l) d 3) ∧
      a * 2 ^ d * M64 ^ l = r + W256 * q := by
  have hf := lifted_lt ha.nth l
  have e0 := shl_step (lifted (nth a0 a1 a2 a3) l) hd 0
  have e1 := shl_step (lifted (nth a0 a1 a2 a3) l) hd 1
  have e2 := shl_step (lifted (nth a0 a1 a2 a3) l) hd 2
  have e3 := shl_step (lifted (nth a0 a1 a2 a3) l) hd 3
  have z : shlC (lifted (nth a0 a1 a2 a3) l) d 0 = 0 := rfl
  rw [z] at e0
  have hD : Dig _ _ _ _ _ := ⟨shlD_lt hf hd 0, shlD_lt hf hd 1, shlD_lt hf hd 2, shlD_lt hf hd 3, rfl⟩
  obtain ⟨_, _, _, _, rfl⟩ := ha
  clear hf
  have hd0 : (a0 + M64 * (a1 + M64 * (a2 + M64 * a3))) * 2 ^ d = a0 * 2 ^ d + M64 * (a1 * 2 ^ d + M64 * (a2 * 2 ^ d + M64 * (a3 * 2 ^ d))) := by
    simp only [Nat.add_mul, Nat.mul_assoc]
  rw [hd0]
  generalize shlC (lifted (nth a0 a1 a2 a3) l) d (0 + 1) = k1 at *
  generalize shlC (lifted (nth a0 a1 a2 a3) l) d (1 + 1) = k2 at *
  generalize shlC (lifted (nth a0 a1 a2 a3) l) d (2 + 1) = k3 at *
  generalize shlC (lifted (nth a0 a1 a2 a3) l) d (3 + 1) = k4 at *
  generalize shlD (lifted (nth a0 a1 a2 a3) l) d 0 = r0 at *
  generalize shlD (lifted (nth a0 a1 a2 a3) l) d 1 = r1 at *
  generalize shlD (lifted (nth a0 a1 a2 a3) l) d 2 = r2 at *
  generalize shlD (lifted (nth a0 a1 a2 a3) l) d 3 = r3 at *
  refine ⟨_, if l = 0 then k4 else if l = 1 then k4 + a3 * 2 ^ d else if l = 2 then k4 + a2 * 2 ^ d + M64 * (a3 * 2 ^ d) else if l = 3 then k4 + a1 * 2 ^ d + M64 * (a2 * 2 ^ d) + M64 * M64 * (a3 * 2 ^ d)
    else k4 + a0 * 2 ^ d + M64 * (a1 * 2 ^ d) + M64 * M64 * (a2 * 2 ^ d) + M64 * M64 * M64 * (a3 * 2 ^ d), hD, ?_⟩
  clear hD z hd0
  generalize hb0 : a0 * 2 ^ d = p0 at *
  generalize hb1 : a1 * 2 ^ d = p1 at *
  generalize hb2 : a2 * 2 ^ d = p2 at *
  generalize hb3 : a3 * 2 ^ d = p3 at *
  have hl' : l = 0 ∨ l = 1 ∨ l = 2 ∨ l = 3 ∨ l = 4 := by omega
  rcases hl' with rfl | rfl | rfl | rfl | rfl <;> simp [lifted, nth, hb0, hb1, hb2, hb3] at e0 e1 e2 e3 ⊢ <;> clear hb0 hb1 hb2 hb3 hd hl <;> unfold W256 M64 at * <;> omega

theorem mod_of' {s n q : Nat} (hs : s < W256) (h : n = s + W256 * q) : s = n % W256 := by
  rw [h, Nat.add_mul_mod_self_left, Nat.mod_eq_of_lt hs]

theorem raise_eq {a a0 a1 a2 a3 n : Nat} (ha : Dig a a0 a1 a2 a3) (hn : n ≤ 256) :
    Dig (a * 2 ^ n % W256) (shlD (lifted (nth a0 a1 a2 a3) (n / 64)) (n % 64) 0) (shlD (lifted (nth a0 a1 a2 a3) (n / 64)) (n % 64) 1) (shlD (lifted (nth a0 a1 a2 a3) (n / 64)) (n % 64) 2) (shlD (lifted (nth a0 a1 a2 a3) (n / 64)) (n % 64) 3) := by
  obtain ⟨r, q, hr, hq⟩ := raise_digits ha (l := n / 64) (d := n % 64) (by omega) (by omega)
  have e : a * 2 ^ (n % 64) * M64 ^ (n / 64) = a * 2 ^ n := by
    rw [Nat.mul_assoc, show M64 = 2 ^ 64 from rfl, ← Nat.pow_mul, ← Nat.pow_add, show n % 64 + 64 * (n / 64) = n by omega]
  rw [e] at hq
  rw [← mod_of' hr.lt hq]
  exact hr

/-- 'up' over raise's closure. -/
theorem raise_up (l : Nat) (hl : l ≤ 4) (ba bl bd bc a0 a1 a2 a3 d : Nat) (hd : d < 64) (w : World)
    (h : ShS ba bl bd bc a0 a1 a2 a3 l d 0 w) (ha : ∀ k, nth a0 a1 a2 a3 k < M64) (n1 : ba ≠ bc) (n2 : bl ≠ bc) (n3 : bd ≠ bc) :
    Calls Try.prog 74 #[.func (.func 90) #[] #[.pointer (some ⟨ba, 0, none⟩), .pointer (some ⟨bl, 0, none⟩), .pointer (some ⟨bd, 0, none⟩), .pointer (some ⟨bc, 0, none⟩)]] w fun e w' =>
      e = .returned (.agg #[.int .u64 (shlD (lifted (nth a0 a1 a2 a3) l) d 0 : Nat), .int .u64 (shlD (lifted (nth a0 a1 a2 a3) l) d 1 : Nat), .int .u64 (shlD (lifted (nth a0 a1 a2 a3) l) d 2 : Nat), .int .u64 (shlD (lifted (nth a0 a1 a2 a3) l) d 3 : Nat)]) ∧
      Only (fun k => k = bc) w.heap.size w w' := by
  refine (up_any 90 _ (fun k => k = bc) (fun k ls wr => ls = (List.range k).map (shlD (lifted (nth a0 a1 a2 a3) l) d) ∧ ShS ba bl bd bc a0 a1 a2 a3 l d (shlC (lifted (nth a0 a1 a2 a3) l) d k) wr) w
    (fun k hk => hk ▸ lt_of h.c) (fun i w => by kernel_rfl) ?_ ⟨rfl, h⟩ ?_).mono ?_
  · rintro k ls w1 w2 hb ⟨h1, h2⟩
    exact ⟨h1, (hb.block _ (lt_of h.a)).trans h2.a, (hb.block _ (lt_of h.l)).trans h2.l, (hb.block _ (lt_of h.d)).trans h2.d, (hb.block _ (lt_of h.c)).trans h2.c⟩
  · rintro k ls wr hk _ _ ⟨h1, h2⟩
    refine (raise1_any k l hk hl ba bl bd bc a0 a1 a2 a3 d _ wr h2 hd (lifted_lt ha _ _) (shlC_lt (lifted_lt ha l) hd k)).mono ?_
    rintro e w' ⟨rfl, hc, ho⟩
    exact ⟨_, rfl, ⟨by rw [h1, List.range_succ, List.map_append]; rfl, (ho.block _ (lt_of h2.a) n1).trans h2.a, (ho.block _ (lt_of h2.l) n2).trans h2.l, (ho.block _ (lt_of h2.d) n3).trans h2.d, hc⟩, ho⟩
  · rintro e w' ⟨r0, r1, r2, r3, rfl, hs, ho⟩
    obtain ⟨rfl, rfl, rfl, rfl⟩ := four_list _ _ _ _ _ hs.1
    exact ⟨rfl, ho⟩

set_option maxRecDepth 100000 in
set_option maxHeartbeats 1000000 in
theorem raise_c {a a0 a1 a2 a3 n : Nat} (ha : Dig a a0 a1 a2 a3) (hn : n ≤ 256) (w : World) :
    Calls Try.prog 71 #[.agg #[.int .u64 a0, .int .u64 a1, .int .u64 a2, .int .u64 a3], .int .i64 n] w (RetL (fun s => s = a * 2 ^ n % W256) w) := by
  have hr := Lib.hid (raise_eq ha hn)
  have hl : (n : Int) / 64 = ((n / 64 : Nat) : Int) := by omega
  have hd : (n : Int) % 64 = ((n % 64 : Nat) : Int) := by omega
  have U := Lib.hid (fun ba bl bd bc W hW n1 n2 n3 => raise_up (n / 64) (by omega) ba bl bd bc a0 a1 a2 a3 (n % 64) (by omega) W hW ha.nth n1 n2 n3)
  have h0 : (0 : Int) ≤ (n : Int) := by omega
  have hwl : wrap64 ((n / 64 : Nat) : Int) = ((n / 64 : Nat) : Int) := by unfold wrap64; omega
  have H := ((((Fx.start w).new #[.int .u64 a0, .int .u64 a1, .int .u64 a2, .int .u64 a3] 45).new #[.int .u64 0, .int .u64 0, .int .u64 0, .int .u64 0] 45).new #[.int .i64 (n / 64 : Nat)] 3).new #[.int .i64 (n % 64 : Nat)] 3
  have H := H.new #[.int .u64 0] 22
  clear ha hn
  generalize n / 64 = l at *
  generalize n % 64 = d at *
  generalize a * 2 ^ n % W256 = s at *
  generalize shlD (lifted (nth a0 a1 a2 a3) l) d 0 = r0 at *
  generalize shlD (lifted (nth a0 a1 a2 a3) l) d 1 = r1 at *
  generalize shlD (lifted (nth a0 a1 a2 a3) l) d 2 = r2 at *
  generalize shlD (lifted (nth a0 a1 a2 a3) l) d 3 = r3 at *
  go_enter Try.func71, Try.ntmps71
  go_wp2_with fail
  clear hl hd hwl h0
  refine (U.out _ _ _ _ _ ⟨(H.1.know (w.heap.size, _, _) (by simp)).2, (H.1.know (w.heap.size + 1 + 1, _, _) (by simp)).2, (H.1.know (w.heap.size + 1 + 1 + 1, _, _) (by simp)).2, (H.1.know (w.heap.size + 1 + 1 + 1 + 1, _, _) (by simp)).2⟩ (by omega) (by omega) (by omega)).mono ?_
  rintro e w1 ⟨rfl, hO⟩
  have hz := hO.size
  rw [H.2] at hz hO
  have hr4 := (hO.block (w.heap.size + 1) (by omega) (by omega)).trans (H.1.know (w.heap.size + 1, #[.int .u64 0, .int .u64 0, .int .u64 0, .int .u64 0], 45) (by simp)).2
  have hB : Below w.heap.size w w1 := H.1.below.trans (hO.below (by omega) (by intro k hk; omega))
  have hz2 : w.heap.size + 1 < w1.heap.size := by omega
  have HB := Lib.hid hB; clear hB hO hz H
  obtain ⟨⟨c0, c1, c2, c3⟩, f0, f1, f2, f3⟩ := cells4 hr4
  have Hr := Lib.hid hr4; clear hr4
  go_wp2_with fail
  exact bodyPost_ret (results_cell_row Try.results71 _ _ _ _ _ _ _ rfl (heap_set4 Hr.out _ _ _ _) Try.underlying45 rfl (by kernel_rfl)) rfl
    ⟨_, _, _, _, _, rfl, hr.out, rfl, below_set4 HB.out (by omega) _ _ _ _⟩

end Go.Proofs.Ythbfhfgmanafpaa
