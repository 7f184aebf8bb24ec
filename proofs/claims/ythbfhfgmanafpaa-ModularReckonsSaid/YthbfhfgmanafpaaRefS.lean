/- The contract of the reference's Divide. -/
import Derived.Test.YthbfhfgmanafpaaRefR
import Derived.StillTailTactics
namespace Go.Proofs.Ythbfhfgmanafpaa
open Go.RowKit Go.Joins

theorem i64_and_n (a b : Nat) (ha : a < 9223372036854775808) (hb : b < 9223372036854775808) : Go.bits .and .i64 (a : Int) (b : Int) = ((a &&& b : Nat) : Int) := by
  have hx : a &&& b < 2 ^ 63 := Nat.and_lt_two_pow _ (by omega)
  show IntKind.i64.wrap ((BitVec.ofInt 64 (a : Int) &&& BitVec.ofInt 64 (b : Int)).toNat : Int) = _
  rw [BitVec.toNat_and, ofInt_u64 a (by omega), ofInt_u64 b (by omega), IntKind.wrap_i64]
  omega
theorem i64_or_n (a b : Nat) (ha : a < 9223372036854775808) (hb : b < 9223372036854775808) : Go.bits .or .i64 (a : Int) (b : Int) = ((a ||| b : Nat) : Int) := by
  have hx : a ||| b < 2 ^ 63 := Nat.or_lt_two_pow (by omega) (by omega)
  show IntKind.i64.wrap ((BitVec.ofInt 64 (a : Int) ||| BitVec.ofInt 64 (b : Int)).toNat : Int) = _
  rw [BitVec.toNat_or, ofInt_u64 a (by omega), ofInt_u64 b (by omega), IntKind.wrap_i64]
  omega
theorem pow_i64 {s : Nat} (h : s < 8) : IntKind.i64.wrap ((2 : Int) ^ s) = ((2 ^ s : Nat) : Int) ∧ wrap64 ((2 : Int) ^ s) = ((2 ^ s : Nat) : Int) ∧ 2 ^ s ≤ 128 := by
  rcases (by omega : s = 0 ∨ s = 1 ∨ s = 2 ∨ s = 3 ∨ s = 4 ∨ s = 5 ∨ s = 6 ∨ s = 7) with rfl | rfl | rfl | rfl | rfl | rfl | rfl | rfl <;> decide +kernel
theorem results_tmp_cell {P : Program} {fn : Func} {p q : Tmp} {ty : TypeId} (h : fn.results = #[.tmp q, .cell p ty]) (tmps : Array Value) (w : World) (g : Nat) (t : TypeId) (cs : Array Value) (fr : Nat × Nat) (d : TypeDesc) (v : Value)
    (hp : tmps.getD p undef = .pointer (some ⟨g, 0, none⟩)) (hq : tmps.getD q undef = v) (hg : w.heap[g]? = some (.cells cs t fr))
    (hu : P.underlying ty = some d) (hd : (match d with | .struct _ | .array _ _ => true | _ => false) = true) (hi : (P.info? ty).map (·.size) = some cs.size) :
    (results fn tmps).run P w = .ok (.tuple #[v, .agg cs]) w := by
  have hp' : tmps[p]?.getD undef = .pointer (some ⟨g, 0, none⟩) := by simpa using hp
  have hq' : tmps[q]?.getD undef = v := by simpa using hq
  simp [results, h, hp', hq', asAddr, run_loadVar_row w g t ty cs fr d hg hu hd hi]

/-- What Divide knows ahead of bit t. -/
structure DS (w : World) (n x y b0 b1 b2 b3 t r0 r1 r2 r3 : Nat) (W : World) : Prop where
  below : Below w.heap.size w W
  dig : Dig (x / 2 ^ t % y) r0 r1 r2 r3
  box : W.heap[w.heap.size]? = some (.cells #[.int .u64 b3, .int .u64 b2, .int .u64 b1, .int .u64 b0] 24 (0, 0))
  res : W.heap[w.heap.size + 1]? = some (.cells #[.int .u64 0, .int .u64 0, .int .u64 0, .int .u64 0] 24 (0, 0))
  row : W.heap[w.heap.size + 1 + 1]? = some (.cells (iblk n (byteOf (keepN (x / y) t))) 3 (0, 0))
  rst : W.heap[w.heap.size + 1 + 1 + 1]? = some (.cells #[.int .u64 r3, .int .u64 r2, .int .u64 r1, .int .u64 r0] 24 (0, 0))

/-- Inside a round: the rest is doubled, and has the next bit. -/
structure DM (w : World) (n x y b0 b1 b2 b3 i n0 n1 n2 n3 : Nat) (W : World) : Prop where
  below : Below w.heap.size w W
  box : W.heap[w.heap.size]? = some (.cells #[.int .u64 b3, .int .u64 b2, .int .u64 b1, .int .u64 b0] 24 (0, 0))
  res : W.heap[w.heap.size + 1]? = some (.cells #[.int .u64 0, .int .u64 0, .int .u64 0, .int .u64 0] 24 (0, 0))
  row : W.heap[w.heap.size + 1 + 1]? = some (.cells (iblk n (byteOf (keepN (x / y) (i + 1)))) 3 (0, 0))
  rst : W.heap[w.heap.size + 1 + 1 + 1]? = some (.cells #[.int .u64 n3, .int .u64 n2, .int .u64 n1, .int .u64 n0] 24 (0, 0))
theorem DM.set {w W : World} {n x y b0 b1 b2 b3 i n0 n1 n2 n3 m0 m1 m2 m3 : Nat} (h : DM w n x y b0 b1 b2 b3 i n0 n1 n2 n3 W) :
    DM w n x y b0 b1 b2 b3 i m0 m1 m2 m3 ((((W.setCell ⟨w.heap.size + 1 + 1 + 1, 0, none⟩ (.int .u64 m3)).setCell ⟨w.heap.size + 1 + 1 + 1, 1, none⟩ (.int .u64 m2)).setCell ⟨w.heap.size + 1 + 1 + 1, 2, none⟩ (.int .u64 m1)).setCell ⟨w.heap.size + 1 + 1 + 1, 3, none⟩ (.int .u64 m0)) :=
  ⟨(below_set4 h.below (by omega) _ _ _ _), (heap_far (by omega) _ _ _ _).trans h.box, (heap_far (by omega) _ _ _ _).trans h.res, (heap_far (by omega) _ _ _ _).trans h.row, heap_set4 h.rst _ _ _ _⟩
theorem DM.drew {w W : World} {n x y b0 b1 b2 b3 i n0 n1 n2 n3 : Nat} (h : DM w n x y b0 b1 b2 b3 i n0 n1 n2 n3 W) : DM w n x y b0 b1 b2 b3 i n0 n1 n2 n3 W.drew := ⟨h.below.drew, h.box, h.res, h.row, h.rst⟩
theorem DS.mid {w W : World} {n x y b0 b1 b2 b3 i r0 r1 r2 r3 : Nat} (h : DS w n x y b0 b1 b2 b3 (i + 1) r0 r1 r2 r3 W) (n0 n1 n2 n3 : Nat) :
    DM w n x y b0 b1 b2 b3 i n0 n1 n2 n3 ((((W.setCell ⟨w.heap.size + 1 + 1 + 1, 0, none⟩ (.int .u64 n3)).setCell ⟨w.heap.size + 1 + 1 + 1, 1, none⟩ (.int .u64 n2)).setCell ⟨w.heap.size + 1 + 1 + 1, 2, none⟩ (.int .u64 n1)).setCell ⟨w.heap.size + 1 + 1 + 1, 3, none⟩ (.int .u64 n0)).drew :=
  have h2 : DM w n x y b0 b1 b2 b3 i r0 r1 r2 r3 W := ⟨h.below, h.box, h.res, h.row, h.rst⟩
  h2.set.drew
theorem DM.call {w W W' : World} {n x y b0 b1 b2 b3 i n0 n1 n2 n3 : Nat} (h : DM w n x y b0 b1 b2 b3 i n0 n1 n2 n3 W) (hb : Below W.heap.size W W') : DM w n x y b0 b1 b2 b3 i n0 n1 n2 n3 W' :=
  ⟨h.below.trans (hb.mono h.below.size), (hb.block _ (lt_of h.box)).trans h.box, (hb.block _ (lt_of h.res)).trans h.res, (hb.block _ (lt_of h.row)).trans h.row, (hb.block _ (lt_of h.rst)).trans h.rst⟩
theorem DM.less {w W : World} {n x y b0 b1 b2 b3 i n0 n1 n2 n3 : Nat} (h : DM w n x y b0 b1 b2 b3 i n0 n1 n2 n3 W) (hd : Dig (x / 2 ^ i % y) n0 n1 n2 n3) (hb : (x / y).testBit i = false) : DS w n x y b0 b1 b2 b3 i n0 n1 n2 n3 W :=
  ⟨h.below, hd, h.box, h.res, by rw [keep_same hb]; exact h.row, h.rst⟩
theorem DS.fin {w W : World} {n x y b0 b1 b2 b3 r0 r1 r2 r3 : Nat} (h : DS w n x y b0 b1 b2 b3 0 r0 r1 r2 r3 W) {W' : World}
    (hW : W' = ((((W.setCell ⟨w.heap.size + 1, 0, none⟩ (.int .u64 r3)).setCell ⟨w.heap.size + 1, 1, none⟩ (.int .u64 r2)).setCell ⟨w.heap.size + 1, 2, none⟩ (.int .u64 r1)).setCell ⟨w.heap.size + 1, 3, none⟩ (.int .u64 r0)).drew) :
    BytesRow W' (.slice (some ⟨w.heap.size + 1 + 1, 0, none⟩) n n) n (byteOf (x / y)) ∧ Below w.heap.size w W' ∧ W'.heap[w.heap.size + 1]? = some (.cells #[.int .u64 r3, .int .u64 r2, .int .u64 r1, .int .u64 r0] 24 (0, 0)) := by
  subst hW
  have hr : ((((W.setCell ⟨w.heap.size + 1, 0, none⟩ (.int .u64 r3)).setCell ⟨w.heap.size + 1, 1, none⟩ (.int .u64 r2)).setCell ⟨w.heap.size + 1, 2, none⟩ (.int .u64 r1)).setCell ⟨w.heap.size + 1, 3, none⟩ (.int .u64 r0)).heap[w.heap.size + 1 + 1]? = _ := (heap_far (by omega) _ _ _ _).trans h.row
  have hs := heap_set4 h.res (.int .u64 r3) (.int .u64 r2) (.int .u64 r1) (.int .u64 r0)
  have hb := below_set4 h.below (show w.heap.size ≤ w.heap.size + 1 by omega) (.int .u64 r3) (.int .u64 r2) (.int .u64 r1) (.int .u64 r0)
  generalize (((W.setCell ⟨w.heap.size + 1, 0, none⟩ (.int .u64 r3)).setCell ⟨w.heap.size + 1, 1, none⟩ (.int .u64 r2)).setCell ⟨w.heap.size + 1, 2, none⟩ (.int .u64 r1)).setCell ⟨w.heap.size + 1, 3, none⟩ (.int .u64 r0) = W1 at *
  refine ⟨⟨_, _, rfl, lt_of hr, fun j hj => ?_⟩, hb.drew, hs⟩
  show W1.cell? _ = _
  rw [cell_of hr, iblk_at _ hj, keep_all]
theorem DM.more {w W : World} {n x y b0 b1 b2 b3 i n0 n1 n2 n3 : Nat} (h : DM w n x y b0 b1 b2 b3 i n0 n1 n2 n3 W) (hd : Dig (x / 2 ^ i % y) n0 n1 n2 n3) (hb : (x / y).testBit i = true) :
    DS w n x y b0 b1 b2 b3 i n0 n1 n2 n3 (W.setCell ⟨w.heap.size + 1 + 1, i / 8, none⟩ (.int .i64 (byteOf (keepN (x / y) (i + 1)) (i / 8) ||| 2 ^ (i % 8) : Nat))).drew := by
  refine ⟨(h.below.setCell (by show w.heap.size ≤ w.heap.size + 1 + 1; omega) _).drew, hd, (heap_setCell_other _ _ _ _ (by simp <;> omega)).trans h.box, (heap_setCell_other _ _ _ _ (by simp <;> omega)).trans h.res, ?_, (heap_setCell_other _ _ _ _ (by simp <;> omega)).trans h.rst⟩
  refine (heap_setCell_same _ _ _ _ _ _ h.row).trans ?_
  rw [iblk_set]
  congr 2
  exact iblk_congr fun j _ => (keep_bit hb j).symm

set_option maxRecDepth 100000 in
set_option maxHeartbeats 3000000 in
theorem Divide_c {n x y b0 b1 b2 b3 : Nat} {va : Value} (hn : n = 32 ∨ n = 33 ∨ n = 64) (hx : x < 256 ^ n) (hy : Dig y b0 b1 b2 b3) (hy0 : 0 < y) (w : World) (hv : BytesRow w va n (byteOf x)) :
    Calls Try.prog 67 #[va, .agg #[.int .u64 b3, .int .u64 b2, .int .u64 b1, .int .u64 b0]] w fun e w' => ∃ r0 r1 r2 r3 : Nat, e = .returned (.tuple #[.slice (some ⟨w.heap.size + 1 + 1, 0, none⟩) n n, .agg #[.int .u64 (r3 : Nat), .int .u64 (r2 : Nat), .int .u64 (r1 : Nat), .int .u64 (r0 : Nat)]]) ∧ BytesRow w' (.slice (some ⟨w.heap.size + 1 + 1, 0, none⟩) n n) n (byteOf (x / y)) ∧ Dig (x % y) r0 r1 r2 r3 ∧ Below w.heap.size w w' := by
  obtain ⟨ga, ca, rfl, hga, hca⟩ := hv
  have HCA := Lib.hid hca
  clear hca
  have hmk : ∀ w : World, (Instr.makeSlice 39 (.int .i64 (n : Int)) (.int .i64 (n : Int))).run Try.prog w = .ok (.slice (some ⟨w.heap.size, 0, none⟩) n n) (w.alloc (.cells (iblk n fun _ => 0) 3)) := fun _ => by
    rcases hn with rfl | rfl | rfl <;> kernel_rfl
  have hn64 : n ≤ 64 ∧ 32 ≤ n := by omega
  clear hn
  have hx2 : x < 2 ^ (8 * n) := by rw [Nat.pow_mul]; exact hx
  have HX := Lib.hid hx; have HX2 := Lib.hid hx2; have HY := Lib.hid hy
  clear hx hx2 hy
  have H0 := Lib.hid (show DS w n x y b0 b1 b2 b3 (8 * n) 0 0 0 0 (((((w.alloc (.cells #[.int .u64 b3, .int .u64 b2, .int .u64 b1, .int .u64 b0] 24)).alloc (.cells #[.int .u64 0, .int .u64 0, .int .u64 0, .int .u64 0] 24)).alloc (.cells (iblk n fun _ => 0) 3)).alloc (.cells #[.int .u64 0, .int .u64 0, .int .u64 0, .int .u64 0] 24))) from by
    have F := (((((Fx.start w).new #[.int .u64 b3, .int .u64 b2, .int .u64 b1, .int .u64 b0] 24).new #[.int .u64 0, .int .u64 0, .int .u64 0, .int .u64 0] 24).new (iblk n fun _ => 0) 3).new #[.int .u64 0, .int .u64 0, .int .u64 0, .int .u64 0] 24).1
    refine ⟨F.below, ?_, (F.know _ (.tail _ (.tail _ (.tail _ (.head _))))).2, (F.know _ (.tail _ (.tail _ (.head _)))).2, ?_, (F.know _ (.head _)).2⟩
    · rw [Nat.div_eq_of_lt HX2.out, Nat.zero_mod]
      exact ⟨by decide, by decide, by decide, by decide, rfl⟩
    · refine (F.know _ (.tail _ (.head _))).2.trans ?_
      rw [keep_none (Nat.lt_of_le_of_lt (Nat.div_le_self _ _) HX2.out), iblk_congr (g := byteOf 0) fun j _ => by simp [byteOf]])
  go_enter Try.func67, Try.ntmps67
  go_wp2_with fail
  go_loopw [8] (fun i wr => ∃ (t : Nat) (z : Int) (r0 r1 r2 r3 : Nat), i = .int .i64 z ∧ z = (t : Int) - 1 ∧ t ≤ 8 * n ∧ DS w n x y b0 b1 b2 b3 t r0 r1 r2 r3 wr) (fun i _ => (intOf i + 1).toNat)
  case atStart => exact ⟨8 * n, _, 0, 0, 0, 0, rfl, by omega, by omega, H0.out⟩
  case round =>
    clear H0 hmk
    obtain ⟨t, z, r0, r1, r2, r3, rfl, hz, ht, hS⟩ := hrel
    rcases t with _ | i
    · have hz1 : z = -1 := by omega
      subst hz1
      have HS := Lib.hid hS
      clear hz ht hS
      have HDG := Lib.hid (show Dig (x % y) r0 r1 r2 r3 from by have h := HS.out.dig; rwa [Nat.pow_zero, Nat.div_one] at h)
      obtain ⟨⟨c0, c1, c2, c3⟩, f0, f1, f2, f3⟩ := cells4 HS.out.rst
      obtain ⟨⟨d0, d1, d2, d3⟩, g0, g1, g2, g3⟩ := cells4 HS.out.res
      have HF := Lib.hid (fun W' hW => HS.out.fin (W' := W') hW)
      clear HS
      go_wp2_with fail
      go_region
      go_wp2_with fail
      generalize hW : (((wr.setCell ⟨w.heap.size + 1, 0, none⟩ (.int .u64 (r3 : Nat))).setCell ⟨w.heap.size + 1, 1, none⟩ (.int .u64 (r2 : Nat))).setCell ⟨w.heap.size + 1, 2, none⟩ (.int .u64 (r1 : Nat))).setCell ⟨w.heap.size + 1, 3, none⟩ (.int .u64 (r0 : Nat)) = W1
      obtain ⟨e1, e2, e3⟩ := HF.out W1.drew (by rw [← hW])
      exact bodyPost_ret (results_tmp_cell Try.results67 _ _ _ _ _ _ _ _ rfl rfl e3 Try.underlying24 rfl (by kernel_rfl)) rfl ⟨r0, r1, r2, r3, rfl, e1, HDG.out, e2⟩
    · have hz1 : z = (i : Int) := by omega
      subst hz1
      clear hz
      have hi8 : i / 8 < n := by omega
      obtain ⟨hb1, hb2⟩ := div_bit (x := x) hy0 i
      have HD1 := Lib.hid hb1; have HD2 := Lib.hid hb2
      clear hb1 hb2
      have hxb : x / 2 ^ i % 2 < 2 := Nat.mod_lt _ (by decide)
      have hbyt : byteOf x (i / 8) / 2 ^ (i % 8) % 2 = x / 2 ^ i % 2 := by
        have h1 : (byteOf x (i / 8)).testBit (i % 8) = x.testBit i := by
          rw [byteOf_testBit, show 8 * (i / 8) + i % 8 = i by omega]; simp; omega
        rw [Nat.testBit_eq_decide_div_mod_eq, Nat.testBit_eq_decide_div_mod_eq, decide_eq_decide] at h1
        have h2 : byteOf x (i / 8) / 2 ^ (i % 8) % 2 < 2 := Nat.mod_lt _ (by decide)
        omega
      have HW := Lib.hid (twice hS.dig hxb)
      have HL := Lib.hid (show x / 2 ^ (i + 1) % y < y from Nat.mod_lt _ hy0)
      have HYW := Lib.hid HY.out.lt
      obtain ⟨⟨c0, c1, c2, c3⟩, f0, f1, f2, f3⟩ := cells4 hS.rst
      have ca := (hS.below.cell (p := ⟨ga, i / 8, none⟩) hga).trans (HCA.out (i / 8) hi8)
      have hd := hS.dig
      obtain ⟨h0, h1, h2, h3, hdeq⟩ := hd
      have o3 : Go.bits .or .u64 (IntKind.u64.wrap ((r3 : Int) * 2)) ((r2 : Int) / 9223372036854775808) = ((r3 * 2 % M64 + r2 / 9223372036854775808 : Nat) : Int) := or_twice (x := r3) (b := r2 / 9223372036854775808) (by unfold M64 at *; omega)
      have o2 : Go.bits .or .u64 (IntKind.u64.wrap ((r2 : Int) * 2)) ((r1 : Int) / 9223372036854775808) = ((r2 * 2 % M64 + r1 / 9223372036854775808 : Nat) : Int) := or_twice (x := r2) (b := r1 / 9223372036854775808) (by unfold M64 at *; omega)
      have o1 : Go.bits .or .u64 (IntKind.u64.wrap ((r1 : Int) * 2)) ((r0 : Int) / 9223372036854775808) = ((r1 * 2 % M64 + r0 / 9223372036854775808 : Nat) : Int) := or_twice (x := r1) (b := r0 / 9223372036854775808) (by unfold M64 at *; omega)
      have o0 := or_twice (x := r0) (b := x / 2 ^ i % 2) hxb
      have hov : ((r3 : Int) / 9223372036854775808 == 1) = decide (W256 / 2 ≤ x / 2 ^ (i + 1) % y) := by
        rw [Bool.eq_iff_iff, decide_eq_true_eq, beq_iff_eq, hdeq]
        unfold W256 M64 at *
        omega
      have q1 : (i : Int).tdiv 8 = ((i / 8 : Nat) : Int) := by rw [Int.tdiv_eq_ediv_of_nonneg (by omega)]; omega
      have q2 : (i : Int) / 8 = ((i / 8 : Nat) : Int) := by omega
      have s1 : (i : Int).tmod 8 = ((i % 8 : Nat) : Int) := by rw [Int.tmod_eq_emod_of_nonneg (by omega)]; omega
      have s2 : (i : Int) % 8 = ((i % 8 : Nat) : Int) := by omega
      have hi7 : i % 8 < 8 := Nat.mod_lt _ (by decide)
      have hbl : byteOf x (i / 8) < 256 := Nat.mod_lt _ (by decide)
      have an : Go.bits .and .i64 ((byteOf x (i / 8) : Int) / 2 ^ (i % 8)) 1 = ((x / 2 ^ i % 2 : Nat) : Int) := by
        have hlt : byteOf x (i / 8) / 2 ^ (i % 8) < 9223372036854775808 := Nat.lt_of_le_of_lt (Nat.div_le_self _ _) (by omega)
        have h := i64_and_n (byteOf x (i / 8) / 2 ^ (i % 8)) 1 hlt (by decide)
        rw [Nat.and_one_is_mod, hbyt] at h
        rw [show ((byteOf x (i / 8) : Int) / 2 ^ (i % 8)) = ((byteOf x (i / 8) / 2 ^ (i % 8) : Nat) : Int) by simp]
        exact h
      have HN := Lib.hid (show x / 2 ^ (i + 1) % y = x / 2 ^ (i + 1) % y from rfl)
      generalize hxbv : x / 2 ^ i % 2 = xb at *
      generalize hrv : x / 2 ^ (i + 1) % y = r at *
      clear hxbv hrv hbyt hdeq
      generalize byteOf x (i / 8) = ab at *
      have HS := Lib.hid hS
      clear hS
      have hzi : (0 : Int) ≤ (i : Int) := by omega
      have bq : (0 : Int) ≤ ((i / 8 : Nat) : Int) ∧ ((i / 8 : Nat) : Int) < (n : Int) := by omega
      have HQ8 := Lib.hid (And.intro (show i / 8 = i / 8 from rfl) hi8)
      generalize hqv : i / 8 = q at *
      generalize hsv : i % 8 = sv at *
      have HQV := Lib.hid (And.intro hqv hsv)
      clear hqv hsv HN HQ8
      have hw3 : IntKind.i64.wrap (q : Int) = (q : Int) := IntWalk.i64_in _ (by omega)
      have hw4 : IntKind.u64.wrap (xb : Int) = (xb : Int) := by rw [IntKind.wrap_u64]; omega
      have HM1 := Lib.hid (HS.out.mid (r0 * 2 % M64 + xb) (r1 * 2 % M64 + r0 / 9223372036854775808) (r2 * 2 % M64 + r1 / 9223372036854775808) (r3 * 2 % M64 + r2 / 9223372036854775808))
      have HBX := Lib.hid HS.out.box
      clear HS h0 h1 h2 h3
      generalize r3 * 2 % M64 + r2 / 9223372036854775808 = n3 at *
      generalize r2 * 2 % M64 + r1 / 9223372036854775808 = n2 at *
      generalize r1 * 2 % M64 + r0 / 9223372036854775808 = n1 at *
      generalize r0 * 2 % M64 + xb = n0 at *
      go_wp2_with fail
      go_still_tail 36, (by kernel_rfl)
      have hxb2 := hxb
      obtain ⟨⟨rb0, rb1, rb2, rb3⟩, _⟩ := cells4 HBX.out
      by_cases hov2 : W256 / 2 ≤ r
      · have hd1 : decide (W256 / 2 ≤ r) = true := by simpa using hov2
        have hys : y ≤ 2 * r + xb := by have := HYW.out; unfold W256 M64 at *; omega
        have hdec : True := trivial
        have HM2 := Lib.hid HM1.out
        go_wp2_with fail
        clear HM1 o0 o1 o2 o3 an c0 c1 c2 c3 f0 f1 f2 f3 ca hov rb0 rb1 rb2 rb3
        refine (rSub_d HW.out HY.out _).mono ?_
        rintro e w9 ⟨m3, m2, m1, m0, rfl, hd, hb⟩
        have HD := Lib.hid (show Dig (x / 2 ^ i % y) m0 m1 m2 m3 from by
          rw [HD1.out, if_pos hys]
          have e : (2 * r + xb) % W256 + W256 - y = 2 * r + xb - y + 0 := by
            have := HL.out; have := HYW.out; unfold W256 M64 at *; omega
          rw [e] at hd
          have e2 : 2 * r + xb - y < W256 := by have := HL.out; have := HYW.out; omega
          rw [Nat.add_zero, Nat.mod_eq_of_lt e2] at hd
          exact hd)
        have HM3 := Lib.hid (HM2.out.call hb)
        have HT := Lib.hid (show (x / y).testBit i = true by rw [HD2.out]; simpa using hys)
        clear hd hb HM2
        have HM4 := Lib.hid (HM3.out.set (m0 := m0) (m1 := m1) (m2 := m2) (m3 := m3))
        obtain ⟨⟨rc0, rc1, rc2, rc3⟩, rf0, rf1, rf2, rf3⟩ := cells4 HM3.out.rst
        go_wp2_with fail
        clear rc0 rc1 rc2 rc3 rf0 rf1 rf2 rf3 HM3
        generalize (((w9.setCell ⟨w.heap.size + 1 + 1 + 1, 0, none⟩ (.int .u64 (m3 : Nat))).setCell ⟨w.heap.size + 1 + 1 + 1, 1, none⟩ (.int .u64 (m2 : Nat))).setCell ⟨w.heap.size + 1 + 1 + 1, 2, none⟩ (.int .u64 (m1 : Nat))).setCell ⟨w.heap.size + 1 + 1 + 1, 3, none⟩ (.int .u64 (m0 : Nat)) = W4 at *
        have HE := Lib.hid (HM4.out.more HD.out HT.out)
        have g0 := (cell_of HM4.out.row q).trans (iblk_at _ hi8)
        have e0 := free_of HM4.out.row q
        have hob : byteOf (keepN (x / y) (i + 1)) q < 256 := Nat.mod_lt _ (by decide)
        obtain ⟨w5, w6, hpw⟩ := pow_i64 hi7
        have o4 := i64_or_n (byteOf (keepN (x / y) (i + 1)) q) (2 ^ sv) (Nat.lt_trans hob (by decide)) (Nat.lt_of_le_of_lt hpw (by decide))
        rw [HQV.out.1, HQV.out.2] at HE
        generalize byteOf (keepN (x / y) (i + 1)) q ||| 2 ^ sv = nv at *
        generalize byteOf (keepN (x / y) (i + 1)) q = ov at *
        generalize 2 ^ sv = pw at *
        go_wp2_with fail
        go_still_tail 13, (by kernel_rfl)
        go_wp2_with fail
        clear g0 e0 o4 w5 w6 q1 q2 s1 s2 bq hw3 hzi hd1 hdec
        go_roundw
        case rel => exact ⟨i, _, m0, m1, m2, m3, rfl, rfl, by omega, HE.out⟩
        case measure => simp [intOf] <;> omega
      · have hd1 : decide (W256 / 2 ≤ r) = false := by simpa using hov2
        go_wp2_with fail
        refine (rLess_c HW.out HY.out _).mono ?_
        rintro e w8 ⟨rfl, hb8⟩
        have HM2 := Lib.hid (HM1.out.call hb8)
        clear hb8 HM1 o0 o1 o2 o3 an c0 c1 c2 c3 f0 f1 f2 f3 ca hov rb0 rb1 rb2 rb3
        obtain ⟨⟨rc0, rc1, rc2, rc3⟩, rf0, rf1, rf2, rf3⟩ := cells4 HM2.out.rst
        obtain ⟨⟨rb0, rb1, rb2, rb3⟩, _⟩ := cells4 HM2.out.box
        by_cases hys : y ≤ 2 * r + xb
        · have hdec : decide ((2 * r + xb) % W256 < y) = false := by
            rw [Nat.mod_eq_of_lt (by unfold W256 M64 at *; omega)]; simpa using hys
          go_wp2_with fail
          refine (rSub_d HW.out HY.out _).mono ?_
          rintro e w9 ⟨m3, m2, m1, m0, rfl, hd, hb⟩
          have HD := Lib.hid (show Dig (x / 2 ^ i % y) m0 m1 m2 m3 from by
            rw [HD1.out, if_pos hys]
            have e : (2 * r + xb) % W256 + W256 - y = 2 * r + xb - y + W256 := by
              have := HL.out; have := HYW.out; unfold W256 M64 at *; omega
            rw [e] at hd
            have e2 : 2 * r + xb - y < W256 := by have := HL.out; have := HYW.out; omega
            rw [Nat.add_mod_right, Nat.mod_eq_of_lt e2] at hd
            exact hd)
          have HM3 := Lib.hid (HM2.out.call hb)
          have HT := Lib.hid (show (x / y).testBit i = true by rw [HD2.out]; simpa using hys)
          clear hd hb HM2 rc0 rc1 rc2 rc3 rf0 rf1 rf2 rf3 rb0 rb1 rb2 rb3
          have HM4 := Lib.hid (HM3.out.set (m0 := m0) (m1 := m1) (m2 := m2) (m3 := m3))
          obtain ⟨⟨rc0, rc1, rc2, rc3⟩, rf0, rf1, rf2, rf3⟩ := cells4 HM3.out.rst
          go_wp2_with fail
          clear rc0 rc1 rc2 rc3 rf0 rf1 rf2 rf3 HM3
          generalize (((w9.setCell ⟨w.heap.size + 1 + 1 + 1, 0, none⟩ (.int .u64 (m3 : Nat))).setCell ⟨w.heap.size + 1 + 1 + 1, 1, none⟩ (.int .u64 (m2 : Nat))).setCell ⟨w.heap.size + 1 + 1 + 1, 2, none⟩ (.int .u64 (m1 : Nat))).setCell ⟨w.heap.size + 1 + 1 + 1, 3, none⟩ (.int .u64 (m0 : Nat)) = W4 at *
          have HE := Lib.hid (HM4.out.more HD.out HT.out)
          have g0 := (cell_of HM4.out.row q).trans (iblk_at _ hi8)
          have e0 := free_of HM4.out.row q
          have hob : byteOf (keepN (x / y) (i + 1)) q < 256 := Nat.mod_lt _ (by decide)
          obtain ⟨w5, w6, hpw⟩ := pow_i64 hi7
          have o4 := i64_or_n (byteOf (keepN (x / y) (i + 1)) q) (2 ^ sv) (Nat.lt_trans hob (by decide)) (Nat.lt_of_le_of_lt hpw (by decide))
          rw [HQV.out.1, HQV.out.2] at HE
          generalize byteOf (keepN (x / y) (i + 1)) q ||| 2 ^ sv = nv at *
          generalize byteOf (keepN (x / y) (i + 1)) q = ov at *
          generalize 2 ^ sv = pw at *
          go_wp2_with fail
          go_still_tail 13, (by kernel_rfl)
          go_wp2_with fail
          clear g0 e0 o4 w5 w6 q1 q2 s1 s2 bq hw3 hzi hd1 hdec
          go_roundw
          case rel => exact ⟨i, _, m0, m1, m2, m3, rfl, rfl, by omega, HE.out⟩
          case measure => simp [intOf] <;> omega
        · have hdec : decide ((2 * r + xb) % W256 < y) = true := by
            rw [Nat.mod_eq_of_lt (by unfold W256 M64 at *; omega)]; simpa using hys
          have HE := Lib.hid (HM2.out.less (by rw [HD1.out, if_neg hys, ← Nat.mod_eq_of_lt (show 2 * r + xb < W256 by unfold W256 M64 at *; omega)]; exact HW.out) (by rw [HD2.out]; simpa using hys))
          clear HM2
          go_wp2_with fail
          clear rc0 rc1 rc2 rc3 rf0 rf1 rf2 rf3 rb0 rb1 rb2 rb3 q1 q2 s1 s2 bq hw3 hzi hd1 hdec
          go_roundw
          case rel => exact ⟨i, _, n0, n1, n2, n3, rfl, rfl, by omega, HE.out⟩
          case measure => simp [intOf] <;> omega
end Go.Proofs.Ythbfhfgmanafpaa
