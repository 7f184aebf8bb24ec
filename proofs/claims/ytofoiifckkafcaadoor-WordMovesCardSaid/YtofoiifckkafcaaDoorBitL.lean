/- The contract of WordBits, its first part. -/
import Derived.Test.YtofoiifckkafcaaDoorBitN
import Derived.Test.YtofoiifckkafcaaDoorMoveA
import Derived.Test.YtofoiifckkafcaaDoorMoveD
import Derived.Test.YtofoiifckkafcaaDoorTurns
import Derived.Test.YtofoiifckkafcaaDoorWordF
import Derived.Deep.Cut
namespace Go.Proofs.YtofoiifckkafcaaDoor
open Go.RowKit
attribute [local go_sem ↓] Go.wp_at_zero Go.wp_at_succ

theorem Byte_d {i a b3 b2 b1 b0 a3 a2 a1 a0 : Nat} (hi : Dig i b0 b1 b2 b3) (ha : Dig a a0 a1 a2 a3) (w : World) :
    Calls Tryd.prog 40 #[.agg #[.int .u64 b3, .int .u64 b2, .int .u64 b1, .int .u64 b0], .agg #[.int .u64 a3, .int .u64 a2, .int .u64 a1, .int .u64 a0]] w (RetD (if i < 32 then byteOf a (31 - i) else 0) w) :=
  (Byte_c hi ha w).mono fun _ _ h => h.d
theorem And_d {x y b3 b2 b1 b0 a3 a2 a1 a0 : Nat} (hx : Dig x a0 a1 a2 a3) (hy : Dig y b0 b1 b2 b3) (w : World) :
    Calls Tryd.prog 26 #[.agg #[.int .u64 a3, .int .u64 a2, .int .u64 a1, .int .u64 a0], .agg #[.int .u64 b3, .int .u64 b2, .int .u64 b1, .int .u64 b0]] w (RetD (x &&& y) w) :=
  (And_any hx hy w).mono fun _ _ h => ⟨_, _, _, _, h.1, hx.and hy, h.2⟩
theorem Or_d {x y b3 b2 b1 b0 a3 a2 a1 a0 : Nat} (hx : Dig x a0 a1 a2 a3) (hy : Dig y b0 b1 b2 b3) (w : World) :
    Calls Tryd.prog 28 #[.agg #[.int .u64 a3, .int .u64 a2, .int .u64 a1, .int .u64 a0], .agg #[.int .u64 b3, .int .u64 b2, .int .u64 b1, .int .u64 b0]] w (RetD (x ||| y) w) :=
  (Or_any hx hy w).mono fun _ _ h => ⟨_, _, _, _, h.1, hx.or hy, h.2⟩
theorem Xor_d {x y b3 b2 b1 b0 a3 a2 a1 a0 : Nat} (hx : Dig x a0 a1 a2 a3) (hy : Dig y b0 b1 b2 b3) (w : World) :
    Calls Tryd.prog 30 #[.agg #[.int .u64 a3, .int .u64 a2, .int .u64 a1, .int .u64 a0], .agg #[.int .u64 b3, .int .u64 b2, .int .u64 b1, .int .u64 b0]] w (RetD (x ^^^ y) w) :=
  (Xor_any hx hy w).mono fun _ _ h => ⟨_, _, _, _, h.1, hx.xor hy, h.2⟩

theorem Fr.add {w W : World} {B N : Nat} {L : List (Nat × Array Value × TypeId)} (h : Fr w B N L W) {b : Nat} {cs : Array Value} {t : TypeId} (hb : W.heap[b]? = some (.cells cs t (0, 0))) : Fr w B W.heap.size ((b, cs, t) :: L) W := by
  have hu := h.up
  refine ⟨hu.below, hu.le, hu.size, fun x hx => ?_⟩
  rcases List.mem_cons.1 hx with rfl | hx
  · exact ⟨lt_of hb, hb⟩
  · exact hu.know x hx
theorem Fr.read31 {w W0 : World} {B N b1 b2 : Nat} {p0 : Nat × Array Value × TypeId} {v0 v1 v2 v3 u0 u1 u2 u3 : Value} {t1 t2 : TypeId} (_ : Fr w B N [(b1, #[v0, v1, v2, v3], t1), p0, (b2, #[u0, u1, u2, u3], t2)] W0) :
    ∀ W, Fr w B N [(b1, #[v0, v1, v2, v3], t1), p0, (b2, #[u0, u1, u2, u3], t2)] W →
      (W.cell? ⟨b1, 0, none⟩ = some v0 ∧ W.cell? ⟨b1, 1, none⟩ = some v1 ∧ W.cell? ⟨b1, 2, none⟩ = some v2 ∧ W.cell? ⟨b1, 3, none⟩ = some v3) ∧
      (W.cell? ⟨b2, 0, none⟩ = some u0 ∧ W.cell? ⟨b2, 1, none⟩ = some u1 ∧ W.cell? ⟨b2, 2, none⟩ = some u2 ∧ W.cell? ⟨b2, 3, none⟩ = some u3) :=
  fun _ h => ⟨h.c4 (.head _), h.c4 (.tail _ (.tail _ (.head _)))⟩

theorem or_less {x y : Nat} (hx : x < W256) (hy : y < W256) : ((x ||| y) + W256 - (x &&& y)) % W256 = x ^^^ y := by
  have h := (or_and_sums x x y (Nat.le_refl _)).1
  have hl : x ^^^ y < W256 := by rw [W256_two] at *; exact Nat.xor_lt_two_pow hx hy
  rw [h, show (x ^^^ y) + (x &&& y) + W256 - (x &&& y) = (x ^^^ y) + W256 by omega, Nat.add_mod_right, Nat.mod_eq_of_lt hl]
theorem add_and_or (x y : Nat) : (x + y) % W256 = ((x &&& y) + (x ||| y)) % W256 := by
  rw [(or_and_sums x x y (Nat.le_refl _)).2, Nat.add_comm]
theorem index_u8 (s : ByteArray) (j : Nat) (hj : j < s.size) (W : World) : (Instr.index 9 (.string s) (.int .u8 (j : Int))).run Tryd.prog W = .ok (.int .u8 (byteAt s j : Int)) W := by
  rw [run_index_string W _ _ _ _ Tryd.underlying9, dif_pos ⟨by omega, by omega⟩]
  unfold byteAt
  rw [dif_pos hj]
  rfl
theorem Fr.read6 {w W0 : World} {B N b0 b1 b2 b3 b4 : Nat} {p0 : Nat × Array Value × TypeId} {x0 x1 x2 x3 y0 y1 y2 y3 z0 z1 z2 z3 v0 v1 v2 v3 u0 u1 u2 u3 : Value} {t0 t1 t2 t3 t4 : TypeId} (_ : Fr w B N [(b0, #[x0, x1, x2, x3], t0), (b1, #[y0, y1, y2, y3], t1), (b2, #[z0, z1, z2, z3], t2), p0, (b3, #[v0, v1, v2, v3], t3), (b4, #[u0, u1, u2, u3], t4)] W0) :
    ∀ W, Fr w B N [(b0, #[x0, x1, x2, x3], t0), (b1, #[y0, y1, y2, y3], t1), (b2, #[z0, z1, z2, z3], t2), p0, (b3, #[v0, v1, v2, v3], t3), (b4, #[u0, u1, u2, u3], t4)] W →
      (W.cell? ⟨b0, 0, none⟩ = some x0 ∧ W.cell? ⟨b0, 1, none⟩ = some x1 ∧ W.cell? ⟨b0, 2, none⟩ = some x2 ∧ W.cell? ⟨b0, 3, none⟩ = some x3) ∧
      (W.cell? ⟨b1, 0, none⟩ = some y0 ∧ W.cell? ⟨b1, 1, none⟩ = some y1 ∧ W.cell? ⟨b1, 2, none⟩ = some y2 ∧ W.cell? ⟨b1, 3, none⟩ = some y3) ∧
      (W.cell? ⟨b2, 0, none⟩ = some z0 ∧ W.cell? ⟨b2, 1, none⟩ = some z1 ∧ W.cell? ⟨b2, 2, none⟩ = some z2 ∧ W.cell? ⟨b2, 3, none⟩ = some z3) ∧
      (W.cell? ⟨b3, 0, none⟩ = some v0 ∧ W.cell? ⟨b3, 1, none⟩ = some v1 ∧ W.cell? ⟨b3, 2, none⟩ = some v2 ∧ W.cell? ⟨b3, 3, none⟩ = some v3) ∧
      (W.cell? ⟨b4, 0, none⟩ = some u0 ∧ W.cell? ⟨b4, 1, none⟩ = some u1 ∧ W.cell? ⟨b4, 2, none⟩ = some u2 ∧ W.cell? ⟨b4, 3, none⟩ = some u3) :=
  fun _ h => ⟨h.c4 (.head _), h.c4 (.tail _ (.head _)), h.c4 (.tail _ (.tail _ (.head _))), h.c4 (.tail _ (.tail _ (.tail _ (.tail _ (.head _))))), h.c4 (.tail _ (.tail _ (.tail _ (.tail _ (.tail _ (.head _))))))⟩
theorem Fr.read2nd {w W0 : World} {B N b1 : Nat} {p0 : Nat × Array Value × TypeId} {L : List (Nat × Array Value × TypeId)} {v0 v1 v2 v3 : Value} {t1 : TypeId} (_ : Fr w B N (p0 :: (b1, #[v0, v1, v2, v3], t1) :: L) W0) :
    ∀ W, Fr w B N (p0 :: (b1, #[v0, v1, v2, v3], t1) :: L) W →
      (W.cell? ⟨b1, 0, none⟩ = some v0 ∧ W.cell? ⟨b1, 1, none⟩ = some v1 ∧ W.cell? ⟨b1, 2, none⟩ = some v2 ∧ W.cell? ⟨b1, 3, none⟩ = some v3) :=
  fun _ h => h.c4 (.tail _ (.head _))

set_option maxRecDepth 100000 in
set_option maxHeartbeats 4000000 in
theorem bits_c {x y n a3 a2 a1 a0 b3 b2 b1 b0 : Nat} (hx : Dig x a0 a1 a2 a3) (hy : Dig y b0 b1 b2 b3) (hn : n < 256) (w : World) :
    Calls Tryd.prog 7 #[.agg #[.int .u64 a3, .int .u64 a2, .int .u64 a1, .int .u64 a0], .agg #[.int .u64 b3, .int .u64 b2, .int .u64 b1, .int .u64 b0], .int .u8 n] w fun e w' =>
      e = .returned (.bool true) ∧ Below w.heap.size w w' := by
  have H := (((Fx.start w).new #[.int .u64 a3, .int .u64 a2, .int .u64 a1, .int .u64 a0] 24).new #[.int .u64 b3, .int .u64 b2, .int .u64 b1, .int .u64 b0] 24).1
  have hk := dig_one (n := n) (by unfold M64; omega)
  have HA := Lib.hid hx; have HB := Lib.hid hy; have HK := Lib.hid hk
  have hShl := Lib.hid (Shl_d hk hx); have hNot := Lib.hid (Not_d dig_zero)
  have hw : IntKind.u64.wrap (n : Int) = (n : Int) := by rw [IntKind.wrap_u64]; omega
  have hwr : 0 ≤ (n : Int) ∧ (n : Int) < 256 := by omega
  clear hx hy hk
  have HN := Lib.hid hn; clear hn
  go_enter Tryd.func7, Tryd.ntmps7
  go_wp2_with fail
  refine (examples_c _).mono ?_
  rintro e w1 ⟨rfl, hb1⟩
  have H0 := H.call hb1
  clear hb1 H
  go_wp2_with fail
  refine (from_any n _).mono ?_
  rintro e w2 ⟨rfl, hb2⟩
  have H := ((H0.call hb2).up).new #[.int .u64 0, .int .u64 0, .int .u64 0, .int .u64 n] 24
  clear hb2 H0
  go_wp2_with fail
  have HS := Lib.hid H.read31
  refine wp_cut (fun a' W => ∃ b9 s3 s2 s1 s0 l3 l2 l1 l0 : Nat, a' = ⟨#[.agg #[.int .u64 a3, .int .u64 a2, .int .u64 a1, .int .u64 a0], .agg #[.int .u64 b3, .int .u64 b2, .int .u64 b1, .int .u64 b0], .int .u8 n, .pointer (some ⟨w.heap.size, 0, none⟩), .pointer (some ⟨w.heap.size + 1, 0, none⟩), undef, .bool false, .bool true, .pointer (some ⟨w2.heap.size, 0, none⟩), .pointer (some ⟨b9, 0, none⟩), undef, undef, .bool true, .bool true, .bool false, .int .u8 n, .int .u64 n, .agg #[.int .u64 0, .int .u64 0, .int .u64 0, .int .u64 n], .agg #[.int .u64 0, .int .u64 0, .int .u64 0, .int .u64 n], .agg #[.int .u64 0, .int .u64 0, .int .u64 0, .int .u64 n], .agg #[.int .u64 a3, .int .u64 a2, .int .u64 a1, .int .u64 a0], .agg #[.int .u64 s3, .int .u64 s2, .int .u64 s1, .int .u64 s0], .agg #[.int .u64 l3, .int .u64 l2, .int .u64 l1, .int .u64 l0], undef, undef, undef, undef, undef, undef, undef, undef, undef, undef, undef, undef, undef, undef, undef, undef, undef, undef, undef, undef, undef, undef, undef, undef, undef, undef, undef, undef, undef, undef, undef, undef, undef, undef, undef, undef, undef, undef, undef, undef, undef, undef, undef, undef, undef, undef, undef, undef, undef, undef, undef, undef, undef, undef, undef, undef, undef, undef, undef, undef, undef, undef, undef, undef, undef, undef, undef], []⟩ ∧ Dig (x * 2 ^ (min n 256) % W256 / 2 ^ (min n 256)) l0 l1 l2 l3 ∧
      Fr w w.heap.size W.heap.size [(b9, #[.int .u64 l3, .int .u64 l2, .int .u64 l1, .int .u64 l0], 24), (w2.heap.size, #[.int .u64 0, .int .u64 0, .int .u64 0, .int .u64 n], 24), (w.heap.size + 1, #[.int .u64 b3, .int .u64 b2, .int .u64 b1, .int .u64 b0], 24), (w.heap.size, #[.int .u64 a3, .int .u64 a2, .int .u64 a1, .int .u64 a0], 24)] W) ?rest ?tree
  case rest =>
    rintro a' W ⟨b9, s3, s2, s1, s0, l3, l2, l1, l0, rfl, hl, F⟩
    clear H HS hShl
    have HL := Lib.hid hl; clear hl
    go_wp2_with fail
    have HS := Lib.hid F.read2nd
    refine wp_cut (fun a' W => ∃ b10 q3 q2 q1 q0 m3 m2 m1 m0 : Nat, a' = ⟨#[.agg #[.int .u64 a3, .int .u64 a2, .int .u64 a1, .int .u64 a0], .agg #[.int .u64 b3, .int .u64 b2, .int .u64 b1, .int .u64 b0], .int .u8 n, .pointer (some ⟨w.heap.size, 0, none⟩), .pointer (some ⟨w.heap.size + 1, 0, none⟩), undef, .bool false, .bool true, .pointer (some ⟨w2.heap.size, 0, none⟩), .pointer (some ⟨b9, 0, none⟩), .pointer (some ⟨b10, 0, none⟩), undef, .bool true, .bool true, .bool false, .int .u8 n, .int .u64 n, .agg #[.int .u64 0, .int .u64 0, .int .u64 0, .int .u64 n], .agg #[.int .u64 0, .int .u64 0, .int .u64 0, .int .u64 n], .agg #[.int .u64 0, .int .u64 0, .int .u64 0, .int .u64 n], .agg #[.int .u64 a3, .int .u64 a2, .int .u64 a1, .int .u64 a0], .agg #[.int .u64 s3, .int .u64 s2, .int .u64 s1, .int .u64 s0], .agg #[.int .u64 l3, .int .u64 l2, .int .u64 l1, .int .u64 l0], .agg #[.int .u64 0, .int .u64 0, .int .u64 0, .int .u64 n], .agg #[.int .u64 0, .int .u64 0, .int .u64 0, .int .u64 0], .agg #[.int .u64 q3, .int .u64 q2, .int .u64 q1, .int .u64 q0], .agg #[.int .u64 m3, .int .u64 m2, .int .u64 m1, .int .u64 m0], undef, undef, undef, undef, undef, undef, undef, undef, undef, undef, undef, undef, undef, undef, undef, undef, undef, undef, undef, undef, undef, undef, undef, undef, undef, undef, undef, undef, undef, undef, undef, undef, undef, undef, undef, undef, undef, undef, undef, undef, undef, undef, undef, undef, undef, undef, undef, undef, undef, undef, undef, undef, undef, undef, undef, undef, undef, undef, undef, undef, undef, undef, undef], []⟩ ∧ Dig ((W256 - 1 - 0) / 2 ^ (min n 256)) m0 m1 m2 m3 ∧
      Fr w w.heap.size W.heap.size [(b10, #[.int .u64 m3, .int .u64 m2, .int .u64 m1, .int .u64 m0], 24), (b9, #[.int .u64 l3, .int .u64 l2, .int .u64 l1, .int .u64 l0], 24), (w2.heap.size, #[.int .u64 0, .int .u64 0, .int .u64 0, .int .u64 n], 24), (w.heap.size + 1, #[.int .u64 b3, .int .u64 b2, .int .u64 b1, .int .u64 b0], 24), (w.heap.size, #[.int .u64 a3, .int .u64 a2, .int .u64 a1, .int .u64 a0], 24)] W) ?rest2 ?tree2
    case rest2 =>
      rintro a' W ⟨b10, q3, q2, q1, q0, m3, m2, m1, m0, rfl, hm, F⟩
      clear HS hNot
      have HM := Lib.hid hm; clear hm
      have hi32 : n % 32 < 32 := Nat.mod_lt _ (by decide)
      have hi1 : (n : Int) % 32 = ((n % 32 : Nat) : Int) := by omega
      have HI := Lib.hid (show n % 32 = n % 32 from rfl)
      generalize hgi : n % 32 = i at hi32 hi1 HI
      have HG := Lib.hid hgi; clear hgi
      have hwi : IntKind.u64.wrap (i : Int) = (i : Int) := by have := IntKind.wrap_u64 (i : Int); omega
      have htm : (n : Int).tmod 32 = (i : Int) := by rw [Int.tmod_eq_emod_of_nonneg hwr.1]; exact hi1
      have HI32 := Lib.hid hi32; have HI64 := Lib.hid (show i < M64 by unfold M64; omega)
      clear hi32
      go_wp2_with fail
      refine (from_any i _).mono ?_
      rintro e w3 ⟨rfl, hb3⟩
      have F1 := ((F.call hb3).up).new #[.int .u64 0, .int .u64 0, .int .u64 0, .int .u64 i] 24
      clear hb3 F
      go_wp2_with fail
      have H0 := F1.drew
      have HS := Lib.hid H0.read6
      refine Drawn.startEx (fun _ => false) F1 (by kernel_rfl) ?_
      clear F1
      refine Drawn.take 0 (some 31) (v := ?_) rfl rfl (by kernel_rfl) (by kernel_rfl) (by kernel_rfl) (by kernel_rfl) (by kernel_rfl) rfl (fun _ _ _ h => h) (Or.inl ⟨rfl, ?_⟩) H0 ?_
      rotate_left
      · intro W hW; have hW := HS.out W hW; go_simp; try with_reducible rfl
      simp only [put_list, List.set]
      refine Drawn.take 1 (some 32) (v := ?_) rfl rfl (by kernel_rfl) (by kernel_rfl) (by kernel_rfl) (by kernel_rfl) (by kernel_rfl) rfl (fun _ _ _ h => h) (Or.inl ⟨rfl, ?_⟩) H0 ?_
      rotate_left
      · intro W hW; have hW := HS.out W hW; go_simp; try with_reducible rfl
      simp only [put_list, List.set]
      refine Drawn.take 2 (some 33) (v := ?_) rfl rfl (by kernel_rfl) (by kernel_rfl) (by kernel_rfl) (by kernel_rfl) (by kernel_rfl) rfl (fun _ _ _ h => h) (Or.inl ⟨rfl, ?_⟩) H0 ?_
      rotate_left
      · intro W hW; have hW := HS.out W hW; go_simp; try with_reducible rfl
      simp only [put_list, List.set]
      refine Drawn.take 3 (some 34) (v := ?_) rfl rfl (by kernel_rfl) (by kernel_rfl) (by kernel_rfl) (by kernel_rfl) (by kernel_rfl) rfl (fun _ _ _ h => h) (Or.inl ⟨rfl, ?_⟩) H0 ?_
      rotate_left
      · intro W hW; have hW := HS.out W hW; go_simp; try with_reducible rfl
      simp only [put_list, List.set]
      refine Drawn.take 5 (some 36) (v := ?_) rfl rfl (by kernel_rfl) (by kernel_rfl) (by kernel_rfl) (by kernel_rfl) (by kernel_rfl) rfl (fun _ _ _ h => h) (Or.inl ⟨rfl, ?_⟩) H0 ?_
      rotate_left
      · intro W hW; have hW := HS.out W hW; go_simp; try with_reducible rfl
      simp only [put_list, List.set]
      refine Drawn.take 6 (some 37) (v := ?_) rfl rfl (by kernel_rfl) (by kernel_rfl) (by kernel_rfl) (by kernel_rfl) (by kernel_rfl) rfl (fun _ _ _ h => h) (Or.inl ⟨rfl, ?_⟩) H0 ?_
      rotate_left
      · intro W hW; have hW := HS.out W hW; go_simp; try with_reducible rfl
      simp only [put_list, List.set]
      refine Drawn.take 8 (some 39) (v := ?_) rfl rfl (by kernel_rfl) (by kernel_rfl) (by kernel_rfl) (by kernel_rfl) (by kernel_rfl) rfl (fun _ _ _ h => h) (Or.inl ⟨rfl, ?_⟩) H0 ?_
      rotate_left
      · intro W hW; have hW := HS.out W hW; go_simp; try with_reducible rfl
      simp only [put_list, List.set]
      refine Drawn.take 9 (some 40) (v := ?_) rfl rfl (by kernel_rfl) (by kernel_rfl) (by kernel_rfl) (by kernel_rfl) (by kernel_rfl) rfl (fun _ _ _ h => h) (Or.inl ⟨rfl, ?_⟩) H0 ?_
      rotate_left
      · intro W hW; have hW := HS.out W hW; go_simp; try with_reducible rfl
      simp only [put_list, List.set]
      refine Drawn.only 4 (by kernel_rfl) rfl rfl (fun K hK => ?_)
      go_simp
      refine (Xor_d HA.out HB.out _).mono ?_
      rintro e w9 ⟨p43, p42, p41, p40, rfl, hd, hb⟩
      refine hK _ _ (fun _ _ => H0.call hb) ?_
      replace H0 := H0.call hb
      have D4 := Lib.hid hd
      clear hK K hb hd
      refine Drawn.only 7 (by kernel_rfl) rfl rfl (fun K hK => ?_)
      go_simp
      refine (Or_d HA.out HB.out _).mono ?_
      rintro e w9 ⟨p73, p72, p71, p70, rfl, hd, hb⟩
      refine hK _ _ (fun _ _ => H0.call hb) ?_
      replace H0 := H0.call hb
      have D7 := Lib.hid hd
      clear hK K hb hd
      refine Drawn.only 10 (by kernel_rfl) rfl rfl (fun K hK => ?_)
      go_simp
      refine (And_d HA.out HB.out _).mono ?_
      rintro e w9 ⟨p103, p102, p101, p100, rfl, hd, hb⟩
      refine hK _ _ (fun _ _ => H0.call hb) ?_
      replace H0 := H0.call hb
      have D10 := Lib.hid hd
      clear hK K hb hd
      refine Drawn.only 11 (by kernel_rfl) rfl rfl (fun K hK => ?_)
      go_simp
      refine (Sub_d D7.out D10.out _).mono ?_
      rintro e w9 ⟨p113, p112, p111, p110, rfl, hd, hb⟩
      refine hK _ _ (fun _ _ => H0.call hb) ?_
      replace H0 := H0.call hb
      have D11 := Lib.hid hd
      clear hK K hb hd
      obtain ⟨rfl, rfl, rfl, rfl⟩ := Dig.same D11.out D4.out (or_less HA.out.lt HB.out.lt)
      refine Drawn.take 12 (some 43) (v := ?_) rfl rfl (by kernel_rfl) (by kernel_rfl) (by kernel_rfl) (by kernel_rfl) (by kernel_rfl) rfl (fun _ _ _ h => h) (Or.inl ⟨rfl, ?_⟩) H0 ?_
      rotate_left
      · intro W hW; have hW := HS.out W hW; go_simp; try with_reducible rfl
      simp only [put_list, List.set]
      refine Drawn.take 13 (some 44) (v := ?_) rfl rfl (by kernel_rfl) (by kernel_rfl) (by kernel_rfl) (by kernel_rfl) (by kernel_rfl) rfl (fun _ _ _ h => h) (Or.inl ⟨rfl, ?_⟩) H0 ?_
      rotate_left
      · intro W hW; have hW := HS.out W hW; go_simp; try with_reducible rfl
      simp only [put_list, List.set]
      refine Drawn.take 14 (some 45) (v := ?_) rfl rfl (by kernel_rfl) (by kernel_rfl) (by kernel_rfl) (by kernel_rfl) (by kernel_rfl) rfl (fun _ _ _ h => h) (Or.inl ⟨rfl, ?_⟩) H0 ?_
      rotate_left
      · intro W hW; have hW := HS.out W hW; go_simp; try with_reducible rfl
      simp only [put_list, List.set]
      refine Drawn.take 15 (some 46) (v := ?_) rfl rfl (by kernel_rfl) (by kernel_rfl) (by kernel_rfl) (by kernel_rfl) (by kernel_rfl) rfl (fun _ _ _ h => h) (Or.inl ⟨rfl, ?_⟩) H0 ?_
      rotate_left
      · intro W hW; have hW := HS.out W hW; go_simp; try with_reducible rfl
      simp only [put_list, List.set]
      refine Drawn.take 16 (some 47) (v := ?_) rfl rfl (by kernel_rfl) (by kernel_rfl) (by kernel_rfl) (by kernel_rfl) (by kernel_rfl) rfl (fun _ _ _ h => h) (Or.inl ⟨rfl, ?_⟩) H0 ?_
      rotate_left
      · intro W hW; have hW := HS.out W hW; go_simp; try with_reducible rfl
      simp only [put_list, List.set]
      refine Drawn.take 19 (some 50) (v := ?_) rfl rfl (by kernel_rfl) (by kernel_rfl) (by kernel_rfl) (by kernel_rfl) (by kernel_rfl) rfl (fun _ _ _ h => h) (Or.inl ⟨rfl, ?_⟩) H0 ?_
      rotate_left
      · intro W hW; have hW := HS.out W hW; go_simp; try with_reducible rfl
      simp only [put_list, List.set]
      refine Drawn.take 21 (some 52) (v := ?_) rfl rfl (by kernel_rfl) (by kernel_rfl) (by kernel_rfl) (by kernel_rfl) (by kernel_rfl) rfl (fun _ _ _ h => h) (Or.inl ⟨rfl, ?_⟩) H0 ?_
      rotate_left
      · intro W hW; have hW := HS.out W hW; go_simp; try with_reducible rfl
      simp only [put_list, List.set]
      refine Drawn.only 17 (by kernel_rfl) rfl rfl (fun K hK => ?_)
      go_simp
      refine (And_d HA.out HB.out _).mono ?_
      rintro e w9 ⟨p173, p172, p171, p170, rfl, hd, hb⟩
      refine hK _ _ (fun _ _ => H0.call hb) ?_
      replace H0 := H0.call hb
      have D17 := Lib.hid hd
      clear hK K hb hd
      refine Drawn.only 18 (by kernel_rfl) rfl rfl (fun K hK => ?_)
      go_simp
      refine (Not_d D17.out _).mono ?_
      rintro e w9 ⟨p183, p182, p181, p180, rfl, hd, hb⟩
      refine hK _ _ (fun _ _ => H0.call hb) ?_
      replace H0 := H0.call hb
      have D18 := Lib.hid hd
      clear hK K hb hd
      refine Drawn.only 20 (by kernel_rfl) rfl rfl (fun K hK => ?_)
      go_simp
      refine (Not_d HA.out _).mono ?_
      rintro e w9 ⟨p203, p202, p201, p200, rfl, hd, hb⟩
      refine hK _ _ (fun _ _ => H0.call hb) ?_
      replace H0 := H0.call hb
      have D20 := Lib.hid hd
      clear hK K hb hd
      refine Drawn.only 22 (by kernel_rfl) rfl rfl (fun K hK => ?_)
      go_simp
      refine (Not_d HB.out _).mono ?_
      rintro e w9 ⟨p223, p222, p221, p220, rfl, hd, hb⟩
      refine hK _ _ (fun _ _ => H0.call hb) ?_
      replace H0 := H0.call hb
      have D22 := Lib.hid hd
      clear hK K hb hd
      refine Drawn.only 23 (by kernel_rfl) rfl rfl (fun K hK => ?_)
      go_simp
      refine (Or_d D20.out D22.out _).mono ?_
      rintro e w9 ⟨p233, p232, p231, p230, rfl, hd, hb⟩
      refine hK _ _ (fun _ _ => H0.call hb) ?_
      replace H0 := H0.call hb
      have D23 := Lib.hid hd
      clear hK K hb hd
      obtain ⟨rfl, rfl, rfl, rfl⟩ := Dig.same D23.out D18.out (not_and HA.out.lt HB.out.lt).symm
      refine Drawn.take 24 (some 55) (v := ?_) rfl rfl (by kernel_rfl) (by kernel_rfl) (by kernel_rfl) (by kernel_rfl) (by kernel_rfl) rfl (fun _ _ _ h => h) (Or.inl ⟨rfl, ?_⟩) H0 ?_
      rotate_left
      · intro W hW; have hW := HS.out W hW; go_simp; try with_reducible rfl
      simp only [put_list, List.set]
      refine Drawn.take 25 (some 56) (v := ?_) rfl rfl (by kernel_rfl) (by kernel_rfl) (by kernel_rfl) (by kernel_rfl) (by kernel_rfl) rfl (fun _ _ _ h => h) (Or.inl ⟨rfl, ?_⟩) H0 ?_
      rotate_left
      · intro W hW; have hW := HS.out W hW; go_simp; try with_reducible rfl
      simp only [put_list, List.set]
      refine Drawn.take 26 (some 57) (v := ?_) rfl rfl (by kernel_rfl) (by kernel_rfl) (by kernel_rfl) (by kernel_rfl) (by kernel_rfl) rfl (fun _ _ _ h => h) (Or.inl ⟨rfl, ?_⟩) H0 ?_
      rotate_left
      · intro W hW; have hW := HS.out W hW; go_simp; try with_reducible rfl
      simp only [put_list, List.set]
      refine Drawn.take 27 (some 58) (v := ?_) rfl rfl (by kernel_rfl) (by kernel_rfl) (by kernel_rfl) (by kernel_rfl) (by kernel_rfl) rfl (fun _ _ _ h => h) (Or.inl ⟨rfl, ?_⟩) H0 ?_
      rotate_left
      · intro W hW; have hW := HS.out W hW; go_simp; try with_reducible rfl
      simp only [put_list, List.set]
      refine Drawn.take 28 (some 59) (v := ?_) rfl rfl (by kernel_rfl) (by kernel_rfl) (by kernel_rfl) (by kernel_rfl) (by kernel_rfl) rfl (fun _ _ _ h => h) (Or.inl ⟨rfl, ?_⟩) H0 ?_
      rotate_left
      · intro W hW; have hW := HS.out W hW; go_simp; try with_reducible rfl
      simp only [put_list, List.set]
      refine Drawn.take 29 (some 60) (v := ?_) rfl rfl (by kernel_rfl) (by kernel_rfl) (by kernel_rfl) (by kernel_rfl) (by kernel_rfl) rfl (fun _ _ _ h => h) (Or.inl ⟨rfl, ?_⟩) H0 ?_
      rotate_left
      · intro W hW; have hW := HS.out W hW; go_simp; try with_reducible rfl
      simp only [put_list, List.set]
      refine Drawn.only 30 (by kernel_rfl) rfl rfl (fun K hK => ?_)
      go_simp
      refine (And_d HA.out HM.out _).mono ?_
      rintro e w9 ⟨p303, p302, p301, p300, rfl, hd, hb⟩
      refine hK _ _ (fun _ _ => H0.call hb) ?_
      replace H0 := H0.call hb
      have D30 := Lib.hid hd
      clear hK K hb hd
      obtain ⟨rfl, rfl, rfl, rfl⟩ := Dig.same D30.out HL.out (low_mask x (Nat.min_le_right n 256)).symm
      refine Drawn.take 31 (some 62) (v := ?_) rfl rfl (by kernel_rfl) (by kernel_rfl) (by kernel_rfl) (by kernel_rfl) (by kernel_rfl) rfl (fun _ _ _ h => h) (Or.inl ⟨rfl, ?_⟩) H0 ?_
      rotate_left
      · intro W hW; have hW := HS.out W hW; go_simp; try with_reducible rfl
      simp only [put_list, List.set]
      refine Drawn.take 32 (some 63) (v := ?_) rfl rfl (by kernel_rfl) (by kernel_rfl) (by kernel_rfl) (by kernel_rfl) (by kernel_rfl) rfl (fun _ _ _ h => h) (Or.inl ⟨rfl, ?_⟩) H0 ?_
      rotate_left
      · intro W hW; have hW := HS.out W hW; go_simp; try with_reducible rfl
      simp only [put_list, List.set]
      refine Drawn.take 33 (some 64) (v := ?_) rfl rfl (by kernel_rfl) (by kernel_rfl) (by kernel_rfl) (by kernel_rfl) (by kernel_rfl) rfl (fun _ _ _ h => h) (Or.inl ⟨rfl, ?_⟩) H0 ?_
      rotate_left
      · intro W hW; have hW := HS.out W hW; go_simp; try with_reducible rfl
      simp only [put_list, List.set]
      refine Drawn.take 34 (some 65) (v := ?_) rfl rfl (by kernel_rfl) (by kernel_rfl) (by kernel_rfl) (by kernel_rfl) (by kernel_rfl) rfl (fun _ _ _ h => h) (Or.inl ⟨rfl, ?_⟩) H0 ?_
      rotate_left
      · intro W hW; have hW := HS.out W hW; go_simp; try with_reducible rfl
      simp only [put_list, List.set]
      refine Drawn.take 35 (some 66) (v := ?_) rfl rfl (by kernel_rfl) (by kernel_rfl) (by kernel_rfl) (by kernel_rfl) (by kernel_rfl) rfl (fun _ _ _ h => h) (Or.inl ⟨rfl, ?_⟩) H0 ?_
      rotate_left
      · intro W hW; have hW := HS.out W hW; go_simp; try with_reducible rfl
      simp only [put_list, List.set]
      refine Drawn.take 37 (some 68) (v := ?_) rfl rfl (by kernel_rfl) (by kernel_rfl) (by kernel_rfl) (by kernel_rfl) (by kernel_rfl) rfl (fun _ _ _ h => h) (Or.inl ⟨rfl, ?_⟩) H0 ?_
      rotate_left
      · intro W hW; have hW := HS.out W hW; go_simp; try with_reducible rfl
      simp only [put_list, List.set]
      refine Drawn.take 39 (some 70) (v := ?_) rfl rfl (by kernel_rfl) (by kernel_rfl) (by kernel_rfl) (by kernel_rfl) (by kernel_rfl) rfl (fun _ _ _ h => h) (Or.inl ⟨rfl, ?_⟩) H0 ?_
      rotate_left
      · intro W hW; have hW := HS.out W hW; go_simp; try with_reducible rfl
      simp only [put_list, List.set]
      refine Drawn.take 40 (some 71) (v := ?_) rfl rfl (by kernel_rfl) (by kernel_rfl) (by kernel_rfl) (by kernel_rfl) (by kernel_rfl) rfl (fun _ _ _ h => h) (Or.inl ⟨rfl, ?_⟩) H0 ?_
      rotate_left
      · intro W hW; have hW := HS.out W hW; go_simp; try with_reducible rfl
      simp only [put_list, List.set]
      refine Drawn.only 36 (by kernel_rfl) rfl rfl (fun K hK => ?_)
      go_simp
      refine (Byte_d (dig_one HI64.out) HA.out _).mono ?_
      rintro e w9 ⟨p363, p362, p361, p360, rfl, hd, hb⟩
      refine hK _ _ (fun _ _ => H0.call hb) ?_
      replace H0 := H0.call hb
      have D36 := Lib.hid hd
      clear hK K hb hd
      refine Drawn.only 38 (by kernel_rfl) rfl rfl (fun K hK => ?_)
      go_simp
      refine (Bytes_c HA.out _).mono ?_
      rintro e w9 ⟨rfl, hb⟩
      refine hK _ _ (fun _ _ => H0.call hb) ?_
      replace H0 := H0.call hb
      clear hK K hb
      have hix := index_u8 (bytesOf x) i (by rw [bytesOf_size]; exact HI32.out)
      rw [byteAt_bytes x i HI32.out] at hix
      have hv : byteOf x (31 - i) < 256 := Nat.mod_lt _ (by decide)
      have hwv : IntKind.u64.wrap ((byteOf x (31 - i) : Nat) : Int) = ((byteOf x (31 - i) : Nat) : Int) := by have := IntKind.wrap_u64 ((byteOf x (31 - i) : Nat) : Int); omega
      have hs36 : (if i < 32 then byteOf x (31 - i) else 0) = byteOf x (31 - i) := if_pos HI32.out
      have HV := Lib.hid (show byteOf x (31 - i) < M64 by unfold M64; omega)
      have HS36 := Lib.hid hs36
      clear hs36 hv
      generalize byteOf x (31 - i) = v at *
      generalize bytesOf x = sx at *
      refine Drawn.take 41 (some 72) (v := ?_) rfl rfl (by kernel_rfl) (by kernel_rfl) (by kernel_rfl) (by kernel_rfl) (by kernel_rfl) rfl (fun _ _ _ h => h) (Or.inl ⟨rfl, ?_⟩) H0 ?_
      rotate_left
      · intro W hW; have hW := HS.out W hW; go_simp; try with_reducible rfl
      simp only [put_list, List.set]
      refine Drawn.take 42 (some 73) (v := ?_) rfl rfl (by kernel_rfl) (by kernel_rfl) (by kernel_rfl) (by kernel_rfl) (by kernel_rfl) rfl (fun _ _ _ h => h) (Or.inl ⟨rfl, ?_⟩) H0 ?_
      rotate_left
      · intro W hW; have hW := HS.out W hW; go_simp; try with_reducible rfl
      simp only [put_list, List.set]
      refine Drawn.only 43 (by kernel_rfl) rfl rfl (fun K hK => ?_)
      go_simp
      refine (from_any v _).mono ?_
      rintro e w9 ⟨rfl, hb⟩
      refine hK _ _ (fun _ _ => H0.call hb) ?_
      replace H0 := H0.call hb
      clear hK K hb hix hwv
      obtain ⟨rfl, rfl, rfl, rfl⟩ := Dig.same (dig_one HV.out) D36.out HS36.out.symm
      refine Drawn.take 44 (some 75) (v := ?_) rfl rfl (by kernel_rfl) (by kernel_rfl) (by kernel_rfl) (by kernel_rfl) (by kernel_rfl) rfl (fun _ _ _ h => h) (Or.inl ⟨rfl, ?_⟩) H0 ?_
      rotate_left
      · intro W hW; have hW := HS.out W hW; go_simp; try with_reducible rfl
      simp only [put_list, List.set]
      refine Drawn.take 45 (some 76) (v := ?_) rfl rfl (by kernel_rfl) (by kernel_rfl) (by kernel_rfl) (by kernel_rfl) (by kernel_rfl) rfl (fun _ _ _ h => h) (Or.inl ⟨rfl, ?_⟩) H0 ?_
      rotate_left
      · intro W hW; have hW := HS.out W hW; go_simp; try with_reducible rfl
      simp only [put_list, List.set]
      refine Drawn.take 46 (some 77) (v := ?_) rfl rfl (by kernel_rfl) (by kernel_rfl) (by kernel_rfl) (by kernel_rfl) (by kernel_rfl) rfl (fun _ _ _ h => h) (Or.inl ⟨rfl, ?_⟩) H0 ?_
      rotate_left
      · intro W hW; have hW := HS.out W hW; go_simp; try with_reducible rfl
      simp only [put_list, List.set]
      refine Drawn.take 47 (some 78) (v := ?_) rfl rfl (by kernel_rfl) (by kernel_rfl) (by kernel_rfl) (by kernel_rfl) (by kernel_rfl) rfl (fun _ _ _ h => h) (Or.inl ⟨rfl, ?_⟩) H0 ?_
      rotate_left
      · intro W hW; have hW := HS.out W hW; go_simp; try with_reducible rfl
      simp only [put_list, List.set]
      refine Drawn.take 48 (some 79) (v := ?_) rfl rfl (by kernel_rfl) (by kernel_rfl) (by kernel_rfl) (by kernel_rfl) (by kernel_rfl) rfl (fun _ _ _ h => h) (Or.inl ⟨rfl, ?_⟩) H0 ?_
      rotate_left
      · intro W hW; have hW := HS.out W hW; go_simp; try with_reducible rfl
      simp only [put_list, List.set]
      refine Drawn.take 50 (some 81) (v := ?_) rfl rfl (by kernel_rfl) (by kernel_rfl) (by kernel_rfl) (by kernel_rfl) (by kernel_rfl) rfl (fun _ _ _ h => h) (Or.inl ⟨rfl, ?_⟩) H0 ?_
      rotate_left
      · intro W hW; have hW := HS.out W hW; go_simp; try with_reducible rfl
      simp only [put_list, List.set]
      refine Drawn.take 51 (some 82) (v := ?_) rfl rfl (by kernel_rfl) (by kernel_rfl) (by kernel_rfl) (by kernel_rfl) (by kernel_rfl) rfl (fun _ _ _ h => h) (Or.inl ⟨rfl, ?_⟩) H0 ?_
      rotate_left
      · intro W hW; have hW := HS.out W hW; go_simp; try with_reducible rfl
      simp only [put_list, List.set]
      refine Drawn.take 54 (some 85) (v := ?_) rfl rfl (by kernel_rfl) (by kernel_rfl) (by kernel_rfl) (by kernel_rfl) (by kernel_rfl) rfl (fun _ _ _ h => h) (Or.inl ⟨rfl, ?_⟩) H0 ?_
      rotate_left
      · intro W hW; have hW := HS.out W hW; go_simp; try with_reducible rfl
      simp only [put_list, List.set]
      refine Drawn.take 55 (some 86) (v := ?_) rfl rfl (by kernel_rfl) (by kernel_rfl) (by kernel_rfl) (by kernel_rfl) (by kernel_rfl) rfl (fun _ _ _ h => h) (Or.inl ⟨rfl, ?_⟩) H0 ?_
      rotate_left
      · intro W hW; have hW := HS.out W hW; go_simp; try with_reducible rfl
      simp only [put_list, List.set]
      refine Drawn.only 49 (by kernel_rfl) rfl rfl (fun K hK => ?_)
      go_simp
      refine (And_d HA.out HB.out _).mono ?_
      rintro e w9 ⟨p493, p492, p491, p490, rfl, hd, hb⟩
      refine hK _ _ (fun _ _ => H0.call hb) ?_
      replace H0 := H0.call hb
      have D49 := Lib.hid hd
      clear hK K hb hd
      refine Drawn.only 52 (by kernel_rfl) rfl rfl (fun K hK => ?_)
      go_simp
      refine (Or_d HA.out HB.out _).mono ?_
      rintro e w9 ⟨p523, p522, p521, p520, rfl, hd, hb⟩
      refine hK _ _ (fun _ _ => H0.call hb) ?_
      replace H0 := H0.call hb
      have D52 := Lib.hid hd
      clear hK K hb hd
      refine Drawn.only 53 (by kernel_rfl) rfl rfl (fun K hK => ?_)
      go_simp
      refine (Add_d D49.out D52.out _).mono ?_
      rintro e w9 ⟨p533, p532, p531, p530, rfl, hd, hb⟩
      refine hK _ _ (fun _ _ => H0.call hb) ?_
      replace H0 := H0.call hb
      have D53 := Lib.hid hd
      clear hK K hb hd
      refine Drawn.only 56 (by kernel_rfl) rfl rfl (fun K hK => ?_)
      go_simp
      refine (Add_d HA.out HB.out _).mono ?_
      rintro e w9 ⟨p563, p562, p561, p560, rfl, hd, hb⟩
      refine hK _ _ (fun _ _ => H0.call hb) ?_
      replace H0 := H0.call hb
      have D56 := Lib.hid hd
      clear hK K hb hd
      obtain ⟨rfl, rfl, rfl, rfl⟩ := Dig.same D56.out D53.out (add_and_or x y)
      refine Drawn.take 57 (some 88) (v := ?_) rfl rfl (by kernel_rfl) (by kernel_rfl) (by kernel_rfl) (by kernel_rfl) (by kernel_rfl) rfl (fun _ _ _ h => h) (Or.inl ⟨rfl, ?_⟩) H0 ?_
      rotate_left
      · intro W hW; have hW := HS.out W hW; go_simp; try with_reducible rfl
      simp only [put_list, List.set]
      refine Drawn.take 58 (some 89) (v := ?_) rfl rfl (by kernel_rfl) (by kernel_rfl) (by kernel_rfl) (by kernel_rfl) (by kernel_rfl) rfl (fun _ _ _ h => h) (Or.inl ⟨rfl, ?_⟩) H0 ?_
      rotate_left
      · intro W hW; have hW := HS.out W hW; go_simp; try with_reducible rfl
      simp only [put_list, List.set]
      refine Drawn.take 59 (some 6) (v := ?_) rfl rfl (by kernel_rfl) (by kernel_rfl) (by kernel_rfl) (by kernel_rfl) (by kernel_rfl) rfl (fun _ _ _ h => h) (Or.inl ⟨rfl, ?_⟩) H0 ?_
      rotate_left
      · intro W hW; have hW := HS.out W hW; go_simp; try with_reducible rfl
      simp only [put_list, List.set]
      refine Drawn.done (by kernel_rfl) ?_ _
      go_wp2
      go_ret
      exact ⟨rfl, H0.below⟩
    intro J K' hJ hK'
    have H0 := F.drew
    refine Drawn.startEx (fun i => i == 5) F (by kernel_rfl) ?_
    clear F
    refine Drawn.take 0 (some 23) (v := ?_) rfl rfl (by kernel_rfl) (by kernel_rfl) (by kernel_rfl) (by kernel_rfl) (by kernel_rfl) rfl (fun _ _ _ h => h) (Or.inl ⟨rfl, ?_⟩) H0 ?_
    rotate_left
    · intro W hW; have hW := HS.out W hW; go_simp; try with_reducible rfl
    simp only [put_list, List.set]
    refine Drawn.free 1 (some 24) (v := ?_) rfl rfl (by kernel_rfl) (by kernel_rfl) (by kernel_rfl) rfl (fun _ _ _ h => h) (Or.inl ⟨rfl, ?_⟩) (fun _ => H0) ?_
    rotate_left
    · intro W; go_simp; try with_reducible rfl
    simp only [put_list, List.set]
    have H1 := H0
    clear H0
    generalize World.drew _ = W0 at H1 ⊢
    refine Drawn.among [2, 4] (by kernel_rfl) (by decide) ?_
    intro i hi
    simp only [List.mem_cons, List.not_mem_nil, or_false] at hi
    rcases hi with rfl | rfl
    · refine ⟨_, rfl, rfl, fun K hK => ?_⟩
      go_simp
      refine (hNot.out _).mono ?_
      rintro e w7 ⟨q3, q2, q1, q0, rfl, hd, hb⟩
      refine hK _ _ (fun _ _ => H1.call hb) ?_
      replace H1 := H1.call hb
      have D2 := Lib.hid hd
      clear hK K hb hd
      refine Drawn.among [3, 4] (by kernel_rfl) (by decide) ?_
      intro i hi
      simp only [List.mem_cons, List.not_mem_nil, or_false] at hi
      rcases hi with rfl | rfl
      · refine ⟨_, rfl, rfl, fun K hK => ?_⟩
        go_simp
        refine ((Shr_d HK.out D2.out) _).mono ?_
        rintro e w8 ⟨m3, m2, m1, m0, rfl, hd, hb⟩
        refine hK _ _ (fun _ _ => H1.call hb) ?_
        replace H1 := H1.call hb
        have D3 := Lib.hid hd
        clear hK K hb hd
        refine Drawn.only 4 (by kernel_rfl) rfl rfl (fun K hK => ?_)
        go_simp
        refine hK _ _ (fun _ _ => H1.alloc _) ?_
        clear hK K
        have h9 : New4 _ (.int .u64 0) (.int .u64 0) (.int .u64 0) (.int .u64 0) 24 _ _ := New4.here _ H1.size
        replace H1 := H1.alloc (.cells #[.int .u64 0, .int .u64 0, .int .u64 0, .int .u64 0] 24)
        generalize World.alloc _ _ = W9 at H1 h9 ⊢
        obtain ⟨⟨r0, r1, r2, r3⟩, g0, g1, g2, g3⟩ := h9.cells
        refine Drawn.only 5 (by kernel_rfl) rfl rfl (fun K hK => ?_)
        go_simp
        refine hK _ _ (fun h => by simp at h) ?_
        exact Drawn.done (by kernel_rfl) (hK' _ _ (Met.intro (hJ _ _ ⟨_, _, _, _, _, _, _, _, _, rfl, D3.out, (H1.set4 h9.ge _ _ _ _).add (heap_set4 h9.1 _ _ _ _)⟩))) _
      · refine ⟨_, rfl, rfl, fun K hK => ?_⟩
        go_simp
        refine hK _ _ (fun _ _ => H1.alloc _) ?_
        clear hK K
        have h9 : New4 _ (.int .u64 0) (.int .u64 0) (.int .u64 0) (.int .u64 0) 24 _ _ := New4.here _ H1.size
        replace H1 := H1.alloc (.cells #[.int .u64 0, .int .u64 0, .int .u64 0, .int .u64 0] 24)
        generalize World.alloc _ _ = W9 at H1 h9 ⊢
        refine Drawn.only 3 (by kernel_rfl) rfl rfl (fun K hK => ?_)
        go_simp
        refine ((Shr_d HK.out D2.out) _).mono ?_
        rintro e w8 ⟨m3, m2, m1, m0, rfl, hd, hb⟩
        refine hK _ _ (fun _ _ => H1.call hb) ?_
        replace h9 := carry4 hb h9
        replace H1 := H1.call hb
        have D3 := Lib.hid hd
        clear hK K hb hd
        obtain ⟨⟨r0, r1, r2, r3⟩, g0, g1, g2, g3⟩ := h9.cells
        refine Drawn.only 5 (by kernel_rfl) rfl rfl (fun K hK => ?_)
        go_simp
        refine hK _ _ (fun h => by simp at h) ?_
        exact Drawn.done (by kernel_rfl) (hK' _ _ (Met.intro (hJ _ _ ⟨_, _, _, _, _, _, _, _, _, rfl, D3.out, (H1.set4 h9.ge _ _ _ _).add (heap_set4 h9.1 _ _ _ _)⟩))) _
    · refine ⟨_, rfl, rfl, fun K hK => ?_⟩
      go_simp
      refine hK _ _ (fun _ _ => H1.alloc _) ?_
      clear hK K
      have h9 : New4 _ (.int .u64 0) (.int .u64 0) (.int .u64 0) (.int .u64 0) 24 _ _ := New4.here _ H1.size
      replace H1 := H1.alloc (.cells #[.int .u64 0, .int .u64 0, .int .u64 0, .int .u64 0] 24)
      generalize World.alloc _ _ = W9 at H1 h9 ⊢
      refine Drawn.only 2 (by kernel_rfl) rfl rfl (fun K hK => ?_)
      go_simp
      refine (hNot.out _).mono ?_
      rintro e w7 ⟨q3, q2, q1, q0, rfl, hd, hb⟩
      refine hK _ _ (fun _ _ => H1.call hb) ?_
      replace h9 := carry4 hb h9
      replace H1 := H1.call hb
      have D2 := Lib.hid hd
      clear hK K hb hd
      refine Drawn.only 3 (by kernel_rfl) rfl rfl (fun K hK => ?_)
      go_simp
      refine ((Shr_d HK.out D2.out) _).mono ?_
      rintro e w8 ⟨m3, m2, m1, m0, rfl, hd, hb⟩
      refine hK _ _ (fun _ _ => H1.call hb) ?_
      replace h9 := carry4 hb h9
      replace H1 := H1.call hb
      have D3 := Lib.hid hd
      clear hK K hb hd
      obtain ⟨⟨r0, r1, r2, r3⟩, g0, g1, g2, g3⟩ := h9.cells
      refine Drawn.only 5 (by kernel_rfl) rfl rfl (fun K hK => ?_)
      go_simp
      refine hK _ _ (fun h => by simp at h) ?_
      exact Drawn.done (by kernel_rfl) (hK' _ _ (Met.intro (hJ _ _ ⟨_, _, _, _, _, _, _, _, _, rfl, D3.out, (H1.set4 h9.ge _ _ _ _).add (heap_set4 h9.1 _ _ _ _)⟩))) _
  intro J K' hJ hK'
  have H0 := H.drew
  refine Drawn.startEx (fun i => i == 6) H (by kernel_rfl) ?_
  clear H
  refine Drawn.take 0 (some 18) (v := ?_) rfl rfl (by kernel_rfl) (by kernel_rfl) (by kernel_rfl) (by kernel_rfl) (by kernel_rfl) rfl (fun _ _ _ h => h) (Or.inl ⟨rfl, ?_⟩) H0 ?_
  rotate_left
  · intro W hW; have hW := HS.out W hW; go_simp; try with_reducible rfl
  simp only [put_list, List.set]
  refine Drawn.take 1 (some 19) (v := ?_) rfl rfl (by kernel_rfl) (by kernel_rfl) (by kernel_rfl) (by kernel_rfl) (by kernel_rfl) rfl (fun _ _ _ h => h) (Or.inl ⟨rfl, ?_⟩) H0 ?_
  rotate_left
  · intro W hW; have hW := HS.out W hW; go_simp; try with_reducible rfl
  simp only [put_list, List.set]
  refine Drawn.take 2 (some 20) (v := ?_) rfl rfl (by kernel_rfl) (by kernel_rfl) (by kernel_rfl) (by kernel_rfl) (by kernel_rfl) rfl (fun _ _ _ h => h) (Or.inl ⟨rfl, ?_⟩) H0 ?_
  rotate_left
  · intro W hW; have hW := HS.out W hW; go_simp; try with_reducible rfl
  simp only [put_list, List.set]
  have H1 := H0
  clear H0
  generalize World.drew _ = W0 at H1 ⊢
  refine Drawn.among [3, 5] (by kernel_rfl) (by decide) ?_
  intro i hi
  simp only [List.mem_cons, List.not_mem_nil, or_false] at hi
  rcases hi with rfl | rfl
  · refine ⟨_, rfl, rfl, fun K hK => ?_⟩
    go_simp
    refine (hShl.out _).mono ?_
    rintro e w5 ⟨s3, s2, s1, s0, rfl, hd, hb⟩
    refine hK _ _ (fun _ _ => H1.call hb) ?_
    replace H1 := H1.call hb
    have D3 := Lib.hid hd
    clear hK K hb hd
    refine Drawn.among [4, 5] (by kernel_rfl) (by decide) ?_
    intro i hi
    simp only [List.mem_cons, List.not_mem_nil, or_false] at hi
    rcases hi with rfl | rfl
    · refine ⟨_, rfl, rfl, fun K hK => ?_⟩
      go_simp
      refine ((Shr_d HK.out D3.out) _).mono ?_
      rintro e w6 ⟨l3, l2, l1, l0, rfl, hd, hb⟩
      refine hK _ _ (fun _ _ => H1.call hb) ?_
      replace H1 := H1.call hb
      have D4 := Lib.hid hd
      clear hK K hb hd
      refine Drawn.only 5 (by kernel_rfl) rfl rfl (fun K hK => ?_)
      go_simp
      refine hK _ _ (fun _ _ => H1.alloc _) ?_
      clear hK K
      have h9 : New4 _ (.int .u64 0) (.int .u64 0) (.int .u64 0) (.int .u64 0) 24 _ _ := New4.here _ H1.size
      replace H1 := H1.alloc (.cells #[.int .u64 0, .int .u64 0, .int .u64 0, .int .u64 0] 24)
      generalize World.alloc _ _ = W9 at H1 h9 ⊢
      obtain ⟨⟨r0, r1, r2, r3⟩, g0, g1, g2, g3⟩ := h9.cells
      refine Drawn.only 6 (by kernel_rfl) rfl rfl (fun K hK => ?_)
      go_simp
      refine hK _ _ (fun h => by simp at h) ?_
      exact Drawn.done (by kernel_rfl) (hK' _ _ (Met.intro (hJ _ _ ⟨_, _, _, _, _, _, _, _, _, rfl, D4.out, (H1.set4 h9.ge _ _ _ _).add (heap_set4 h9.1 _ _ _ _)⟩))) _
    · refine ⟨_, rfl, rfl, fun K hK => ?_⟩
      go_simp
      refine hK _ _ (fun _ _ => H1.alloc _) ?_
      clear hK K
      have h9 : New4 _ (.int .u64 0) (.int .u64 0) (.int .u64 0) (.int .u64 0) 24 _ _ := New4.here _ H1.size
      replace H1 := H1.alloc (.cells #[.int .u64 0, .int .u64 0, .int .u64 0, .int .u64 0] 24)
      generalize World.alloc _ _ = W9 at H1 h9 ⊢
      refine Drawn.only 4 (by kernel_rfl) rfl rfl (fun K hK => ?_)
      go_simp
      refine ((Shr_d HK.out D3.out) _).mono ?_
      rintro e w6 ⟨l3, l2, l1, l0, rfl, hd, hb⟩
      refine hK _ _ (fun _ _ => H1.call hb) ?_
      replace h9 := carry4 hb h9
      replace H1 := H1.call hb
      have D4 := Lib.hid hd
      clear hK K hb hd
      obtain ⟨⟨r0, r1, r2, r3⟩, g0, g1, g2, g3⟩ := h9.cells
      refine Drawn.only 6 (by kernel_rfl) rfl rfl (fun K hK => ?_)
      go_simp
      refine hK _ _ (fun h => by simp at h) ?_
      exact Drawn.done (by kernel_rfl) (hK' _ _ (Met.intro (hJ _ _ ⟨_, _, _, _, _, _, _, _, _, rfl, D4.out, (H1.set4 h9.ge _ _ _ _).add (heap_set4 h9.1 _ _ _ _)⟩))) _
  · refine ⟨_, rfl, rfl, fun K hK => ?_⟩
    go_simp
    refine hK _ _ (fun _ _ => H1.alloc _) ?_
    clear hK K
    have h9 : New4 _ (.int .u64 0) (.int .u64 0) (.int .u64 0) (.int .u64 0) 24 _ _ := New4.here _ H1.size
    replace H1 := H1.alloc (.cells #[.int .u64 0, .int .u64 0, .int .u64 0, .int .u64 0] 24)
    generalize World.alloc _ _ = W9 at H1 h9 ⊢
    refine Drawn.only 3 (by kernel_rfl) rfl rfl (fun K hK => ?_)
    go_simp
    refine (hShl.out _).mono ?_
    rintro e w5 ⟨s3, s2, s1, s0, rfl, hd, hb⟩
    refine hK _ _ (fun _ _ => H1.call hb) ?_
    replace h9 := carry4 hb h9
    replace H1 := H1.call hb
    have D3 := Lib.hid hd
    clear hK K hb hd
    refine Drawn.only 4 (by kernel_rfl) rfl rfl (fun K hK => ?_)
    go_simp
    refine ((Shr_d HK.out D3.out) _).mono ?_
    rintro e w6 ⟨l3, l2, l1, l0, rfl, hd, hb⟩
    refine hK _ _ (fun _ _ => H1.call hb) ?_
    replace h9 := carry4 hb h9
    replace H1 := H1.call hb
    have D4 := Lib.hid hd
    clear hK K hb hd
    obtain ⟨⟨r0, r1, r2, r3⟩, g0, g1, g2, g3⟩ := h9.cells
    refine Drawn.only 6 (by kernel_rfl) rfl rfl (fun K hK => ?_)
    go_simp
    refine hK _ _ (fun h => by simp at h) ?_
    exact Drawn.done (by kernel_rfl) (hK' _ _ (Met.intro (hJ _ _ ⟨_, _, _, _, _, _, _, _, _, rfl, D4.out, (H1.set4 h9.ge _ _ _ _).add (heap_set4 h9.1 _ _ _ _)⟩))) _

end Go.Proofs.YtofoiifckkafcaaDoor
