/- The contract of WordBack: a number's bytes are it, and their order is its own. -/
import Derived.Test.YtofoiifckkafcaaDoorExam
namespace Go.Proofs.YtofoiifckkafcaaDoor
open Go.RowKit
attribute [local go_sem ↓] Go.wp_at_zero Go.wp_at_succ

/-- The number that a list of bytes is, the highest first. -/
def numOf : List UInt8 → Nat
  | [] => 0
  | a :: r => a.toNat * 256 ^ r.length + numOf r
theorem numOf_lt : ∀ l : List UInt8, numOf l < 256 ^ l.length
  | [] => by simp [numOf]
  | a :: r => by
    have h := numOf_lt r
    have ha : a.toNat < 256 := UInt8.toNat_lt a
    have h2 : a.toNat * 256 ^ r.length ≤ 255 * 256 ^ r.length := Nat.mul_le_mul_right _ (by omega)
    simp only [numOf, List.length_cons, Nat.pow_succ]
    omega
theorem less_num : ∀ l m : List UInt8, l.length = m.length → Op.bytesLess l m = decide (numOf l < numOf m)
  | [], [], _ => by simp [Op.bytesLess]
  | a :: r, b :: s, h => by
    have hl : r.length = s.length := by simpa using h
    have h1 := numOf_lt r
    have h2 := numOf_lt s
    rw [hl] at h1
    simp only [Op.bytesLess, less_num r s hl, numOf, hl]
    generalize 256 ^ s.length = p at *
    by_cases hab : a = b
    · subst hab
      have : ¬ a < a := by rw [UInt8.lt_iff_toNat_lt]; omega
      simp [this]
    · have hn : a.toNat ≠ b.toNat := fun e => hab (UInt8.toNat_inj.1 e)
      have hb : (a == b) = false := by simp [hab]
      simp only [hb, Bool.false_and, Bool.or_false]
      congr 1
      rw [UInt8.lt_iff_toNat_lt]
      apply propext
      generalize a.toNat = x at *
      generalize b.toNat = y at *
      constructor
      · intro hlt
        have : (x + 1) * p ≤ y * p := Nat.mul_le_mul_right _ hlt
        rw [Nat.add_mul] at this
        omega
      · intro hlt
        rcases Nat.lt_or_ge x y with h' | h'
        · exact h'
        · exfalso
          have : (y + 1) * p ≤ x * p := Nat.mul_le_mul_right _ (by omega)
          rw [Nat.add_mul] at this
          omega

/-- The n lowest bytes of x, the highest first. -/
theorem num_tail256 (x n : Nat) : numOf (tail256 x n) = x % 256 ^ n := by
  induction n with
  | zero => simp [tail256, numOf, Nat.mod_one]
  | succ n ih =>
    have hb : byteOf x n < 256 := Nat.mod_lt _ (by decide)
    simp only [tail256, numOf, tail256_length, ih]
    rw [Nat.mod_pow_succ, UInt8.toNat_ofNat_of_lt' hb, byteOf, Nat.mul_comm, Nat.add_comm]
theorem W256_pow : W256 = 256 ^ 32 := by decide +kernel
theorem less_bytes {x y : Nat} (hx : x < W256) (hy : y < W256) : Op.bytesLess (bytesOf x).toList (bytesOf y).toList = decide (x < y) := by
  rw [less_num _ _ (by rw [bytesOf_list, bytesOf_list, tail256_length, tail256_length]), bytesOf_list, bytesOf_list, num_tail256, num_tail256, ← W256_pow, Nat.mod_eq_of_lt hx, Nat.mod_eq_of_lt hy]

theorem last_bytes (x k : Nat) (hk : k ≤ 32) : lastOf (bytesOf x) k = x % 256 ^ k := by
  induction k with
  | zero => simp [lastOf, Nat.mod_one]
  | succ k ih =>
    rw [lastOf, ih (by omega), bytesOf_size, byteAt_bytes x _ (by omega), show 31 - (32 - 1 - k) = k by omega, Nat.mod_pow_succ, byteOf, Nat.mul_comm]
theorem last_all {x : Nat} (hx : x < W256) : lastOf (bytesOf x) (bytesOf x).size = x := by
  rw [bytesOf_size, last_bytes x 32 (Nat.le_refl _), ← W256_pow, Nat.mod_eq_of_lt hx]

theorem half : W256 / 2 = 128 * 256 ^ 31 := by decide +kernel
theorem sign_iff {x : Nat} (hx : x < W256) : 128 ≤ byteOf x 31 ↔ W256 / 2 ≤ x := by
  have h1 : x / 256 ^ 31 < 256 := by
    rw [W256_pow, Nat.pow_succ, Nat.mul_comm] at hx
    rw [Nat.div_lt_iff_lt_mul (Nat.pow_pos (by decide))]
    exact hx
  rw [byteOf, Nat.mod_eq_of_lt h1, half, Nat.le_div_iff_mul_le (Nat.pow_pos (by decide))]
theorem below_eq {x y : Nat} (hx : x < W256) (hy : y < W256) :
    (if decide (128 ≤ byteOf x 31) != decide (128 ≤ byteOf y 31) then decide (128 ≤ byteOf x 31) else decide (x < y)) = decide (flip255 x < flip255 y) := by
  have e1 : decide (128 ≤ byteOf x 31) = decide (W256 / 2 ≤ x) := decide_eq_decide.2 (sign_iff hx)
  have e2 : decide (128 ≤ byteOf y 31) = decide (W256 / 2 ≤ y) := decide_eq_decide.2 (sign_iff hy)
  rw [e1, e2]
  have hw : W256 = 2 * (W256 / 2) := by rw [half, W256_pow]
  unfold flip255
  generalize hg : W256 / 2 = m at *
  rw [hw] at hx hy ⊢
  have f1 : (x + m) % (2 * m) = if m ≤ x then x - m else x + m := by
    split
    · rw [show x + m = x - m + 2 * m by omega, Nat.add_mod_right, Nat.mod_eq_of_lt (by omega)]
    · rw [Nat.mod_eq_of_lt (by omega)]
  have f2 : (y + m) % (2 * m) = if m ≤ y then y - m else y + m := by
    split
    · rw [show y + m = y - m + 2 * m by omega, Nat.add_mod_right, Nat.mod_eq_of_lt (by omega)]
    · rw [Nat.mod_eq_of_lt (by omega)]
  rw [f1, f2]
  by_cases h1 : m ≤ x <;> by_cases h2 : m ≤ y <;> simp only [h1, h2, decide_true, decide_false, if_true, if_false, bne_self_eq_false, Bool.false_eq_true] <;> simp <;> omega

theorem index_first (s : ByteArray) (hs : s.size = 32) (W : World) : (Instr.index 9 (.string s) (.int .i64 0)).run Tryd.prog W = .ok (.int .u8 (byteAt s 0 : Int)) W := by
  rw [index_str s 0 0 (by omega) rfl W]
  unfold byteAt
  rw [dif_pos (by omega)]

set_option maxRecDepth 100000 in
set_option maxHeartbeats 2000000 in
theorem sign_c {x a3 a2 a1 a0 : Nat} (hx : Dig x a0 a1 a2 a3) (w : World) :
    Calls Tryd.prog 44 #[.agg #[.int .u64 a3, .int .u64 a2, .int .u64 a1, .int .u64 a0]] w (RetB (128 ≤ byteOf x 31) w) := by
  have HX := Lib.hid hx; clear hx
  have hi := index_first (bytesOf x) (bytesOf_size x)
  rw [byteAt_bytes x 0 (by decide)] at hi
  have hb : byteOf x (31 - 0) < 256 := Nat.mod_lt _ (by decide)
  generalize byteOf x (31 - 0) = b at hi hb
  have HI := Lib.hid hi; clear hi
  have HB := Lib.hid hb; clear hb
  go_enter Tryd.func44, Tryd.ntmps44
  go_wp2_with fail
  refine (Bytes_c HX.out _).mono ?_
  rintro e w1 ⟨rfl, hb1⟩
  have hB1 : Below w.heap.size w w1 := ((Below.refl _ _).alloc (Nat.le_refl _) _).trans (hb1.mono (by simp))
  clear hb1
  have hi := HI.out
  clear HI
  go_wp2_with fail
  go_ret
  refine ⟨?_, hB1⟩
  show Ending.returned (.bool (decide ((128 : Int) ≤ (b : Int)))) = .returned (.bool (decide (128 ≤ b)))
  rw [decide_eq_decide.2 (show (128 : Int) ≤ (b : Int) ↔ 128 ≤ b by omega)]

theorem Fr.c4 {w W : World} {B N : Nat} {L : List (Nat × Array Value × TypeId)} (h : Fr w B N L W) {b : Nat} {v0 v1 v2 v3 : Value} {t : TypeId} (hm : (b, #[v0, v1, v2, v3], t) ∈ L) :
    W.cell? ⟨b, 0, none⟩ = some v0 ∧ W.cell? ⟨b, 1, none⟩ = some v1 ∧ W.cell? ⟨b, 2, none⟩ = some v2 ∧ W.cell? ⟨b, 3, none⟩ = some v3 :=
  (cells4 (h.know _ hm).2).1

theorem Fr.reads3 {w W0 : World} {B N b1 b2 : Nat} {p0 : Nat × Array Value × TypeId} {v0 v1 v2 v3 u0 u1 u2 u3 : Value} {t1 t2 : TypeId} (_ : Fr w B N [p0, (b1, #[v0, v1, v2, v3], t1), (b2, #[u0, u1, u2, u3], t2)] W0) :
    ∀ W, Fr w B N [p0, (b1, #[v0, v1, v2, v3], t1), (b2, #[u0, u1, u2, u3], t2)] W →
      (W.cell? ⟨b1, 0, none⟩ = some v0 ∧ W.cell? ⟨b1, 1, none⟩ = some v1 ∧ W.cell? ⟨b1, 2, none⟩ = some v2 ∧ W.cell? ⟨b1, 3, none⟩ = some v3) ∧
      (W.cell? ⟨b2, 0, none⟩ = some u0 ∧ W.cell? ⟨b2, 1, none⟩ = some u1 ∧ W.cell? ⟨b2, 2, none⟩ = some u2 ∧ W.cell? ⟨b2, 3, none⟩ = some u3) :=
  fun _ h => ⟨h.c4 (.tail _ (.head _)), h.c4 (.tail _ (.tail _ (.head _)))⟩
theorem Fr.reads4 {w W0 : World} {B N b0 b1 b2 : Nat} {p0 : Nat × Array Value × TypeId} {x0 x1 x2 x3 v0 v1 v2 v3 u0 u1 u2 u3 : Value} {t0 t1 t2 : TypeId} (_ : Fr w B N [p0, (b0, #[x0, x1, x2, x3], t0), (b1, #[v0, v1, v2, v3], t1), (b2, #[u0, u1, u2, u3], t2)] W0) :
    ∀ W, Fr w B N [p0, (b0, #[x0, x1, x2, x3], t0), (b1, #[v0, v1, v2, v3], t1), (b2, #[u0, u1, u2, u3], t2)] W →
      (W.cell? ⟨b0, 0, none⟩ = some x0 ∧ W.cell? ⟨b0, 1, none⟩ = some x1 ∧ W.cell? ⟨b0, 2, none⟩ = some x2 ∧ W.cell? ⟨b0, 3, none⟩ = some x3) ∧
      (W.cell? ⟨b1, 0, none⟩ = some v0 ∧ W.cell? ⟨b1, 1, none⟩ = some v1 ∧ W.cell? ⟨b1, 2, none⟩ = some v2 ∧ W.cell? ⟨b1, 3, none⟩ = some v3) ∧
      (W.cell? ⟨b2, 0, none⟩ = some u0 ∧ W.cell? ⟨b2, 1, none⟩ = some u1 ∧ W.cell? ⟨b2, 2, none⟩ = some u2 ∧ W.cell? ⟨b2, 3, none⟩ = some u3) :=
  fun _ h => ⟨h.c4 (.tail _ (.head _)), h.c4 (.tail _ (.tail _ (.head _))), h.c4 (.tail _ (.tail _ (.tail _ (.head _))))⟩
/-- A region begins where blocks are known. -/
theorem Drawn.startFr {P : Program} {ops : Array Oper} {Q : Exit → Act → World → Prop} {w W : World} {B N : Nat} {L : List (Nat × Array Value × TypeId)} {id : Nat} {a : Act} (_ : Fr w B N L W) (hm : P.follows .mixedOrders = true)
    (h : Drawn P .any ops Q (Fr w B N L) (fun _ => false) ops.size (Array.replicate ops.size false) a W.drew) : (Code.region id ops true).wp P Q a W :=
  Drawn.start (Fr w B N L) (fun _ => false) hm h

set_option maxRecDepth 100000 in
set_option maxHeartbeats 4000000 in
theorem back_c {x y a3 a2 a1 a0 b3 b2 b1 b0 : Nat} (hx : Dig x a0 a1 a2 a3) (hy : Dig y b0 b1 b2 b3) (w : World) :
    Calls Tryd.prog 8 #[.agg #[.int .u64 a3, .int .u64 a2, .int .u64 a1, .int .u64 a0], .agg #[.int .u64 b3, .int .u64 b2, .int .u64 b1, .int .u64 b0]] w fun e w' =>
      e = .returned (.bool true) ∧ Below w.heap.size w w' := by
  have H := (((Fx.start w).new #[.int .u64 a3, .int .u64 a2, .int .u64 a1, .int .u64 a0] 24).new #[.int .u64 b3, .int .u64 b2, .int .u64 b1, .int .u64 b0] 24).1
  have hsa : (bytesOf x).size ≤ 32 := by rw [bytesOf_size]; exact Nat.le_refl _
  have HZ := Lib.hid (show ((bytesOf x).size : Int) = 32 by rw [bytesOf_size]; rfl)
  have hO := Of_short (bytesOf x) hsa
  rw [last_all hx.lt] at hO
  have hL := Lib.hid (Of_long (bytesOf x ++ ⟨#[120]⟩) (by rw [ByteArray.size_append, bytesOf_size]; decide))
  have hcat := Lib.hid (fun W => run_string_add_sum (P := Tryd.prog) (w := W) (bytesOf x) ⟨#[120]⟩ (by rw [bytesOf_size]; decide))
  have hlt := less_bytes hx.lt hy.lt
  have hbe := below_eq hx.lt hy.lt
  have hA := Lib.hid (Bytes_c hx); have hB := Lib.hid (Bytes_c hy)
  have hLe := Lib.hid (Less_c hx hy); have hBe := Lib.hid (Below_c hx hy)
  have hSa := Lib.hid (sign_c hx); have hSb := Lib.hid (sign_c hy)
  unfold RetB at hLe hBe hSa hSb
  generalize decide (128 ≤ byteOf x 31) = sa at *
  generalize decide (128 ≤ byteOf y 31) = sb at *
  generalize decide (x < y) = l at *
  generalize decide (flip255 x < flip255 y) = f at *
  have HA := Lib.hid hx; have HB := Lib.hid hy; clear hx hy
  generalize bytesOf x = s at *
  generalize bytesOf y = t at *
  have HO := Lib.hid hO; have HLT := Lib.hid hlt; have HBE := Lib.hid hbe
  clear hO hlt hbe hsa
  go_enter Tryd.func8, Tryd.ntmps8
  go_wp2_with fail
  refine (examples_c _).mono ?_
  rintro e w1 ⟨rfl, hb1⟩
  have H0 := H.call hb1
  have c1 := H0.c4 (.tail _ (.head _))
  clear hb1 H
  go_wp2_with fail
  refine (hA.out _).mono ?_
  rintro e w2 ⟨rfl, hb2⟩
  have H := H0.call hb2
  have c2 := H.c4 (.head _)
  clear hb2 c1 H0
  go_wp2_with fail
  refine (hB.out _).mono ?_
  rintro e w3 ⟨rfl, hb3⟩
  have H0 := H.call hb3
  clear hb3 c2 H
  go_wp2_with fail
  refine (HO.out _).mono ?_
  rintro e w4 ⟨v, t3, t2, t1, t0, rfl, ht, hv, hb4⟩
  obtain ⟨rfl, rfl, rfl, rfl⟩ := (hv ▸ ht : Dig x t0 t1 t2 t3).inj HA.out
  have H := ((H0.call hb4).up).new #[.int .u64 t3, .int .u64 t2, .int .u64 t1, .int .u64 t0] 24
  clear hb4 hv ht H0
  have hlt := HLT.out
  go_wp2_with fail
  clear hlt
  have H0 := H.drew
  have HS := Lib.hid H0.reads3
  refine Drawn.startFr H (by kernel_rfl) ?_
  clear H
  refine Drawn.take 0 (some 29) (v := ?_) rfl rfl (by kernel_rfl) (by kernel_rfl) (by kernel_rfl) (by kernel_rfl) (by kernel_rfl) rfl (fun _ _ _ h => h) (Or.inl ⟨rfl, ?_⟩) H0 ?_
  rotate_left
  · intro W hW; have hW := HS.out W hW; go_simp; try with_reducible rfl
  simp only [put_list, List.set]
  refine Drawn.take 1 (some 30) (v := ?_) rfl rfl (by kernel_rfl) (by kernel_rfl) (by kernel_rfl) (by kernel_rfl) (by kernel_rfl) rfl (fun _ _ _ h => h) (Or.inl ⟨rfl, ?_⟩) H0 ?_
  rotate_left
  · intro W hW; have hW := HS.out W hW; go_simp; try with_reducible rfl
  simp only [put_list, List.set]
  refine Drawn.take 3 (some 32) (v := ?_) rfl rfl (by kernel_rfl) (by kernel_rfl) (by kernel_rfl) (by kernel_rfl) (by kernel_rfl) rfl (fun _ _ _ h => h) (Or.inl ⟨rfl, ?_⟩) H0 ?_
  rotate_left
  · intro W hW; have hW := HS.out W hW; go_simp; try with_reducible rfl
  simp only [put_list, List.set]
  refine Drawn.take 4 (some 33) (v := ?_) rfl rfl (by kernel_rfl) (by kernel_rfl) (by kernel_rfl) (by kernel_rfl) (by kernel_rfl) rfl (fun _ _ _ h => h) (Or.inl ⟨rfl, ?_⟩) H0 ?_
  rotate_left
  · intro W hW; have hW := HS.out W hW; go_simp; try with_reducible rfl
  simp only [put_list, List.set]
  refine Drawn.only 2 (by kernel_rfl) rfl rfl (fun K hK => ?_)
  go_simp
  refine (hSa.out _).mono ?_
  rintro e w6 ⟨rfl, hb⟩
  refine hK _ _ (fun _ _ => H0.call hb) ?_
  replace H0 := H0.call hb
  clear hK K hb
  refine Drawn.only 5 (by kernel_rfl) rfl rfl (fun K hK => ?_)
  go_simp
  refine (hSb.out _).mono ?_
  rintro e w7 ⟨rfl, hb⟩
  refine hK _ _ (fun _ _ => H0.call hb) ?_
  replace H0 := H0.call hb
  clear hK K hb
  refine Drawn.take 6 (some 35) (v := ?_) rfl rfl (by kernel_rfl) (by kernel_rfl) (by kernel_rfl) (by kernel_rfl) (by kernel_rfl) rfl (fun _ _ _ h => h) (Or.inl ⟨rfl, ?_⟩) H0 ?_
  rotate_left
  · intro W hW; have hW := HS.out W hW; go_simp; try with_reducible rfl
  simp only [put_list, List.set]
  refine Drawn.done (by kernel_rfl) ?_ _
  clear HS
  have hbe : (if (!(sa == sb)) = true then sa else l) = f := HBE.out
  clear HBE
  generalize (!(sa == sb)) = ne at hbe ⊢
  cases ne
  · obtain rfl : l = f := hbe
    have hcat := hcat.out
    go_wp2_with fail
    refine (hL.out _).mono ?_
    rintro e w8 ⟨rfl, hb⟩
    replace H0 := ((H0.call hb).up).new #[.int .u64 0, .int .u64 0, .int .u64 0, .int .u64 0] 24
    have c0 := H0.c4 (.tail _ (.head _))
    have c1 := H0.c4 (.tail _ (.tail _ (.tail _ (.head _))))
    have c2 := H0.c4 (.tail _ (.tail _ (.head _)))
    have hz := HZ.out
    clear hb hcat hL
    go_wp2_with fail
    refine (hLe.out _).mono ?_
    rintro e w9 ⟨rfl, hb⟩
    replace H0 := H0.call hb
    have hlt := HLT.out
    have c1 := H0.c4 (.tail _ (.tail _ (.tail _ (.head _))))
    have c2 := H0.c4 (.tail _ (.tail _ (.head _)))
    clear hb c0
    go_wp2_with fail
    refine (hBe.out _).mono ?_
    rintro e w10 ⟨rfl, hb⟩
    replace H0 := H0.call hb
    clear hb c1 c2 hlt
    go_wp2_with fail
    go_ret
    exact ⟨rfl, H0.below⟩
  · obtain rfl : sa = f := hbe
    have c1 := H0.c4 (.tail _ (.tail _ (.head _)))
    go_wp2_with fail
    refine (hSa.out _).mono ?_
    rintro e w8 ⟨rfl, hb⟩
    replace H0 := H0.call hb
    clear hb c1
    have hcat := hcat.out
    go_wp2_with fail
    refine (hL.out _).mono ?_
    rintro e w8 ⟨rfl, hb⟩
    replace H0 := ((H0.call hb).up).new #[.int .u64 0, .int .u64 0, .int .u64 0, .int .u64 0] 24
    have c0 := H0.c4 (.tail _ (.head _))
    have c1 := H0.c4 (.tail _ (.tail _ (.tail _ (.head _))))
    have c2 := H0.c4 (.tail _ (.tail _ (.head _)))
    have hz := HZ.out
    clear hb hcat hL
    go_wp2_with fail
    refine (hLe.out _).mono ?_
    rintro e w9 ⟨rfl, hb⟩
    replace H0 := H0.call hb
    have hlt := HLT.out
    have c1 := H0.c4 (.tail _ (.tail _ (.tail _ (.head _))))
    have c2 := H0.c4 (.tail _ (.tail _ (.head _)))
    clear hb c0
    go_wp2_with fail
    refine (hBe.out _).mono ?_
    rintro e w10 ⟨rfl, hb⟩
    replace H0 := H0.call hb
    clear hb c1 c2 hlt
    go_wp2_with fail
    go_ret
    exact ⟨rfl, H0.below⟩

end Go.Proofs.YtofoiifckkafcaaDoor
