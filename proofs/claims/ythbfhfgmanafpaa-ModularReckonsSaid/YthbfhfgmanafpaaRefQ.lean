/- The contract of the reference's Product. -/
import Derived.Test.YthbfhfgmanafpaaRefE
namespace Go.Proofs.Ythbfhfgmanafpaa
open Go.RowKit Go.Joins

/-- A row of n ints. -/
def iblk (n : Nat) (o : Nat → Nat) : Array Value := ((List.range n).map fun j => Value.int .i64 (o j : Int)).toArray
def ups (o : Nat → Nat) (j v : Nat) : Nat → Nat := fun i => if i = j then v else o i
theorem iblk_size (n : Nat) (o : Nat → Nat) : (iblk n o).size = n := by simp [iblk]
theorem iblk_at {n : Nat} (o : Nat → Nat) {j : Nat} (hj : j < n) : (iblk n o)[j]? = some (.int .i64 (o j : Int)) := by simp [iblk, hj]
theorem iblk_none {n : Nat} (o : Nat → Nat) {j : Nat} (hj : n ≤ j) : (iblk n o)[j]? = none := by simp [iblk]; omega
theorem iblk_set {n : Nat} (o : Nat → Nat) (q v : Nat) : (iblk n o).setIfInBounds q (.int .i64 (v : Int)) = iblk n (ups o q v) := by
  apply Array.ext_getElem?
  intro j
  rw [Array.getElem?_setIfInBounds]
  by_cases hj : j < n
  · rw [iblk_at _ hj, iblk_at _ hj]
    by_cases e : q = j
    · subst e; simp [iblk_size, hj, ups]
    · rw [if_neg e]
      unfold ups
      rw [if_neg (Ne.symm e)]
  · rw [iblk_none _ (by omega), iblk_none _ (by omega)]
    by_cases e : q = j
    · subst e; rw [if_pos rfl, if_neg (by rw [iblk_size]; omega)]
    · rw [if_neg e]
theorem iblk_congr {n : Nat} {f g : Nat → Nat} (h : ∀ j, j < n → f j = g j) : iblk n f = iblk n g := by
  unfold iblk
  congr 1
  apply List.map_congr_left
  intro j hj
  rw [h j (by simpa using hj)]
theorem lowB_ups (o : Nat → Nat) {j n : Nat} (v : Nat) (hj : j < n) : lowB (ups o j v) n + o j * 256 ^ j = lowB o n + v * 256 ^ j := by
  induction n with
  | zero => omega
  | succ n ih =>
    simp only [lowB]
    by_cases e : j = n
    · subst e
      have h : lowB (ups o j v) j = lowB o j := lowB_congr fun i hi => by unfold ups; rw [if_neg (by omega)]
      rw [h, show ups o j v j = v from if_pos rfl]
      omega
    · have h := ih (by omega)
      rw [show ups o j v n = o n from if_neg (by omega)]
      omega
theorem lowB_nil (o : Nat → Nat) : lowB o 0 = 0 := rfl
theorem lowB_zero {o : Nat → Nat} (n : Nat) (h : ∀ j, j < n → o j = 0) : lowB o n = 0 := by
  induction n with
  | zero => rfl
  | succ n ih => simp only [lowB]; rw [ih fun j hj => h j (by omega), h n (by omega)]; simp
/-- The product's state at the head of an outer round; inside it. -/
structure PS (w : World) (a b : Nat → Nat) (i : Nat) (o : Nat → Nat) (W : World) : Prop where
  below : Below w.heap.size w W
  row : W.heap[w.heap.size]? = some (.cells (iblk 64 o) 3 (0, 0))
  lt : ∀ j, o j < 256
  zero : ∀ j, i + 32 ≤ j → o j = 0
  eq : lowB o 64 = lowB a i * lowB b 32
structure QS (w : World) (a b : Nat → Nat) (i k c : Nat) (o : Nat → Nat) (W : World) : Prop where
  below : Below w.heap.size w W
  row : W.heap[w.heap.size]? = some (.cells (iblk 64 o) 3 (0, 0))
  lt : ∀ j, o j < 256
  zero : ∀ j, i + 32 ≤ j → (k ≤ 32 ∨ i + 33 ≤ j) → o j = 0
  cry : c ≤ 255
  last : k = 33 → c = 0
  eq : lowB o 64 + c * 256 ^ (i + k) = lowB a i * lowB b 32 + a i * lowB b (min k 32) * 256 ^ i
theorem PS.inn {w W : World} {a b : Nat → Nat} {i : Nat} {o : Nat → Nat} (h : PS w a b i o W) : QS w a b i 0 0 o W :=
  ⟨h.below, h.row, h.lt, fun j hj _ => h.zero j hj, by omega, fun e => by omega, by
    rw [Nat.zero_mul, Nat.add_zero, h.eq, Nat.min_eq_left (Nat.zero_le 32), lowB_nil, Nat.mul_zero, Nat.zero_mul, Nat.add_zero]⟩
theorem QS.out {w W : World} {a b : Nat → Nat} {i k : Nat} {o : Nat → Nat} (h : QS w a b i k 0 o W) (hk : 32 ≤ k) (hk2 : k ≤ 33) : PS w a b (i + 1) o W :=
  ⟨h.below, h.row, h.lt, fun j hj => h.zero j (by omega) (by omega), by
    have e := h.eq
    rw [Nat.zero_mul, Nat.add_zero, show min k 32 = 32 by omega] at e
    rw [e]
    show _ = (lowB a i + a i * 256 ^ i) * _
    rw [Nat.add_mul, Nat.mul_right_comm]⟩
theorem QS.drewN {w W : World} {a b : Nat → Nat} {i k c : Nat} {o : Nat → Nat} (h : QS w a b i k c o W) (n : Nat) : QS w a b i k c o (W.drewN n) :=
  ⟨⟨h.below.os, h.below.tape, h.below.output, h.below.size, h.below.block⟩, h.row, h.lt, h.zero, h.cry, h.last, h.eq⟩
theorem QS.set {w W : World} {a b : Nat → Nat} {i k c k' c' : Nat} {o : Nat → Nat} (h : QS w a b i k c o W) (v : Nat) (hv : v < 256) (hc : c' ≤ 255) (hl : k' = 33 → c' = 0)
    (hz : k' ≤ 32 → i + k < i + 32) (hk : i + k < 64) (hk2 : k ≤ 32) (he : lowB (ups o (i + k) v) 64 + c' * 256 ^ (i + k') = lowB a i * lowB b 32 + a i * lowB b (min k' 32) * 256 ^ i) :
    QS w a b i k' c' (ups o (i + k) v) (W.setCell ⟨w.heap.size, i + k, none⟩ (.int .i64 (v : Int))) := by
  refine ⟨h.below.setCell (Nat.le_refl _) _, ?_, fun j => ?_, fun j hj hj2 => ?_, hc, hl, he⟩
  · rw [heap_setCell_same _ _ _ _ _ _ h.row, iblk_set]
  · unfold ups
    split
    · exact hv
    · exact h.lt j
  · unfold ups
    rw [if_neg (by omega)]
    exact h.zero j hj (by omega)
/-- One byte of the product. -/
theorem prod_step {a b o : Nat → Nat} {i k c : Nat} (hk : k < 32) (hi : i + k < 64) (he : lowB o 64 + c * 256 ^ (i + k) = lowB a i * lowB b 32 + a i * lowB b (min k 32) * 256 ^ i) :
    lowB (ups o (i + k) ((c + a i * b k + o (i + k)) % 256)) 64 + (c + a i * b k + o (i + k)) / 256 * 256 ^ (i + (k + 1)) = lowB a i * lowB b 32 + a i * lowB b (min (k + 1) 32) * 256 ^ i := by
  have h1 := lowB_ups o ((c + a i * b k + o (i + k)) % 256) hi
  rw [show min k 32 = k by omega] at he
  rw [show min (k + 1) 32 = k + 1 by omega]
  have h2 : a i * lowB b (k + 1) * 256 ^ i = a i * lowB b k * 256 ^ i + a i * b k * 256 ^ (i + k) := by
    simp only [lowB]
    rw [Nat.mul_add, Nat.add_mul, Nat.pow_add]
    congr 1
    rw [Nat.mul_assoc, Nat.mul_assoc, Nat.mul_assoc]
    congr 1
    congr 1
    exact Nat.mul_comm _ _
  rw [h2, ← Nat.add_assoc i k 1, Nat.pow_succ]
  generalize hs : c + a i * b k + o (i + k) = s at *
  have h3 : s * 256 ^ (i + k) = c * 256 ^ (i + k) + a i * b k * 256 ^ (i + k) + o (i + k) * 256 ^ (i + k) := by rw [← hs, Nat.add_mul, Nat.add_mul]
  have h4 : s * 256 ^ (i + k) = s % 256 * 256 ^ (i + k) + s / 256 * (256 ^ (i + k) * 256) := by
    conv => lhs; rw [← Nat.mod_add_div s 256]
    rw [Nat.add_mul, Nat.mul_comm 256, Nat.mul_assoc, Nat.mul_comm 256]
  omega
theorem prod_last {a b o : Nat → Nat} {i c : Nat} (hi : i + 32 < 64) (ho : o (i + 32) = 0) (he : lowB o 64 + c * 256 ^ (i + 32) = lowB a i * lowB b 32 + a i * lowB b (min 32 32) * 256 ^ i) :
    lowB (ups o (i + 32) c) 64 + 0 * 256 ^ (i + 33) = lowB a i * lowB b 32 + a i * lowB b (min 33 32) * 256 ^ i := by
  have h1 := lowB_ups o c hi
  rw [ho] at h1
  rw [show min 33 32 = min 32 32 from rfl, ← he]
  omega

set_option maxRecDepth 100000 in
set_option maxHeartbeats 4000000 in
theorem Product_c {a b : Nat → Nat} {va vb : Value} (ha : ∀ j, a j < 256) (hb : ∀ j, b j < 256) (w : World) (hva : BytesRow w va 32 a) (hvb : BytesRow w vb 32 b) :
    Calls Try.prog 48 #[va, vb] w fun e w' => ∃ p v, e = .returned v ∧ (∀ j, p j < 256) ∧ lowB p 64 = lowB a 32 * lowB b 32 ∧ BytesRow w' v 64 p ∧ Below w.heap.size w w' := by
  obtain ⟨ga, ca, rfl, hga, hca⟩ := hva
  obtain ⟨gb, cb, rfl, hgb, hcb⟩ := hvb
  have HCA := Lib.hid hca; have HCB := Lib.hid hcb
  clear hca hcb
  have hmk : ∀ w : World, (Instr.makeSlice 39 (.int .i64 64) (.int .i64 64)).run Try.prog w = .ok (.slice (some ⟨w.heap.size, 0, none⟩) 64 64) (w.alloc (.cells (iblk 64 fun _ => 0) 3)) := fun _ => by kernel_rfl
  have H0 := Lib.hid (show PS w a b 0 (fun _ => 0) (w.alloc (.cells (iblk 64 fun _ => 0) 3)) from
    ⟨(Below.refl _ _).alloc (Nat.le_refl _) _, heap_alloc_new _ _, fun _ => by show 0 < 256; decide, fun _ _ => rfl, by rw [lowB_zero 64 fun _ _ => rfl, show lowB a 0 = 0 from rfl, Nat.zero_mul]⟩)
  go_enter Try.func48, Try.ntmps48
  go_wp2_with fail
  go_loopw [6] (fun i wr => ∃ (k : Nat) (o : Nat → Nat), i = .int .i64 k ∧ k ≤ 32 ∧ PS w a b k o wr) (fun i _ => 32 - (intOf i).toNat)
  case atStart => exact ⟨0, _, rfl, by omega, H0.out⟩
  case round =>
    clear H0
    obtain ⟨i, o, rfl, hi, hS⟩ := hrel
    by_cases hlt : i < 32
    · have HS0 := Lib.hid hS; clear hS
      have hii : (i : Int) < 32 := by omega
      go_wp2_with fail
      have hd1 : decide ((i : Int) < 32) = true := by simpa using hii
      go_loopw [7, 8] (fun cv kv wr => ∃ (c k : Nat) (o : Nat → Nat), cv = .int .i64 c ∧ kv = .int .i64 k ∧ k ≤ 33 ∧ QS w a b i k c o wr) (fun _ kv _ => 33 - (intOf kv).toNat)
      case atStart => exact ⟨0, 0, o, rfl, rfl, by omega, HS0.out.inn⟩
      case round =>
        clear HS0
        obtain ⟨c, k, o, rfl, rfl, hk, hS⟩ := hrel
        have hcry := hS.cry
        by_cases hk32 : k < 32
        · have hki : (k : Int) < 32 := by omega
          have HE := Lib.hid (fun n => (hS.drewN n).set ((c + a i * b k + o (i + k)) % 256) (Nat.mod_lt _ (by decide)) (k' := k + 1) (c' := (c + a i * b k + o (i + k)) / 256) (by
              have := ha i; have := hb k; have := hS.lt (i + k)
              have := Nat.mul_le_mul (show a i ≤ 255 by omega) (show b k ≤ 255 by omega)
              omega) (fun e => by omega) (fun _ => by omega) (by omega) (by omega) (prod_step hk32 (by omega) hS.eq))
          have c1 : wr.cell? ⟨ga, i, none⟩ = some (.int .i64 (a i : Nat)) := (hS.below.cell (p := ⟨ga, i, none⟩) hga).trans (HCA.out i hlt)
          have c2 : wr.cell? ⟨gb, k, none⟩ = some (.int .i64 (b k : Nat)) := (hS.below.cell (p := ⟨gb, k, none⟩) hgb).trans (HCB.out k hk32)
          have c3 := (cell_of hS.row (i + k)).trans (iblk_at o (by omega))
          have e3 := free_of hS.row (i + k)
          have hm : a i * b k ≤ 65025 := Nat.mul_le_mul (show a i ≤ 255 by have := ha i; omega) (show b k ≤ 255 by have := hb k; omega)
          have ho := hS.lt (i + k)
          have hab : (a i : Int) * (b k : Int) = ((a i * b k : Nat) : Int) := by simp
          clear hS
          generalize a i * b k = m at *
          generalize a i = x at *
          generalize b k = y at *
          generalize o (i + k) = z at *
          obtain ⟨s, hs⟩ : ∃ s, c + m + z = s := ⟨_, rfl⟩
          rw [hs] at HE
          obtain ⟨t, ht⟩ : ∃ t, c + m = t := ⟨_, rfl⟩
          have s1 : (c : Int) + (m : Int) = (t : Int) := by omega
          have s2 : (t : Int) + (z : Int) = (s : Int) := by omega
          have hs3 : s ≤ 66000 := by omega
          have s3 : (s : Int).tmod 256 = ((s % 256 : Nat) : Int) := by rw [Int.tmod_eq_emod_of_nonneg (by omega)]; omega
          have s4 : (s : Int) % 256 = ((s % 256 : Nat) : Int) := by omega
          have s5 : (s : Int).tdiv 256 = ((s / 256 : Nat) : Int) := by rw [Int.tdiv_eq_ediv_of_nonneg (by omega)]; omega
          have s6 : (s : Int) / 256 = ((s / 256 : Nat) : Int) := by omega
          generalize s % 256 = sv at *
          generalize hsc : s / 256 = sc at *
          have w1 : IntKind.i64.wrap (m : Int) = (m : Int) := IntWalk.i64_in _ (by omega)
          have w2 : IntKind.i64.wrap (t : Int) = (t : Int) := IntWalk.i64_in _ (by omega)
          have w3 : IntKind.i64.wrap (s : Int) = (s : Int) := IntWalk.i64_in _ (by omega)
          have w4 : IntKind.i64.wrap ((i : Int) + (k : Int)) = (i : Int) + (k : Int) := IntWalk.i64_in _ (by omega)
          have n1 : ((i : Int) + (k : Int)).toNat = i + k := by omega
          have b1 : (0 : Int) ≤ (i : Int) + (k : Int) ∧ (i : Int) + (k : Int) < 64 := by omega
          have hmn := Lib.hid (And.intro hm (And.intro hs ht))
          clear hm hs ht hsc
          go_wp2_with fail
          go_quiet (fail)
          have HE2 := Lib.hid (HE.out nq)
          have c4 : (wr.drewN nq).cell? ⟨w.heap.size, i + k, none⟩ = some (.int .i64 (z : Nat)) := c3
          have e4 : (wr.drewN nq).frozen? ⟨w.heap.size, i + k, none⟩ = false := e3
          clear HE c1 c2 c3 e3
          generalize wr.drewN nq = wq at *
          go_wp2_with fail
          clear hd1 s1 s2 s3 s4 s5 s6 w1 w2 w3 w4 n1 b1 c4 e4 hab
          go_roundw
          case rel => exact ⟨sc, k + 1, _, rfl, by go_num, by omega, HE2.out⟩
          case measure => simp [intOf]; omega
        · have hki : ¬ (k : Int) < 32 := by omega
          by_cases hc0 : c = 0
          · subst hc0
            have HE := Lib.hid (hS.out (by omega) hk)
            clear hS
            go_wp2_with fail
            clear hd1
            go_roundw
            case rel => exact ⟨i + 1, o, by go_num, by omega, HE.out⟩
            case measure => simp [intOf]; omega
          · have hk2 : k = 32 := by
              rcases Nat.lt_or_ge k 33 with h | h
              · omega
              · exact absurd (hS.last (by omega)) hc0
            subst hk2
            have hz := hS.zero (i + 32) (by omega) (by omega)
            have HE := Lib.hid (hS.set c (by omega) (k' := 33) (c' := 0) (by omega) (fun _ => rfl) (fun e => by omega) (by omega) (by omega) (prod_last (by omega) hz hS.eq))
            have c3 := (cell_of hS.row (i + 32)).trans (iblk_at o (by omega))
            rw [hz] at c3
            have e3 := free_of hS.row (i + 32)
            have hc1 : (0 : Int) < (c : Int) := by omega
            have s3 : (c : Int).tmod 256 = (c : Int) := by rw [Int.tmod_eq_emod_of_nonneg (by omega)]; omega
            have s4 : (c : Int) % 256 = (c : Int) := by omega
            have s5 : (c : Int).tdiv 256 = 0 := by rw [Int.tdiv_eq_ediv_of_nonneg (by omega)]; omega
            have s6 : (c : Int) / 256 = 0 := by omega
            have w4 : IntKind.i64.wrap ((i : Int) + 32) = (i : Int) + 32 := IntWalk.i64_in _ (by omega)
            have n1 : ((i : Int) + 32).toNat = i + 32 := by omega
            have b1 : (0 : Int) ≤ (i : Int) + 32 ∧ (i : Int) + 32 < 64 := by omega
            clear hS hz hki hk32 hk
            go_wp2_with fail
            clear hd1 s3 s4 s5 s6 w4 n1 b1 c3 e3 hc1
            go_roundw
            case rel => exact ⟨0, 33, _, rfl, rfl, Nat.le_refl _, HE.out⟩
            case measure => simp [intOf]
    · obtain rfl : i = 32 := by omega
      have HB := Lib.hid hS.below
      have HV := Lib.hid (show BytesRow wr (.slice (some ⟨w.heap.size, 0, none⟩) 64 64) 64 o from ⟨_, _, rfl, lt_of hS.row, fun j hj => (cell_of hS.row j).trans (iblk_at o hj)⟩)
      have HL := Lib.hid (And.intro hS.lt hS.eq)
      clear hS
      go_wp2_with fail
      go_ret
      exact ⟨o, _, rfl, HL.out.1, HL.out.2, HV.out, HB.out⟩
end Go.Proofs.Ythbfhfgmanafpaa
