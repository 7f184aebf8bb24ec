/- The contract of the reference's Sum; rows of bytes. -/
import Derived.Test.YthbfhfgmanafpaaRefB
namespace Go.Proofs.Ythbfhfgmanafpaa
open Go.RowKit Go.Joins

/-- A slice that holds the n bytes b, as ints. -/
def BytesRow (w : World) (v : Value) (n : Nat) (b : Nat → Nat) : Prop :=
  ∃ g cap, v = .slice (some ⟨g, 0, none⟩) n cap ∧ g < w.heap.size ∧ ∀ j, j < n → w.cell? ⟨g, j, none⟩ = some (.int .i64 (b j : Nat))
theorem BytesRow.call {w w1 : World} {v : Value} {n : Nat} {b : Nat → Nat} (h : BytesRow w v n b) (hb : Below w.heap.size w w1) : BytesRow w1 v n b := by
  obtain ⟨g, cap, rfl, hg, hc⟩ := h
  exact ⟨g, cap, rfl, Nat.lt_of_lt_of_le hg hb.size, fun j hj => (hb.cell (p := ⟨g, j, none⟩) hg).trans (hc j hj)⟩
theorem BytesRow.of_owns {w : World} {base : Nat} {v : Value} {n : Nat} {b : Nat → Nat} (h : w.ownsRow base 3 1 v n ((List.range n).map fun j => Value.int .i64 (b j : Nat))) (hn : 0 < n) : BytesRow w v n b := by
  obtain ⟨g, cap, rfl⟩ := ownsRow_form h hn
  refine ⟨g, cap, rfl, (h.lt g rfl).2, fun j hj => ?_⟩
  rw [h.cellAt j (by omega)]
  simp [hj]
def RetBytes (n : Nat) (b : Nat → Nat) (w : World) (e : Ending) (w' : World) : Prop :=
  ∃ v : Value, e = .returned v ∧ BytesRow w' v n b ∧ Below w.heap.size w w'

theorem Digits_b {x d3 d2 d1 d0 : Nat} (hx : Dig x d0 d1 d2 d3) (w : World) :
    Calls Try.prog 44 #[.agg #[.int .u64 d3, .int .u64 d2, .int .u64 d1, .int .u64 d0]] w (RetBytes 32 (byteOf x) w) := by
  refine (Digits_c hx w).mono ?_
  rintro e w' ⟨v, rfl, ho, hb⟩
  exact ⟨v, rfl, BytesRow.of_owns ho (by decide), hb⟩
theorem Join_b {b : Nat → Nat} {n : Nat} {v : Value} (hn : 32 ≤ n) (hcap : n ≤ maxLen) (w : World) (hv : BytesRow w v n b) (hb : ∀ j, b j < 256) :
    Calls Try.prog 56 #[v] w (RetD (lowB b 32) w) := by
  obtain ⟨g, cap, rfl, hg, hc⟩ := hv
  exact Join_c hn hcap w hg (fun j hj => hc j (by omega)) hb

/-- A list's byte, 0 past its end; what is carried into byte k of a sum; byte k of it. -/
def upTo (n : Nat) (b : Nat → Nat) (j : Nat) : Nat := if j < n then b j else 0
def cry (a b : Nat → Nat) : Nat → Nat
  | 0 => 0
  | k + 1 => (cry a b k + a k + b k) / 256
def sumAt (a b : Nat → Nat) (k : Nat) : Nat := (cry a b k + a k + b k) % 256
theorem sumAt_lt (a b : Nat → Nat) (k : Nat) : sumAt a b k < 256 := Nat.mod_lt _ (by decide)
theorem cry_le {a b : Nat → Nat} (ha : ∀ j, a j < 256) (hb : ∀ j, b j < 256) (k : Nat) : cry a b k ≤ 1 := by
  induction k with
  | zero => simp [cry]
  | succ k ih => have := ha k; have := hb k; simp only [cry]; omega
theorem sum_low (a b : Nat → Nat) (k : Nat) : lowB (sumAt a b) k + cry a b k * 256 ^ k = lowB a k + lowB b k := by
  induction k with
  | zero => simp [lowB, cry]
  | succ k ih =>
    simp only [lowB, cry, sumAt]
    have e := Nat.mod_add_div (cry a b k + a k + b k) 256
    have h2 : (cry a b k + a k + b k) * 256 ^ k = cry a b k * 256 ^ k + a k * 256 ^ k + b k * 256 ^ k := by rw [Nat.add_mul, Nat.add_mul]
    have h3 : ((cry a b k + a k + b k) % 256 + 256 * ((cry a b k + a k + b k) / 256)) * 256 ^ k = (cry a b k + a k + b k) * 256 ^ k := by rw [e]
    rw [Nat.add_mul, Nat.mul_comm 256, Nat.mul_assoc, ← Nat.pow_succ'] at h3
    rw [Nat.pow_succ'] at h3 ⊢
    omega

def sumsTo (a b : Nat → Nat) (n : Nat) : List Value := (List.range n).map fun j => Value.int .i64 (sumAt a b j : Nat)
theorem sumsTo_succ (a b : Nat → Nat) (n : Nat) : sumsTo a b (n + 1) = sumsTo a b n ++ [.int .i64 (sumAt a b n : Nat)] := by
  simp [sumsTo, List.range_succ]

theorem below_grown {w wr w1 : World} {n : Nat} {v : Value} {xs : List Value} {o : Obj} (hB : Below w.heap.size w wr) (hown : wr.ownsRow w.heap.size 3 1 v n xs)
    (hg : (wr.alloc o).grownBy w1 v.ownBlock) : Below w.heap.size w w1 := by
  have hs := hB.size
  exact (hB.alloc hs o).grown hg (by rw [alloc_size]; omega) (fun j hj => by have := (hown.lt j hj).1; omega)

set_option maxRecDepth 100000 in
set_option maxHeartbeats 4000000 in
theorem Sum_c {na nb : Nat} {a b : Nat → Nat} {va vb : Value} (hn : 0 < na) (hna : na ≤ 1000) (ha : ∀ j, a j < 256) (hb : ∀ j, b j < 256) (w : World) (hva : BytesRow w va na a) (hvb : BytesRow w vb nb b) :
    Calls Try.prog 43 #[va, vb] w (RetBytes na (sumAt a (upTo nb b)) w) := by
  obtain ⟨ga, ca, rfl, hga, hca⟩ := hva
  obtain ⟨gb, cb, rfl, hgb, hcb⟩ := hvb
  have hup : ∀ j, upTo nb b j < 256 := fun j => by unfold upTo; split <;> simp [hb]
  have HCA := Lib.hid hca; have HCB := Lib.hid hcb; have HU := Lib.hid hup
  clear hca hcb hup
  obtain ⟨i0, hi, hz0, hz1, hz2⟩ := info_parts Try.infoInt
  go_enter Try.func43, Try.ntmps43
  go_wp2_with fail
  go_loopw [5, 6, 7] (fun v c i wr => ∃ k : Nat, i = .int .i64 k ∧ k ≤ na ∧ c = .int .i64 (cry a (upTo nb b) k : Nat) ∧ Below w.heap.size w wr ∧ wr.ownsRow w.heap.size 3 1 v k (sumsTo a (upTo nb b) k)) (fun _ _ i _ => na - (intOf i).toNat)
  case atStart => exact ⟨0, rfl, by omega, rfl, Below.refl _ _, World.ownsRow_nil _ _ _ _⟩
  case round =>
    obtain ⟨k, rfl, hk, rfl, hB, hown⟩ := hrel
    by_cases hlt : k < na
    · have hle := cry_le (a := a) (b := upTo nb b) ha HU.out k
      have hak := ha k
      have hcx : wr.cell? ⟨ga, k, none⟩ = some (.int .i64 (a k : Nat)) := (hB.cell (p := ⟨ga, k, none⟩) hga).trans (HCA.out k hlt)
      have HS := Lib.hid (sumsTo_succ a (upTo nb b) k)
      have hq : ((cry a (upTo nb b) k + a k + upTo nb b k : Nat) : Int) / 256 = ((cry a (upTo nb b) (k + 1) : Nat) : Int) := by simp only [cry]; omega
      have hm : ((cry a (upTo nb b) k + a k + upTo nb b k : Nat) : Int) % 256 = ((sumAt a (upTo nb b) k : Nat) : Int) := by simp only [sumAt]; omega
      have HB := Lib.hid hB; have HO := Lib.hid hown
      have hsz := hB.size
      have hklt : (k : Int) < (na : Int) := by omega
      clear hB hown
      by_cases hkb : k < nb
      · have hbk := hb k
        have hcb : wr.cell? ⟨gb, k, none⟩ = some (.int .i64 (b k : Nat)) := (HB.out.cell (p := ⟨gb, k, none⟩) hgb).trans (HCB.out k hkb)
        have hu : upTo nb b k = b k := if_pos hkb
        rw [hu, Int.natCast_add, Int.natCast_add] at hq hm
        clear hu
        have hkb' : (k : Int) < (nb : Int) := by omega
        have HQ := Lib.hid hq; clear hq
        generalize sumAt a (upTo nb b) k = s at *
        generalize cry a (upTo nb b) k = c at *
        generalize a k = x at *
        generalize b k = y at *
        go_wp2_with (at_builtin; refine wpList_append_own _ rfl _ _ 39 rfl w.heap.size 3 i0 (.int .i64 0) 1 8 Try.underlying39 hi hz0 hz1 hz2 rfl (by decide) _ _ _ rfl (HO.out.alloc _) ⟨wr.heap.size, 0, none⟩ 1 1 [.int .i64 (s : Nat)] rfl rfl ?c1 ?c2 ?c3 ?c4 ?c5 ?_)
        case c1 =>
          intro j u hj
          match j, hj with
          | 0, hj => simp at hj; subst hj; simp [Addr.add]
        case c2 => intro u hu; simp at hu; subst hu; rfl
        case c3 => unfold maxLen; omega
        case c4 => omega
        case c5 => simp; omega
        intro v' w1 hown' hgrow _
        rw [← HS.out] at hown'
        have HE := Lib.hid (And.intro (below_grown HB.out HO.out hgrow) hown')
        clear hown' hgrow HB HO hcx hcb HS hm
        go_wp2_with fail
        go_roundw
        case rel => exact ⟨k + 1, by go_num, by omega, by rw [HQ.out], HE.out.1, HE.out.2⟩
        case measure => simp [intOf]; omega
      · have hu : upTo nb b k = 0 := if_neg hkb
        rw [hu, Nat.add_zero, Int.natCast_add] at hq hm
        clear hu
        have hkb' : (nb : Int) ≤ (k : Int) := by omega
        have HQ := Lib.hid hq; clear hq
        generalize sumAt a (upTo nb b) k = s at *
        generalize cry a (upTo nb b) k = c at *
        generalize a k = x at *
        go_wp2_with (at_builtin; refine wpList_append_own _ rfl _ _ 39 rfl w.heap.size 3 i0 (.int .i64 0) 1 8 Try.underlying39 hi hz0 hz1 hz2 rfl (by decide) _ _ _ rfl (HO.out.alloc _) ⟨wr.heap.size, 0, none⟩ 1 1 [.int .i64 (s : Nat)] rfl rfl ?d1 ?d2 ?d3 ?d4 ?d5 ?_)
        case d1 =>
          intro j u hj
          match j, hj with
          | 0, hj => simp at hj; subst hj; simp [Addr.add]
        case d2 => intro u hu; simp at hu; subst hu; rfl
        case d3 => unfold maxLen; omega
        case d4 => omega
        case d5 => simp; omega
        intro v' w1 hown' hgrow _
        rw [← HS.out] at hown'
        have HE := Lib.hid (And.intro (below_grown HB.out HO.out hgrow) hown')
        clear hown' hgrow HB HO hcx HS hm
        go_wp2_with fail
        go_roundw
        case rel => exact ⟨k + 1, by go_num, by omega, by rw [HQ.out], HE.out.1, HE.out.2⟩
        case measure => simp [intOf]; omega
    · obtain rfl : k = na := by omega
      have HO := Lib.hid hown; have HB := Lib.hid hB
      clear hown hB
      go_wp2_with fail
      go_ret
      exact ⟨_, rfl, BytesRow.of_owns HO.out hn, HB.out⟩

end Go.Proofs.Ythbfhfgmanafpaa
