/- The contract of the reference's Digits. -/
import Derived.Test.YthbfhfgmanafpaaWordE
import Derived.Test.YthbfhfgmanafpaaBytesN
import Derived.Lib.SmallJoins
namespace Go.Proofs.Ythbfhfgmanafpaa
open Go.RowKit Go.Joins

theorem Try.infoInt : (Try.prog.info? 3).map (fun i => (i.zero, i.size, i.bytes)) = some (some (.int .i64 0), 1, 8) := by kernel_rfl

theorem ownsRow_below {w w1 : World} {base : Nat} {e : TypeId} {size : Nat} {v : Value} {n : Nat} {xs : List Value} (h : w.ownsRow base e size v n xs) (hb : Below w.heap.size w w1) : w1.ownsRow base e size v n xs :=
  h.kept (row := none) ⟨hb.os, hb.tape, hb.output, hb.size, fun k hk _ => hb.block k hk⟩ (by cases hv : v.ownBlock <;> simp)

theorem wrap_near (q : Int) : ∃ t : Int, IntKind.i64.wrap q = q + 256 * t := by
  refine ⟨-(72057594037927936 * ((q + 9223372036854775808) / 18446744073709551616)), ?_⟩
  rw [IntKind.wrap_i64]
  omega

theorem ownsRow_from {w : World} {base base' : Nat} {e : TypeId} {size : Nat} {v : Value} {n : Nat} {xs : List Value} (h : w.ownsRow base e size v n xs) (hb : base' ≤ base) : w.ownsRow base' e size v n xs := by
  refine ⟨h.1, ?_⟩
  rcases h.2 with h0 | ⟨g, cap, cur, h1, h2, h3⟩
  · exact .inl h0
  · exact .inr ⟨g, cap, cur, h1, by omega, h3⟩

/-- Byte j, as Digits first has it; as it has it at the end. -/
def rawAt (d0 d1 d2 d3 j : Nat) : Int := (IntKind.i64.wrap (((nth d0 d1 d2 d3 (j / 8) / 2 ^ (8 * (j % 8)) : Nat)) : Int)).tmod 256
theorem raw_byte {x d0 d1 d2 d3 j : Nat} (h : Dig x d0 d1 d2 d3) (hj : j < 32) : (rawAt d0 d1 d2 d3 j + 256).tmod 256 = (byteOf x j : Int) ∧ -256 < rawAt d0 d1 d2 d3 j ∧ rawAt d0 d1 d2 d3 j < 256 := by
  have e := byteIn_eq h hj
  unfold byteIn at e
  rw [← e]
  unfold rawAt
  rw [show j % 8 * 8 = 8 * (j % 8) by omega]
  generalize nth d0 d1 d2 d3 (j / 8) / 2 ^ (8 * (j % 8)) = q
  obtain ⟨t, ht⟩ := wrap_near (q : Int)
  rw [ht]
  generalize hv : (q : Int) + 256 * t = v
  have hm : v % 256 = (q : Int) % 256 := by omega
  clear hv ht e
  rcases Int.le_total 0 v with h0 | h0
  · rw [Int.tmod_eq_emod_of_nonneg h0, Int.tmod_eq_emod_of_nonneg (by omega)]
    omega
  · have h1 : v.tmod 256 = -((-v) % 256) := by
      rw [← Int.tmod_eq_emod_of_nonneg (show 0 ≤ -v by omega), Int.neg_tmod, Int.neg_neg]
    rw [h1, Int.tmod_eq_emod_of_nonneg (by omega)]
    omega

def rawsTo (d0 d1 d2 d3 n : Nat) : List Value := (List.range n).map fun j => Value.int .i64 (rawAt d0 d1 d2 d3 j)
theorem rawsTo_succ (d0 d1 d2 d3 n : Nat) : rawsTo d0 d1 d2 d3 (n + 1) = rawsTo d0 d1 d2 d3 n ++ [.int .i64 (rawAt d0 d1 d2 d3 n)] := by
  simp [rawsTo, List.range_succ]
/-- Digits' third loop: the first n are bytes. -/
def mixTo (x d0 d1 d2 d3 n : Nat) : List Value := (List.range 32).map fun j => Value.int .i64 (if j < n then (byteOf x j : Int) else rawAt d0 d1 d2 d3 j)
theorem mixTo_zero (x d0 d1 d2 d3 : Nat) : mixTo x d0 d1 d2 d3 0 = rawsTo d0 d1 d2 d3 32 := by simp [mixTo, rawsTo]
theorem mixTo_at (x d0 d1 d2 d3 n j : Nat) (hj : j < 32) : (mixTo x d0 d1 d2 d3 n)[j]? = some (.int .i64 (if j < n then (byteOf x j : Int) else rawAt d0 d1 d2 d3 j)) := by
  simp [mixTo, hj]
theorem mixTo_set (x d0 d1 d2 d3 n : Nat) (hn : n < 32) : (mixTo x d0 d1 d2 d3 n).set n (.int .i64 (byteOf x n : Int)) = mixTo x d0 d1 d2 d3 (n + 1) := by
  apply List.ext_getElem?
  intro j
  rw [List.getElem?_set]
  by_cases hj : j < 32
  · rw [mixTo_at _ _ _ _ _ _ _ hj, mixTo_at _ _ _ _ _ _ _ hj]
    by_cases e : n = j
    · subst e
      rw [if_pos rfl, if_pos (by simp [mixTo]; omega), if_pos (by omega)]
    · rw [if_neg e]
      by_cases h : j < n
      · rw [if_pos h, if_pos (by omega)]
      · rw [if_neg h, if_neg (by omega)]
  · have h1 : (mixTo x d0 d1 d2 d3 n)[j]? = none := by simp [mixTo]; omega
    have h2 : (mixTo x d0 d1 d2 d3 (n + 1))[j]? = none := by simp [mixTo]; omega
    rw [h1, h2, if_neg (by omega)]

/-- A number's bytes as ints, the lowest first. -/
def digs (x n : Nat) : List Value := (List.range n).map fun j => Value.int .i64 (byteOf x j : Int)
theorem mixTo_all (x d0 d1 d2 d3 : Nat) : mixTo x d0 d1 d2 d3 32 = digs x 32 := by
  unfold mixTo digs
  apply List.map_congr_left
  intro j hj
  rw [if_pos (by simpa using hj)]

def RetRow (n : Nat) (xs : List Value) (w : World) (e : Ending) (w' : World) : Prop :=
  ∃ v : Value, e = .returned v ∧ w'.ownsRow w.heap.size 3 1 v n xs ∧ Below w.heap.size w w'

/-- What Digits knows: the word's limbs in block B + 1, its row from block B + 2 on. -/
def DigsS (w : World) (d0 d1 d2 d3 : Nat) (n : Nat) (v : Value) (xs : List Value) (W : World) : Prop :=
  Below w.heap.size w W ∧ w.heap.size + 1 + 1 ≤ W.heap.size ∧ W.heap[w.heap.size + 1]? = some (.cells (four d0 d1 d2 d3) 22 (0, 0)) ∧ W.ownsRow (w.heap.size + 1 + 1) 3 1 v n xs

theorem digs_grown {w wr w1 : World} {d0 d1 d2 d3 n : Nat} {v v' : Value} {xs news : List Value} {o : Obj} (hB : Below w.heap.size w wr) (hle : w.heap.size + 1 + 1 ≤ wr.heap.size)
    (hl : wr.heap[w.heap.size + 1]? = some (.cells (four d0 d1 d2 d3) 22 (0, 0))) (hown : wr.ownsRow (w.heap.size + 1 + 1) 3 1 v n xs)
    (hg : (wr.alloc o).grownBy w1 v.ownBlock) {m : Nat} (hown' : w1.ownsRow (w.heap.size + 1 + 1) 3 1 v' m news) : DigsS w d0 d1 d2 d3 m v' news w1 := by
  have hne : some (w.heap.size + 1) ≠ v.ownBlock := fun h => by have := (hown.lt _ h.symm).1; omega
  have hs := hg.size
  rw [alloc_size] at hs
  refine ⟨(hB.alloc (by omega) o).grown hg (by rw [alloc_size]; omega) (fun j hj => by have := (hown.lt j hj).1; omega), by omega, ?_, hown'⟩
  rw [hg.block _ (by rw [alloc_size]; omega) hne]
  exact (Below.heap_alloc _ _ _ (by omega)).trans hl

set_option maxRecDepth 100000 in
set_option maxHeartbeats 4000000 in
theorem Digits_c {x d3 d2 d1 d0 : Nat} (hx : Dig x d0 d1 d2 d3) (w : World) :
    Calls Try.prog 44 #[.agg #[.int .u64 d3, .int .u64 d2, .int .u64 d1, .int .u64 d0]] w (RetRow 32 (digs x 32) w) := by
  have HX := Lib.hid hx; clear hx
  obtain ⟨i0, hi, hz0, hz1, hz2⟩ := info_parts Try.infoInt
  go_enter Try.func44, Try.ntmps44
  go_wp2_with fail
  have H0 := Lib.hid (show DigsS w d0 d1 d2 d3 0 (.slice none 0 0) (rawsTo d0 d1 d2 d3 0) _ from ⟨((Below.refl w.heap.size w).alloc (Nat.le_refl _) (.cells #[.int .u64 d3, .int .u64 d2, .int .u64 d1, .int .u64 d0] 24)).alloc (by simp) (.cells (four d0 d1 d2 d3) 22), by simp, heap_alloc2_new _ _ _, World.ownsRow_nil _ _ _ _⟩)
  go_loopw [3, 5] (fun v i wr => ∃ k : Nat, i = .int .i64 k ∧ k ≤ 4 ∧ DigsS w d0 d1 d2 d3 (8 * k) v (rawsTo d0 d1 d2 d3 (8 * k)) wr) (fun _ i _ => 4 - (intOf i).toNat)
  case atStart => exact ⟨0, rfl, by omega, H0.out⟩
  case round =>
    clear H0
    obtain ⟨i, rfl, hi4, hS⟩ := hrel
    by_cases hlt : i < 4
    · have hS0 := Lib.hid hS; clear hS
      obtain ⟨wo, rfl⟩ : ∃ wo : World, wo = wr := ⟨_, rfl⟩
      have hd1 : decide ((i : Int) < 4) = true := by simp; omega
      have hd2 : decide (i < 4) = true := by simp; omega
      go_wp2_with fail
      go_loopw [3, 6] (fun v k wr => ∃ j : Nat, k = .int .i64 j ∧ j ≤ 8 ∧ DigsS w d0 d1 d2 d3 (8 * i + j) v (rawsTo d0 d1 d2 d3 (8 * i + j)) wr) (fun _ k _ => 8 - (intOf k).toNat)
      case atStart => exact ⟨0, rfl, by omega, hS0.out⟩
      case round =>
        clear hS0
        obtain ⟨j, rfl, hj8, hB, hle, hl, hown⟩ := hrel
        by_cases hjl : j < 8
        · have hc := (cell_of hl i).trans (four_at _ _ _ _ i hlt)
          have hr : rawAt d0 d1 d2 d3 (8 * i + j) = (IntKind.i64.wrap (((nth d0 d1 d2 d3 i / 2 ^ (8 * j) : Nat)) : Int)).tmod 256 := by
            unfold rawAt; rw [show (8 * i + j) / 8 = i by omega, show (8 * i + j) % 8 = j by omega]
          have HR := Lib.hid (rawsTo_succ d0 d1 d2 d3 (8 * i + j))
          rw [hr] at HR
          have hrw : (wrap64 ((nth d0 d1 d2 d3 i : Int) / 2 ^ (8 * j))).tmod 256 = (IntKind.i64.wrap (((nth d0 d1 d2 d3 i / 2 ^ (8 * j) : Nat)) : Int)).tmod 256 := by simp [wrap64, IntKind.wrap_i64]
          clear hr
          generalize (IntKind.i64.wrap (((nth d0 d1 d2 d3 i / 2 ^ (8 * j) : Nat)) : Int)).tmod 256 = r at *
          generalize nth d0 d1 d2 d3 i = y at *
          have HB := Lib.hid hB; have HL := Lib.hid hl; have HO := Lib.hid hown
          clear hB hl hown
          go_wp2_with (at_builtin; refine wpList_append_own _ rfl _ _ 39 rfl (w.heap.size + 1 + 1) 3 i0 (.int .i64 0) 1 8 Try.underlying39 hi hz0 hz1 hz2 rfl (by decide) _ _ _ rfl (HO.out.alloc _) ⟨wr.heap.size, 0, none⟩ 1 1 [.int .i64 r] rfl rfl ?c1 ?c2 ?c3 ?c4 ?c5 ?_)
          case c1 =>
            intro j u hj
            match j, hj with
            | 0, hj => simp at hj; subst hj; simp [Addr.add]
          case c2 => intro u hu; simp at hu; subst hu; rfl
          case c3 => unfold maxLen; omega
          case c4 => omega
          case c5 => simp; omega
          intro v' w1 hown' hgrow _
          have HE := Lib.hid (digs_grown HB.out hle HL.out HO.out hgrow hown')
          rw [show rawsTo d0 d1 d2 d3 (8 * i + j) ++ [.int .i64 r] = rawsTo d0 d1 d2 d3 (8 * i + j + 1) from HR.out.symm] at HE
          clear hown' hgrow HB HL HO hc hrw
          go_wp2_with fail
          go_roundw
          case rel => exact ⟨j + 1, by go_num, by omega, HE.out⟩
          case measure => simp [intOf]; omega
        · obtain rfl : j = 8 := by omega
          have HS := Lib.hid (show DigsS w d0 d1 d2 d3 (8 * (i + 1)) _ (rawsTo d0 d1 d2 d3 (8 * (i + 1))) wr from ⟨hB, hle, hl, by rw [show 8 * (i + 1) = 8 * i + 8 by omega]; exact hown⟩)
          clear hB hl hown
          go_wp2_with fail
          go_roundw
          case rel => exact ⟨i + 1, by go_num, by omega, HS.out⟩
          case measure => simp [intOf]; omega
    · obtain rfl : i = 4 := by omega
      obtain ⟨hB, hle, hl, hown⟩ := hS
      rw [← mixTo_zero x] at hown
      obtain ⟨g, cap, rfl⟩ := ownsRow_form hown (by omega)
      have HS := Lib.hid (And.intro hB (And.intro hle hown))
      clear hB hl hown
      go_wp2_with fail
      go_loopw [7] (fun i wr => ∃ k : Nat, i = .int .i64 k ∧ k ≤ 32 ∧ Below w.heap.size w wr ∧ w.heap.size + 1 + 1 ≤ wr.heap.size ∧ wr.ownsRow (w.heap.size + 1 + 1) 3 1 (.slice (some ⟨g, 0, none⟩) 32 cap) 32 (mixTo x d0 d1 d2 d3 k)) (fun i _ => 32 - (intOf i).toNat)
      case atStart => exact ⟨0, rfl, by omega, HS.out.1, HS.out.2.1, HS.out.2.2⟩
      case round =>
        clear HS
        obtain ⟨k, rfl, hk, hB, hle, hown⟩ := hrel
        by_cases hlt : k < 32
        · have hc := (hown.cellAt k (by omega)).trans (mixTo_at _ _ _ _ _ _ _ hlt)
          rw [if_neg (by omega)] at hc
          have hf := hown.frozenAt k
          obtain ⟨hb, hr1, hr2⟩ := raw_byte HX.out hlt
          have hbl : byteOf x k < 256 := Nat.mod_lt _ (by decide)
          have hst := hown.stored k (.int .i64 (byteOf x k : Int))
          rw [mixTo_set _ _ _ _ _ _ hlt] at hst
          have hlt2 := (hown.lt g rfl)
          have HE := Lib.hid (And.intro (show Below w.heap.size w (wr.setCell ⟨g, k, none⟩ (.int .i64 (byteOf x k : Int))) from hB.setCell (by show w.heap.size ≤ g; omega) _) (And.intro (show w.heap.size + 1 + 1 ≤ (wr.setCell ⟨g, k, none⟩ (.int .i64 (byteOf x k : Int))).heap.size by simpa using hle) hst.1))
          clear hst hB hown
          generalize rawAt d0 d1 d2 d3 k = r at *
          generalize byteOf x k = b at *
          have hw : IntKind.i64.wrap (r + 256) = r + 256 := IntWalk.i64_in _ (by omega)
          go_wp2_with fail
          go_roundw
          case rel => exact ⟨k + 1, by go_num, by omega, HE.out.1, HE.out.2.1, HE.out.2.2⟩
          case measure => simp [intOf]; omega
        · obtain rfl : k = 32 := by omega
          rw [mixTo_all] at hown
          have HO := Lib.hid hown; have HB := Lib.hid hB
          clear hown hB
          go_wp2_with fail
          go_ret
          exact ⟨_, rfl, ownsRow_from HO.out (by omega), HB.out⟩

end Go.Proofs.Ythbfhfgmanafpaa
