/- The reference's Constants. -/
import Derived.Test.YtienelgkdhmelaaDoorKRefA
import Derived.Deep.AppendLies
namespace Go.Proofs.YtienelgkdhmelaaDoor
open Go.RowKit

theorem ref_turn : ∀ r < 256, 128 ≤ r → Go.bits .xor .i64 (((r * 2 : Nat) : Int)) 369 = ((nxt r : Nat) : Int) := by decide +kernel
theorem ref_keep : ∀ r < 256, r < 128 → nxt r = r * 2 := by decide +kernel
theorem ref_pow {j : Nat} (hj : j < 7) : min (IntKind.u64.wrap (IntKind.u64.wrap (2 ^ j) - 1)).toNat 64 = 2 ^ j - 1 := by
  rcases (by omega : j = 0 ∨ j = 1 ∨ j = 2 ∨ j = 3 ∨ j = 4 ∨ j = 5 ∨ j = 6) with rfl | rfl | rfl | rfl | rfl | rfl | rfl <;> decide
theorem cn_even {r j : Nat} (h : rg r j % 2 = 0) : cn r (j + 1) = cn r j := by
  show cn r j ||| (rg r j % 2 * _ % M64) = _
  rw [h]
  simp
theorem cn_odd {r j : Nat} (h : rg r j % 2 = 1) : cn r (j + 1) = cn r j ||| (1 * 2 ^ (2 ^ j - 1) % M64) := by
  show cn r j ||| (rg r j % 2 * _ % M64) = _
  rw [h]
/-- The round constants, as values. -/
def rcV (k : Nat) : Value := .int .u64 (cn (rk k) 7 : Nat)
def rcL (n : Nat) : List Value := (List.range n).map rcV
theorem rcL_succ (n : Nat) : rcL (n + 1) = rcL n ++ [rcV n] := by simp [rcL, List.range_succ]
theorem rcL_len (n : Nat) : (rcL n).length = n := by simp [rcL]
theorem rcL_at {n k : Nat} (h : k < n) : (rcL n)[k]? = some (rcV k) := by simp [rcL, h]
theorem infoU64 : (Tryd.prog.info? 26).map (fun i => (i.zero, i.size, i.bytes)) = some (some (.int .u64 0), 1, 8) := by kernel_rfl

structure RcS (w : World) (k : Nat) (v : Value) (W : World) : Prop where
  below : Below w.heap.size w W
  own : W.ownsRow w.heap.size 26 1 v k (rcL k)

set_option maxRecDepth 100000 in
set_option maxHeartbeats 2000000 in
theorem consts_c (w : World) :
    Calls Tryd.prog 19 #[] w fun e w' => ∃ v, e = .returned v ∧ RcS w 24 v w' := by
  obtain ⟨i0, hi0, hz0, hz1, hz2⟩ := info_parts infoU64
  have HI := Lib.hid (And.intro hi0 (And.intro hz0 (And.intro hz1 hz2)))
  clear hi0 hz0 hz1 hz2
  have H0 := Lib.hid (show RcS w 0 (.slice none 0 0) w from ⟨Below.refl _ _, rfl, .inl ⟨rfl, rfl⟩⟩)
  go_enter Tryd.func19, Tryd.ntmps19
  go_wp2_with fail
  go_loopw [1, 2, 3] (fun v r i wr => ∃ (k : Nat) (V : Value), V = v ∧ i = .int .i64 k ∧ k ≤ 24 ∧ r = .int .i64 (rk k : Nat) ∧ RcS w k V wr) (fun _ _ i _ => 24 - (intOf i).toNat)
  case atStart => exact ⟨0, _, rfl, rfl, by omega, rfl, H0.out⟩
  case round =>
    clear H0
    obtain ⟨k, V, rfl, rfl, hk, rfl, hS⟩ := hrel
    have HS := Lib.hid hS; clear hS
    by_cases hlt : k < 24
    · have hlti : (k : Int) < 24 := by omega
      have HR := Lib.hid (show rk (k + 1) = rg (rk k) 7 from rfl)
      have HV := Lib.hid (show rcV k = .int .u64 (cn (rk k) 7 : Nat) from rfl)
      have hr := rk_lt k
      generalize rk k = r0 at *
      go_wp2_with fail
      have hb0 : decide ((k : Int) < 24) = true := by simpa using hlti
      go_loopw [2, 4, 5] (fun r c j wr' => ∃ m : Nat, j = .int .i64 m ∧ m ≤ 7 ∧ r = .int .i64 (rg r0 m : Nat) ∧ c = .int .u64 (cn r0 m : Nat) ∧ wr' = wr) (fun _ _ j _ => 7 - (intOf j).toNat)
      case atStart => exact ⟨0, rfl, by omega, rfl, rfl, rfl⟩
      case round =>
        obtain ⟨m, rfl, hm, rfl, rfl, rfl⟩ := hrel
        by_cases hlm : m < 7
        · have hmi : (m : Int) < 7 := by omega
          have hl := rg_lt hr m
          have hp := ref_pow hlm
          have HN := Lib.hid (show rg r0 (m + 1) = nxt (rg r0 m) from rfl)
          have HT := Lib.hid (fun h => ref_turn (rg r0 m) hl h)
          have HK := Lib.hid (fun h => ref_keep (rg r0 m) hl h)
          have HE := Lib.hid (fun h => cn_even (r := r0) (j := m) h)
          have HO := Lib.hid (fun h => cn_odd (r := r0) (j := m) h)
          have hc := cn_lt r0 m
          generalize rg r0 m = x at *
          generalize cn r0 m = c at *
          have x2 : (x : Int).tmod 2 = ((x % 2 : Nat) : Int) := by rw [Int.tmod_eq_emod_of_nonneg (by omega)]; omega
          have w1 : IntKind.i64.wrap ((x : Int) * 2) = (x : Int) * 2 := IntWalk.i64_in _ (by omega)
          have HC := Lib.hid (show Go.bits .or .u64 (c : Int) (IntKind.u64.wrap (2 ^ (2 ^ m - 1))) = ((c ||| 1 * 2 ^ (2 ^ m - 1) % M64 : Nat) : Int) by
            rw [← or64 hc (Nat.mod_lt _ (by decide)), ← wrap_mul_nat]; simp)
          clear hc
          go_wp2_with fail
          · rename_i ho h2
            have ho : (x : Int) % 2 = 1 := by simpa using ho
            clear hb0
            go_roundw
            case rel => exact ⟨m + 1, by go_num, by omega, by rw [HN.out, ← HT.out (by omega)]; rfl, by rw [HC.out, HO.out (by omega)], trivial⟩
            case measure => simp [intOf]; omega
          · rename_i ho h2
            have ho : (x : Int) % 2 = 1 := by simpa using ho
            clear hb0
            go_roundw
            case rel => exact ⟨m + 1, by go_num, by omega, by rw [HN.out, HK.out (by omega)]; rfl, by rw [HC.out, HO.out (by omega)], trivial⟩
            case measure => simp [intOf]; omega
          · rename_i ho h2
            have ho : ¬ (x : Int) % 2 = 1 := by simpa using ho
            clear hb0
            go_roundw
            case rel => exact ⟨m + 1, by go_num, by omega, by rw [HN.out, ← HT.out (by omega)]; rfl, by rw [HE.out (by omega)], trivial⟩
            case measure => simp [intOf]; omega
          · rename_i ho h2
            have ho : ¬ (x : Int) % 2 = 1 := by simpa using ho
            clear hb0
            go_roundw
            case rel => exact ⟨m + 1, by go_num, by omega, by rw [HN.out, HK.out (by omega)]; rfl, by rw [HE.out (by omega)], trivial⟩
            case measure => simp [intOf]; omega
        · obtain rfl : m = 7 := by omega
          clear hlm hm
          have HB := Lib.hid HS.out.below.size
          have HW := Lib.hid (World.news_of_block (cs := #[.int .u64 (cn r0 7 : Nat)]) (t := 26) (fr := (0, 0)) (heap_alloc_new wr _))
          have HQ := Lib.hid (show ∀ u ∈ [Value.int .u64 (cn r0 7 : Nat)], u.oneCell' = true by simp [Value.oneCell'])
          have HX := Lib.hid (fun g cap w1 (hown : World.ownsRow w1 w.heap.size 26 1 (.slice (some ⟨g, 0, none⟩) (k + 1) cap) (k + 1) (rcL k ++ [.int .u64 (cn r0 7 : Nat)])) (hgrow : World.grownBy (wr.alloc (.cells #[.int .u64 (cn r0 7 : Nat)] 26)) w1 V.ownBlock) => show RcS w (k + 1) (.slice (some ⟨g, 0, none⟩) (k + 1) cap) w1 from by
            refine ⟨(HS.out.below.alloc HB.out _).grown hgrow (by simpa using Nat.le_succ_of_le HB.out) (fun q hq => (HS.out.own.lt q hq).1), ?_⟩
            rw [rcL_succ, HV.out]
            exact hown)
          clear HV
          generalize cn r0 7 = z at *
          go_wp2_with (at_builtin; refine wpList_append_lies _ rfl _ _ _ rfl w.heap.size 26 i0 _ 1 8 Tryd.underlying25 HI.out.1 HI.out.2.1 HI.out.2.2.1 HI.out.2.2.2 rfl (by omega) V k (rcL k) rfl (HS.out.own.alloc _) ⟨wr.heap.size, 0, none⟩ 1 1 [.int .u64 (z : Int)] rfl rfl HW.out HQ.out (by omega) (by simp [maxLen]; omega) (by omega) (by simpa using Nat.le_succ_of_le HB.out) (wr.heap.size + 1) (by simp) ?_; intro g cap w1 hown hgrow hat hlg; have HE := Lib.hid (HX.out g cap w1 hown hgrow); clear hown hgrow hat hlg)
          go_roundw
          case rel => exact ⟨k + 1, _, rfl, by go_num, by omega, by rw [HR.out], HE.out⟩
          case measure => simp [intOf]; omega
    · obtain rfl : k = 24 := by omega
      go_wp2_with fail
      go_ret
      exact ⟨_, rfl, HS.out⟩
end Go.Proofs.YtienelgkdhmelaaDoor
