/- The contracts of More, of Sum. -/
import Derived.Test.YtialfpkmcafkmaaGreatCc
namespace Go.Proofs.YtialfpkmcafkmaaGreat
open Go.RowKit

theorem not32 {x : Nat} (hx : x < 2 ^ 32) : Go.bits .xor .u32 IntKind.u32.max (x : Int) = ((F32 ^^^ x : Nat) : Int) := by
  exact u32_xor_nat F32 x (by decide) hx
theorem byte_of (x : Nat) : IntKind.u8.wrap (x : Int) = ((x % 256 : Nat) : Int) := by
  rw [IntKind.wrap_u8]; simp
theorem low8 (x : Nat) {c : Nat} (hc : c < 256) : Go.bits .xor .u8 ((x : Int) % 256) (c : Int) = ((x % 256 ^^^ c : Nat) : Int) := by
  have := u8_xor_nat (x % 256) c (Nat.mod_lt _ (by decide)) hc
  simpa using this
theorem tab_on {c : Nat} (hc : c < 256) (x : Nat) : mvk 8 (x ^^^ c) = x / 256 ^^^ tabN (x % 256 ^^^ c) := by
  rw [mvk_part]
  have h1 : (x ^^^ c) / 2 ^ 8 = x / 256 := by
    have := Nat.shiftRight_xor_distrib (a := x) (b := c) (i := 8)
    rw [Nat.shiftRight_eq_div_pow, Nat.shiftRight_eq_div_pow, Nat.shiftRight_eq_div_pow, Nat.div_eq_of_lt (show c < 2 ^ 8 from hc), Nat.xor_zero] at this
    exact this
  have h2 : (x ^^^ c) % 2 ^ 8 = x % 256 ^^^ c := by
    rw [Nat.xor_mod_two_pow, Nat.mod_eq_of_lt (show c < 2 ^ 8 from hc)]
  rw [h1, h2]
  rfl
theorem on_bits {x c : Nat} (hx : x < 2 ^ 32) (hc : c < 256) : Go.bits .xor .u32 ((x : Int) / 256) ((tabN (x % 256 ^^^ c) : Nat) : Int) = (mvk 8 (x ^^^ c) : Nat) := by
  have hl : x % 256 ^^^ c < 256 := Nat.xor_lt_two_pow (n := 8) (Nat.mod_lt _ (by decide)) hc
  have h := xor32 (half_lt hx 256) (tab_lt hl)
  rw [tab_on hc, ← h]
  simp

set_option maxRecDepth 100000 in
set_option maxHeartbeats 2000000 in
theorem more_c {sum : Nat} (hm : sum < 2 ^ 32) {s : ByteArray} (hs : s.size ≤ maxLen) (w : World) :
    Calls Tryz.prog 36 #[.int .u32 sum, .string s] w fun e w' => e = .returned (.int .u32 (moreN sum (byteAt s) s.size : Nat)) ∧ Below w.heap.size w w' := by
  have HX := Lib.hid (fun i j hj e W => index_i64 s i j hj e W)
  have HL := Lib.hid (fun k => cf_lt (Nat.xor_lt_two_pow (show F32 < 2 ^ 32 by decide) hm) (byteAt_lt s) k)
  have HT := Lib.hid (table_c w)
  have h0 := not32 hm
  have hsg : IntKind.u32.signed = false := rfl
  have HF := Lib.hid (show moreN sum (byteAt s) s.size = F32 ^^^ cf (F32 ^^^ sum) (byteAt s) s.size from rfl)
  have HN := Lib.hid (fun k => show cf (F32 ^^^ sum) (byteAt s) (k + 1) = mvk 8 (cf (F32 ^^^ sum) (byteAt s) k ^^^ byteAt s k) from rfl)
  have HZ := Lib.hid (show cf (F32 ^^^ sum) (byteAt s) 0 = F32 ^^^ sum from rfl)
  generalize moreN sum (byteAt s) s.size = out at *
  generalize F32 ^^^ sum = i0 at *
  have HK := Lib.hid (fun g => show (Tryz.prog.info? 93).map (·.size) = some (blk .u32 256 g).size by rw [blk_size]; kernel_rfl)
  have HO := Lib.hid (blk_one .u32 256)
  have HM : ∀ W : World, (W.alloc (.cells (blk .u32 256 fun _ => 0) 93)).heap[W.heap.size]? = some (.cells (blk .u32 256 fun _ => 0) 93 (0, 0)) := fun W => heap_last _ rfl
  have hz1 : ∀ w : World, (zeroValue 93).run Tryz.prog w = .ok (.agg (blk .u32 256 fun _ => 0)) w := fun _ => by kernel_rfl
  go_enter Tryz.func36, Tryz.ntmps36
  go_wp2_with fail
  go_at_call 64
  refine HT.out.mono ?_
  rintro e w1 ⟨rfl, h1⟩
  have H1 := Lib.hid h1; clear h1 HT
  go_wp2_with (first | (refine wpList_store_row rfl 93 (.tmp 5) (.tmp 7) rfl w1.heap.size (blk .u32 256 tabN) rfl rfl 93 (blk .u32 256 fun _ => 0) (HM w1) (HK.out _) (by rw [blk_size, blk_size]) (HO.out _) ?_))
  have HT := Lib.hid (row_setRow (cs' := blk .u32 256 tabN) (HM w1))
  have HB := Lib.hid (Below.setRow' ((H1.out).alloc H1.out.size (.cells (blk .u32 256 fun _ => 0) 93)) H1.out.size (blk .u32 256 tabN))
  clear HM HK HO H1 hz1
  generalize (w1.alloc (.cells (blk .u32 256 fun _ => 0) 93)).setRow w1.heap.size (blk .u32 256 tabN) = W at *
  generalize w1.heap.size = b at *
  have HS := Lib.hid hs; clear hs
  go_loop [0, 12] (fun c i => ∃ k : Nat, k ≤ s.size ∧ i = .int .i64 k ∧ c = .int .u32 (cf i0 (byteAt s) k : Nat)) (fun _ i => s.size - (intOf i).toNat)
  case atStart => exact ⟨0, by omega, rfl, by rw [HZ.out]⟩
  case round =>
    obtain ⟨k, hk, rfl, rfl⟩ := hrel
    by_cases hlt : k < s.size
    · have hx := fun W => HX.out (k : Int) k hlt rfl W
      have hl := HL.out k
      have hb := byteAt_lt s k
      have h1 := on_bits hl hb
      have h2 := byte_of (cf i0 (byteAt s) k)
      have h3 := low8 (cf i0 (byteAt s) k) hb
      have hp : cf i0 (byteAt s) k % 256 ^^^ byteAt s k < 256 := Nat.xor_lt_two_pow (n := 8) (Nat.mod_lt _ (by decide)) hb
      have c0 := (cell_of HT.out (cf i0 (byteAt s) k % 256 ^^^ byteAt s k)).trans (blk_at _ _ hp)
      have hpi : (0 : Int) ≤ ((cf i0 (byteAt s) k % 256 ^^^ byteAt s k : Nat) : Int) ∧ ((cf i0 (byteAt s) k % 256 ^^^ byteAt s k : Nat) : Int) < 256 := by omega
      have HN' := Lib.hid (HN.out k)
      clear HN HX HL HT
      generalize mvk 8 (cf i0 (byteAt s) k ^^^ byteAt s k) = z at *
      generalize cf i0 (byteAt s) k = x at *
      generalize byteAt s k = y at *
      generalize tabN (x % 256 ^^^ y) = t at *
      generalize x % 256 ^^^ y = p at *
      have hlti : (k : Int) < (s.size : Int) := by omega
      have hw : IntKind.i64.wrap ((k : Int) + 1) = (k : Int) + 1 := IntWalk.i64_in _ (by have := HS.out; unfold maxLen at this; omega)
      go_wp2_with fail
      go_round
      case rel => exact ⟨k + 1, by omega, by go_num, by rw [HN'.out]⟩
      case measure => simp [intOf]; omega
    · obtain rfl : k = s.size := by omega
      have h5 := not32 (HL.out s.size)
      rw [← HF.out] at h5
      clear HN HL HX h0
      go_wp2_with fail
      go_ret
      exact ⟨rfl, HB.out⟩
/-- The sum of a text. -/
def sumN (s : ByteArray) : Nat := moreN 0 (byteAt s) s.size
theorem sumN_lt (s : ByteArray) : sumN s < 2 ^ 32 := moreN_lt (by decide) (byteAt_lt s) _
set_option maxRecDepth 100000 in
set_option maxHeartbeats 1000000 in
theorem sum_c {s : ByteArray} (hs : s.size ≤ maxLen) (w : World) :
    Calls Tryz.prog 37 #[.string s] w fun e w' => e = .returned (.int .u32 (sumN s : Nat)) ∧ Below w.heap.size w w' := by
  have HT := Lib.hid (more_c (show 0 < 2 ^ 32 by decide) hs w)
  rw [show moreN 0 (byteAt s) s.size = sumN s from rfl] at HT
  generalize sumN s = z at *
  clear hs
  go_enter Tryz.func37, Tryz.ntmps37
  go_wp2_with fail
  go_at_call 36
  refine HT.out.mono ?_
  rintro e w1 ⟨rfl, h1⟩
  have H1 := Lib.hid h1; clear h1 HT
  go_wp2_with fail
  go_ret
  exact ⟨rfl, H1.out⟩
end Go.Proofs.YtialfpkmcafkmaaGreat
