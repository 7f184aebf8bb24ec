/- CrcBit: up to 32 bits in a row that are turned turn the sum. -/
import Derived.Test.YtldnjjaadbdbeaaCg
import Derived.Lib.ConvBytes
namespace Go.Proofs.Ytldnjjaadbdbeaa
open Go.RowKit

/-- Bytes in a block, that may be written. -/
def Bt (g n : Nat) (P : Nat → Nat) (W : World) : Prop := ∀ j, j < n → W.cell? ⟨g, j, none⟩ = some (.int .u8 (P j : Nat)) ∧ W.frozen? ⟨g, j, none⟩ = false
theorem Bt.later {g n : Nat} {P : Nat → Nat} {W W' : World} (h : Bt g n P W) (hg : g < W.heap.size) (hb : Below W.heap.size W W') : Bt g n P W' := fun j hj =>
  ⟨(World.cell?_of_block (hb.block g hg)).trans (h j hj).1, (World.frozen?_of_block (hb.block g hg)).trans (h j hj).2⟩
theorem Bt.set {g n : Nat} {P : Nat → Nat} {W : World} (h : Bt g n P W) {k : Nat} (hk : k < n) (v : Nat) : Bt g n (upd P k v) (W.setCell ⟨g, k, none⟩ (.int .u8 (v : Nat))) := fun j hj => by
  refine ⟨?_, by rw [World.frozen?_setCell]; exact (h j hj).2⟩
  by_cases e : j = k
  · subst e
    rw [World.cell?_setCell_same _ _ _ (h j hj).1, upd_same]
  · rw [World.cell?_setCell_other _ _ _ _ (by intro e'; injection e' with e1 e2; omega), upd_other _ _ e]
    exact (h j hj).1
theorem Bt.congr {g n : Nat} {P Q : Nat → Nat} {W : World} (h : Bt g n P W) (e : ∀ j, j < n → P j = Q j) : Bt g n Q W := fun j hj => by rw [← e j hj]; exact h j hj
theorem Bt.conv {g n : Nat} {P : Nat → Nat} {W : World} (h : Bt g n P W) (hP : ∀ j, P j < 256) (cap : Nat) :
    (convert 32 9 (.slice (some ⟨g, 0, none⟩) n cap)).run Try.prog W = .ok (.string (txt n P)) W := by
  have := Lib.run_convert_whole (P := Try.prog) W 32 5 9 Try.underlying32 Try.underlying5 Try.underlying9 g 0 (txt n P) (by
    intro i hi
    rw [txt_size] at hi
    have e : (txt n P)[i]'(by rw [txt_size]; exact hi) = UInt8.ofNat (P i) := by simp [txt, ByteArray.getElem_eq_getElem_data]
    rw [Nat.zero_add, (h i hi).1, e, UInt8.toNat_ofNat_of_lt' (hP i)]) cap
  rwa [txt_size] at this
theorem bytes_of (s : ByteArray) (w : World) :
    ∃ cap W, (convert 9 32 (.string s)).run Try.prog w = .ok (.slice (some ⟨w.heap.size, 0, none⟩) s.size cap) W ∧ Bt w.heap.size s.size (byteAt s) W ∧ Below w.heap.size w W ∧ w.heap.size < W.heap.size := by
  refine ⟨_, _, Lib.run_convert_string_bytes (P := Try.prog) w 9 32 5 s Try.underlying9 Try.underlying32 Try.underlying5, ?_, ?_, ?_⟩
  · intro j hj
    refine ⟨?_, ?_⟩
    · rw [Lib.bytesWorld_cell w _ s j hj]
      unfold byteAt
      rw [dif_pos hj]
      simp [List.getD, hj, ByteArray.getElem_eq_getElem_data]
    · have h := Lib.bytesWorld_at_new w 5 s
      have hsz : (Lib.bytesCells w 5 s).size ≥ s.size := by simp [Lib.bytesCells]
      simp [World.frozen?, h]
      try omega
  · exact ⟨rfl, rfl, rfl, Nat.le_of_lt (by rw [Lib.bytesWorld_size]; omega), fun k hk => Lib.bytesWorld_at_old w _ s k hk⟩
  · rw [Lib.bytesWorld_size]; omega

/-- The byte that is xored in at i; the text with the first i of them; are those 0? -/
def byN (by_ i : Nat) : Nat := by_ / 2 ^ (8 * i) % 256
def turnN (s : Nat → Nat) (by_ k i j : Nat) : Nat := if k ≤ j ∧ j < k + i then s j ^^^ byN by_ (j - k) else s j
def zeros (by_ : Nat) : Nat → Bool
  | 0 => true
  | i + 1 => zeros by_ i && (byN by_ i == 0)
theorem zeros_iff (by_ i : Nat) : zeros by_ i = true ↔ ∀ j, j < i → byN by_ j = 0 := by
  induction i with
  | zero => simp [zeros]
  | succ i ih =>
    rw [zeros, Bool.and_eq_true, ih, beq_iff_eq]
    refine ⟨fun h j hj => ?_, fun h => ⟨fun j hj => h j (by omega), h i (by omega)⟩⟩
    rcases Nat.lt_succ_iff_lt_or_eq.1 hj with h' | rfl
    · exact h.1 j h'
    · exact h.2
theorem byN_lt (b i : Nat) : byN b i < 256 := Nat.mod_lt _ (by decide)
theorem turnN_lt {s : Nat → Nat} (hs : ∀ j, s j < 256) (b k i j : Nat) : turnN s b k i j < 256 := by
  unfold turnN
  split
  · exact Nat.xor_lt_two_pow (n := 8) (hs j) (byN_lt _ _)
  · exact hs j
theorem turnN_step (s : Nat → Nat) (b k i j : Nat) : upd (turnN s b k i) (k + i) (s (k + i) ^^^ byN b i) j = turnN s b k (i + 1) j := by
  unfold upd turnN
  by_cases e : j = k + i
  · subst e
    rw [if_pos rfl, if_pos (by omega), show k + i - k = i by omega]
  · rw [if_neg e]
    by_cases h : k ≤ j ∧ j < k + i
    · rw [if_pos h, if_pos (by omega)]
    · rw [if_neg h, if_neg (by omega)]
theorem turnN_at (s : Nat → Nat) (b k i : Nat) : turnN s b k i (k + i) = s (k + i) := if_neg (by omega)
theorem turn_sum {s : ByteArray} {b k i : Nat} (hi : i ≤ 4) (hk : k + i ≤ s.size) : ((sumN (txt s.size (turnN (byteAt s) b k i)) : Int) == (sumN s : Int)) = zeros b i := by
  have e1 : sumN (txt s.size (turnN (byteAt s) b k i)) = moreN 0 (turnN (byteAt s) b k i) s.size := by
    unfold sumN
    rw [txt_size]
    unfold moreN
    rw [cf_congr fun j hj => byteAt_txt (turnN_lt (byteAt_lt s) b k i) hj]
  rw [e1]
  cases hz : zeros b i with
  | true =>
    rw [zeros_iff] at hz
    rw [beq_iff_eq]
    unfold sumN moreN
    rw [cf_congr (g := byteAt s) fun j hj => by
      unfold turnN
      split
      · rw [hz _ (by omega), Nat.xor_zero]
      · rfl]
  | false =>
    rw [beq_eq_false_iff_ne]
    intro e
    have e2 : moreN 0 (turnN (byteAt s) b k i) s.size = moreN 0 (byteAt s) s.size := by unfold sumN at e; omega
    have h := moreN_turn (turnN_lt (byteAt_lt s) b k i) (byteAt_lt s) hi hk (fun j hj ho => if_neg (by omega)) e2
    have : zeros b i = true := by
      rw [zeros_iff]
      intro j hj
      have h1 := h (k + j) (by omega)
      unfold turnN at h1
      rw [if_pos (by omega), show k + j - k = j by omega] at h1
      have h2 := congrArg (byteAt s (k + j) ^^^ ·) h1
      simpa [xor_twice] using h2
    rw [hz] at this
    cases this

/-- The text that the law turns. -/
def cutS (s : ByteArray) : ByteArray := ⟨#[115]⟩ ++ s.extract 0 (min (s.size : Int) 199).toNat
theorem cutS_size (s : ByteArray) : 0 < (cutS s).size ∧ (cutS s).size ≤ 200 := by
  unfold cutS
  rw [ByteArray.size_append, ByteArray.size_extract]
  have : (ByteArray.size ⟨#[115]⟩) = 1 := rfl
  omega

/-- What is known at the head of each round. -/
structure BitS (w : World) (g n : Nat) (s : Nat → Nat) (b k i : Nat) (W : World) : Prop where
  below : Below w.heap.size w W
  lt : g < W.heap.size
  le : w.heap.size ≤ g
  row : Bt g n (turnN s b k i) W
theorem BitS.step {w W : World} {g n b k i : Nat} {s : Nat → Nat} (h : BitS w g n s b k i W) (hn : k + i < n) : BitS w g n s b k (i + 1) (W.setCell ⟨g, k + i, none⟩ (.int .u8 (s (k + i) ^^^ byN b i : Nat))) :=
  ⟨h.below.setCell h.le _, by simpa [World.setCell] using h.lt, h.le, (h.row.set hn _).congr fun j _ => turnN_step _ _ _ _ _⟩
theorem BitS.call {w W W' : World} {g n b k i : Nat} {s : Nat → Nat} (h : BitS w g n s b k i W) (hb : Below W.heap.size W W') : BitS w g n s b k i W' :=
  ⟨h.below.trans (hb.mono h.below.size), Nat.lt_of_lt_of_le h.lt hb.size, h.le, h.row.later h.lt hb⟩
theorem BitS.drew {w W : World} {g n b k i : Nat} {s : Nat → Nat} (h : BitS w g n s b k i W) : BitS w g n s b k i W.drew := ⟨h.below.drew, h.lt, h.le, h.row⟩

set_option maxRecDepth 100000 in
set_option maxHeartbeats 4000000 in
theorem crcBit_c {s0 : ByteArray} (hs : s0.size ≤ maxLen) {a bb : Nat} (ha : a < 65536) (hbb : bb < 2 ^ 32) (w : World) :
    Calls Try.prog 5 #[.string s0, .int .u16 a, .int .u32 bb] w fun e w' => e = .returned (.bool true) ∧ Below w.heap.size w w' := by
  obtain ⟨S, hS⟩ : ∃ S, S = cutS s0 := ⟨_, rfl⟩
  have HN := Lib.hid (show 0 < S.size ∧ S.size ≤ 200 ∧ bb < 2 ^ 32 from ⟨by rw [hS]; exact (cutS_size s0).1, by rw [hS]; exact (cutS_size s0).2, hbb⟩)
  have hcut : (⟨#[115]⟩ : ByteArray) ++ s0.extract 0 (min (s0.size : Int) 199).toNat = S := hS.symm
  have hmi : (0 : Int) ≤ min (s0.size : Int) 199 ∧ min (s0.size : Int) 199 ≤ (s0.size : Int) := by omega
  have hwa : IntKind.i64.wrap (a : Int) = (a : Int) := IntWalk.i64_in _ (by omega)
  have HS := Lib.hid hs; clear hs hS hbb ha
  go_enter Try.func5, Try.ntmps5
  go_wp2_with fail
  go_at_call 8
  refine (head_c _).mono ?_
  rintro e w1 ⟨rfl, h1⟩
  have H1 := Lib.hid h1; clear h1
  obtain ⟨cap, W, hcv, hb1, hb2, hb3⟩ := bytes_of S w1
  have H2 := Lib.hid (show BitS w w1.heap.size S.size (byteAt S) bb (a % S.size) 0 W from ⟨H1.out.trans (hb2.mono H1.out.size), hb3, H1.out.size, hb1.congr fun j _ => (if_neg (by omega)).symm⟩)
  clear hb1 hb2 hb3 H1
  generalize w1.heap.size = g at *
  obtain ⟨k, hk⟩ : ∃ k, k = a % S.size := ⟨_, rfl⟩
  have hk1 : k < S.size := by have := HN.out.1; rw [hk]; exact Nat.mod_lt _ this
  have hrem : (a : Int) % (S.size : Int) = (k : Int) := by omega
  have hnz : ¬ (S.size : Int) = 0 := by have := HN.out.1; omega
  rw [← hk] at H2
  clear hk
  go_wp2_with fail
  rw [hrem]
  clear hcv hrem hnz hwa hmi hcut HS
  go_loopw [10, 11] (fun c i wr => ∃ j : Nat, i = .int .i64 j ∧ j ≤ 4 ∧ k + j ≤ S.size ∧ c = .bool (zeros bb j) ∧ BitS w g S.size (byteAt S) bb k j wr) (fun _ i _ => 4 - (intOf i).toNat)
  case atStart => exact ⟨0, rfl, by omega, by omega, rfl, H2.out⟩
  case round =>
    clear H2
    obtain ⟨j, rfl, hj, hkj, rfl, hS⟩ := hrel
    by_cases hlt : j < 4 ∧ k + j < S.size
    · obtain ⟨hl1, hl2⟩ := hlt
      have d0 := (hS.row (k + j) hl2).1
      have e0 := (hS.row (k + j) hl2).2
      rw [turnN_at] at d0
      have HE := Lib.hid (hS.step hl2)
      have v1 := u8_xor_nat (byteAt S (k + j)) (byN bb j) (byteAt_lt _ _) (byN_lt _ _)
      have hq : ((byN bb j : Int) == 0) = (byN bb j == 0) := by
        cases h : (byN bb j == 0) with
        | true => rw [beq_iff_eq] at h ⊢; omega
        | false => rw [beq_eq_false_iff_ne] at h ⊢; omega
      have hz : zeros bb (j + 1) = (zeros bb j && (byN bb j == 0)) := rfl
      have ho : IntKind.u8.wrap ((bb : Int) / 2 ^ (8 * j)) = (byN bb j : Nat) := by
        rw [IntKind.wrap_u8]; unfold byN; simp
      have hn : (8 * (j : Int)).toNat = 8 * j := by omega
      have hn2 : IntKind.i64.wrap (8 * (j : Int)) = 8 * (j : Int) := IntWalk.i64_in _ (by omega)
      have hx : ((k : Int) + (j : Int)).toNat = k + j := by omega
      have hS2 := HN.out.2.1
      have hkj1 : IntKind.i64.wrap ((k : Int) + (j : Int)) = (k : Int) + (j : Int) := IntWalk.i64_in _ (by omega)
      have hi1 : (j : Int) < 4 := by omega
      have hi2 : (k : Int) + (j : Int) < (S.size : Int) := by omega
      have hi3 : (0 : Int) ≤ (k : Int) + (j : Int) := by omega
      clear hS
      have HZ := Lib.hid hz; clear hz
      generalize (byN bb j == 0) = q at *
      generalize byteAt S (k + j) ^^^ byN bb j = y at *
      generalize byteAt S (k + j) = x at *
      generalize byN bb j = v at *
      cases hc : zeros bb j with
      | true =>
        rw [hc, Bool.true_and] at HZ
        clear hc
        go_wp2_with fail
        go_roundw
        case rel => exact ⟨j + 1, by go_num, by omega, by omega, by rw [HZ.out], HE.out⟩
        case measure => simp [intOf]; omega
      | false =>
        rw [hc, Bool.false_and] at HZ
        clear hc
        go_wp2_with fail
        go_roundw
        case rel => exact ⟨j + 1, by go_num, by omega, by omega, by rw [HZ.out], HE.out⟩
        case measure => simp [intOf]; omega
    · have hS2 := HN.out.2.1
      have hml : maxLen = 9223372036854775807 := by decide
      have C0 := Lib.hid (fun W => sum_c (s := txt S.size (turnN (byteAt S) bb k j)) (by rw [txt_size]; omega) W)
      have C1 := Lib.hid (fun W => sum_c (s := S) (by omega) W)
      have hq := turn_sum (s := S) (b := bb) hj hkj
      have HC : ∀ V : World, BitS w g S.size (byteAt S) bb k j V → (convert 32 9 (.slice (some ⟨g, 0, none⟩) S.size cap)).run Try.prog V = .ok (.string (txt S.size (turnN (byteAt S) bb k j))) V :=
        fun V hV => hV.row.conv (turnN_lt (byteAt_lt S) bb k j) cap
      have hcv2 := HC wr hS
      clear HC
      have HQ := Lib.hid hS; clear hS
      have hkj1 : IntKind.i64.wrap ((k : Int) + (j : Int)) = (k : Int) + (j : Int) := IntWalk.i64_in _ (by omega)
      clear hml
      generalize txt S.size (turnN (byteAt S) bb k j) = T at *
      generalize sumN T = y0 at *
      generalize sumN S = y1 at *
      generalize zeros bb j = zz at *
      by_cases h4 : j < 4
      · have hi1 : (j : Int) < 4 := by omega
        have hi2 : ¬ (k : Int) + (j : Int) < (S.size : Int) := by omega
        clear hlt h4
        go_wp2_with fail
        go_at_call 10
        refine (C0.out _).mono ?_
        rintro e V1 ⟨rfl, hb⟩
        have H3 := Lib.hid (HQ.out.call hb)
        clear hb
        go_wp2_with fail
        go_at_call 10
        refine (C1.out _).mono ?_
        rintro e V2 ⟨rfl, hb⟩
        have H4 := Lib.hid (H3.out.call hb)
        clear hb
        go_wp2_with fail
        go_ret
        exact ⟨rfl, H4.out.below⟩
      · have hi1 : ¬ (j : Int) < 4 := by omega
        clear hlt h4
        go_wp2_with fail
        go_at_call 10
        refine (C0.out _).mono ?_
        rintro e V1 ⟨rfl, hb⟩
        have H3 := Lib.hid (HQ.out.call hb)
        clear hb
        go_wp2_with fail
        go_at_call 10
        refine (C1.out _).mono ?_
        rintro e V2 ⟨rfl, hb⟩
        have H4 := Lib.hid (H3.out.call hb)
        clear hb
        go_wp2_with fail
        go_ret
        exact ⟨rfl, H4.out.below⟩
end Go.Proofs.Ytldnjjaadbdbeaa
