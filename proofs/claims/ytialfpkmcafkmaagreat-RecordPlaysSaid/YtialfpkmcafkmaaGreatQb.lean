/- Four bytes of a number, a number of bytes; the contract of Frame, of HasPrefix. -/
import Derived.Test.YtialfpkmcafkmaaGreatQa
import Derived.Test.YtialfpkmcafkmaaGreatDkg
namespace Go.Proofs.YtialfpkmcafkmaaGreat
open Go.RowKit

theorem conv4 (W : World) (a b c d : Nat) (ha : a < 256) (hb : b < 256) (hc : c < 256) (hd : d < 256) : (convert 80 9 (.slice (some ⟨W.heap.size, 0, none⟩) 4 4)).run Tryz.prog (W.alloc (.cells #[.int .u8 (a : Nat), .int .u8 (b : Nat), .int .u8 (c : Nat), .int .u8 (d : Nat)] 5)) =
    .ok (.string (str [UInt8.ofNat a, UInt8.ofNat b, UInt8.ofNat c, UInt8.ofNat d])) (W.alloc (.cells #[.int .u8 (a : Nat), .int .u8 (b : Nat), .int .u8 (c : Nat), .int .u8 (d : Nat)] 5)) := by
  have h := run_convert_bytes_back (P := Tryz.prog) (W.alloc (.cells #[.int .u8 (a : Nat), .int .u8 (b : Nat), .int .u8 (c : Nat), .int .u8 (d : Nat)] 5)) 80 9 5 ⟨W.heap.size, 0, none⟩ 4 [UInt8.ofNat a, UInt8.ofNat b, UInt8.ofNat c, UInt8.ofNat d] Tryz.underlying80 Tryz.underlying5 Tryz.underlying9 (fun j hj => by
    have e : (⟨W.heap.size, 0, none⟩ : Addr).add j = ⟨W.heap.size, j, none⟩ := by unfold Addr.add; split <;> simp_all
    rw [e, cell_of (heap_alloc_new _ _)]
    match j, hj with
    | 0, _ => simp [UInt8.toNat_ofNat_of_lt' ha]
    | 1, _ => simp [UInt8.toNat_ofNat_of_lt' hb]
    | 2, _ => simp [UInt8.toNat_ofNat_of_lt' hc]
    | 3, _ => simp [UInt8.toNat_ofNat_of_lt' hd])
  exact h
theorem ofNat_mod (n : Nat) : UInt8.ofNat (n % 256) = UInt8.ofNat n := UInt8.toNat_inj.1 (by rw [UInt8.toNat_ofNat', UInt8.toNat_ofNat']; omega)
theorem conv_be4 (n : Nat) (hn : n < 4294967296) (W : World) : (convert 80 9 (.slice (some ⟨W.heap.size, 0, none⟩) 4 4)).run Tryz.prog (W.alloc (.cells #[.int .u8 ((n : Int) / 16777216), .int .u8 ((n : Int) / 65536 % 256), .int .u8 ((n : Int) / 256 % 256), .int .u8 ((n : Int) % 256)] 5)) =
    .ok (.string (str (be4 n))) (W.alloc (.cells #[.int .u8 ((n : Int) / 16777216), .int .u8 ((n : Int) / 65536 % 256), .int .u8 ((n : Int) / 256 % 256), .int .u8 ((n : Int) % 256)] 5)) := by
  have h := conv4 W (n / 16777216) (n / 65536 % 256) (n / 256 % 256) (n % 256) (by omega) (by omega) (by omega) (by omega)
  simp only [ofNat_mod] at h
  exact h
set_option maxRecDepth 100000 in
theorem be4_c (n : Nat) (hn : n < 4294967296) (w : World) : Calls Tryz.prog 35 #[.int .u32 n] w fun e w' => e = .returned (.string (str (be4 n))) ∧ Below w.heap.size w w' := by
  have hc := conv_be4 n hn
  generalize str (be4 n) = z at *
  go_enter Tryz.func35, Tryz.ntmps35
  go_wp2_with fail
  go_ret
  exact ⟨rfl, (Below.refl _ _).alloc (Nat.le_refl _) _⟩
theorem shl8 (x b : Nat) (hx : x < 16777216) (hb : b < 256) : Go.bits .or .u64 (IntKind.u64.wrap ((x : Int) * 256)) (IntKind.u64.wrap (b : Int)) = ((x * 256 + b : Nat) : Int) := by
  have e : IntKind.u64.wrap ((x : Int) * 256) = ((x * 256 : Nat) : Int) := by rw [IntKind.wrap_u64]; omega
  have e2 : IntKind.u64.wrap (b : Int) = (b : Int) := by rw [IntKind.wrap_u64]; omega
  rw [e, e2, u64_or_nat _ _ (by omega) (by omega)]
  congr 1
  have := Nat.shiftLeft_add_eq_or_of_lt (i := 8) (b := b) hb x
  rw [Nat.shiftLeft_eq] at this
  exact this.symm
set_option maxRecDepth 100000 in
set_option maxHeartbeats 1000000 in
theorem number_c (s : List UInt8) (hs : s.length = 4) (w : World) : Calls Tryz.prog 62 #[.string (str s)] w fun e w' => e = .returned (.int .u64 (num s : Nat)) ∧ w' = w := by
  have HX := Lib.hid (fun (k : Nat) (hk : k < 4) (W : World) => index_i64 (str s) (k : Int) k (by rw [str_size, hs]; exact hk) rfl W)
  have HB := Lib.hid (fun k => byteAt_lt (str s) k)
  have HN := Lib.hid (fun k (hk : k < 4) => num_step s (k := k) (by rw [hs]; exact hk))
  have HL := Lib.hid (fun k (hk : k < 4) => show num (s.take k) < 16777216 by
    match s, hs, k, hk with
    | [a, b, c, d], _, 0, _ => simp [num]
    | [a, b, c, d], _, 1, _ => have := a.toNat_lt; simp only [num, List.take, List.foldl]; omega
    | [a, b, c, d], _, 2, _ => have := a.toNat_lt; have := b.toNat_lt; simp only [num, List.take, List.foldl]; omega
    | [a, b, c, d], _, 3, _ => have := a.toNat_lt; have := b.toNat_lt; have := c.toNat_lt; simp only [num, List.take, List.foldl]; omega)
  have HE := Lib.hid (show num (s.take 4) = num s by rw [List.take_of_length_le (by omega)])
  have hz := str_size s
  rw [hs] at hz
  clear hs
  go_enter Tryz.func62, Tryz.ntmps62
  go_wp2_with fail
  go_loop [3, 7] (fun c i => ∃ k : Nat, k ≤ 4 ∧ i = .int .i64 k ∧ c = .int .u64 (num (s.take k) : Nat)) (fun _ i => 4 - (intOf i).toNat)
  case atStart => exact ⟨0, by omega, rfl, rfl⟩
  case round =>
    obtain ⟨k, hk, rfl, rfl⟩ := hrel
    by_cases hlt : k < 4
    · have hx := HX.out k hlt
      have h8 := shl8 _ _ (HL.out k hlt) (HB.out k)
      have HY := Lib.hid (HN.out k hlt)
      have hlti : (k : Int) < 4 := by omega
      clear HX HB HN HL HE
      generalize num (s.take k) = x at *
      generalize byteAt (str s) k = b at *
      go_wp2_with fail
      go_round
      case rel => exact ⟨k + 1, by omega, by go_num, by rw [HY.out]; simp⟩
      case measure => simp [intOf]; omega
    · obtain rfl : k = 4 := by omega
      rw [HE.out]
      clear HX HB HN HL HE
      go_wp2_with fail
      go_ret
      exact ⟨rfl, rfl⟩
theorem str_toList (l : List UInt8) : (str l).toList = l := by rw [ByteArray.toList_eq, str_list]
theorem be4_size (n : Nat) : (str (be4 n)).size = 4 := by rw [str_size, be4_len]
set_option maxRecDepth 100000 in
set_option maxHeartbeats 1000000 in
theorem frame_c (s : List UInt8) (hs : s.length ≤ 65536) (w : World) : Calls Tryz.prog 15 #[.string (str s)] w fun e w' => e = .returned (.tuple #[.string (str (fr s)), .bool true]) ∧ Below w.heap.size w w' := by
  have hsz := str_size s
  have C1 := Lib.hid (fun W => be4_c s.length (by omega) W)
  have C2 := Lib.hid (fun W => sum_c (s := str (be4 s.length)) (by rw [be4_size]; unfold maxLen; omega) W)
  have C3 := Lib.hid (fun W => more_c (sumN_lt (str (be4 s.length))) (s := str s) (by rw [str_size]; unfold maxLen; omega) W)
  rw [sum_app] at C3
  have C4 := Lib.hid (fun W => be4_c (sumN (str (be4 s.length ++ s))) (sumN_lt _) W)
  have HF := Lib.hid (show str (be4 s.length) ++ str (be4 (sumN (str (be4 s.length ++ s)))) ++ str s = str (fr s) by rw [str_app, str_app, fr, List.append_assoc])
  have z1 := be4_size s.length
  have z2 := be4_size (sumN (str (be4 s.length ++ s)))
  generalize str (fr s) = out at *
  generalize str (be4 (sumN (str (be4 s.length ++ s)))) = t2 at *
  generalize sumN (str (be4 s.length ++ s)) = k2 at *
  generalize sumN (str (be4 s.length)) = k1 at *
  generalize str (be4 s.length) = t1 at *
  generalize str s = t0 at *
  generalize s.length = n at *
  go_enter Tryz.func15, Tryz.ntmps15
  go_wp2_with fail
  refine (C1.out _).mono ?_
  rintro e w1 ⟨rfl, h1⟩
  have B1 := Lib.hid h1; clear h1 C1
  go_wp2_with fail
  refine (C2.out _).mono ?_
  rintro e w2 ⟨rfl, h1⟩
  have B2 := Lib.hid (B1.out.trans (h1.mono B1.out.size)); clear h1 C2 B1
  go_wp2_with fail
  refine (C3.out _).mono ?_
  rintro e w3 ⟨rfl, h1⟩
  have B3 := Lib.hid (B2.out.trans (h1.mono B2.out.size)); clear h1 C3 B2
  go_wp2_with fail
  refine (C4.out _).mono ?_
  rintro e w4 ⟨rfl, h1⟩
  have B4 := Lib.hid (B3.out.trans (h1.mono B3.out.size)); clear h1 C4 B3
  go_wp2_with fail
  go_ret2
  exact ⟨by rw [← HF.out]; rfl, B4.out⟩
set_option maxRecDepth 100000 in
theorem frame_long (s : ByteArray) (hs : 65536 < s.size) (w : World) : Calls Tryz.prog 15 #[.string s] w fun e w' => e = .returned (.tuple #[.string (str []), .bool false]) ∧ w' = w := by
  go_enter Tryz.func15, Tryz.ntmps15
  go_wp2_with fail
  go_ret2
  exact ⟨rfl, rfl⟩
set_option maxRecDepth 100000 in
set_option maxHeartbeats 1000000 in
theorem prefix_c (a b : List UInt8) (w : World) : Calls Tryz.prog 63 #[.string (str a), .string (str b)] w fun e w' => e = .returned (.bool (b.isPrefixOf a)) ∧ w' = w := by
  have hza := str_size a
  have hzb := str_size b
  have HI : Calls Tryz.prog 80 #[.string (str a), .string (str b)] w fun e w' => e = .returned (.bool (b.isPrefixOf a)) ∧ w' = w := by
    by_cases hl : b.length ≤ a.length
    · have hc := cut_to a b.length hl
      have HE := Lib.hid (show ((str (a.take b.length)).toList == (str b).toList) = b.isPrefixOf a by
        rw [str_toList, str_toList, Bool.eq_iff_iff, beq_iff_eq, List.isPrefixOf_iff_prefix, List.prefix_iff_eq_take]
        exact ⟨fun h => h.symm, fun h => h.symm⟩)
      generalize str (a.take b.length) = z at *
      generalize b.isPrefixOf a = q at *
      generalize str a = sa at *
      generalize str b = sb at *
      generalize a.length = na at *
      generalize b.length = nb at *
      have hli : (nb : Int) ≤ (na : Int) := by omega
      go_enter Tryz.func80, Tryz.ntmps80
      go_wp2_with fail
      go_ret
      exact ⟨by rw [← HE.out]; rfl, rfl⟩
    · have HE := Lib.hid (show false = b.isPrefixOf a by
        symm
        rw [Bool.eq_false_iff]
        intro h
        exact hl (List.isPrefixOf_iff_prefix.1 h).length_le)
      generalize b.isPrefixOf a = q at *
      generalize str a = sa at *
      generalize str b = sb at *
      generalize a.length = na at *
      generalize b.length = nb at *
      have hli : ¬ (nb : Int) ≤ (na : Int) := by omega
      go_enter Tryz.func80, Tryz.ntmps80
      go_wp2_with fail
      go_ret
      exact ⟨by rw [← HE.out]; rfl, rfl⟩
  have H := Lib.hid HI
  clear HI
  generalize b.isPrefixOf a = q at *
  generalize str a = sa at *
  generalize str b = sb at *
  go_enter Tryz.func63, Tryz.ntmps63
  go_wp2_with fail
  refine H.out.mono ?_
  rintro e w1 ⟨rfl, rfl⟩
  go_wp2_with fail
  go_ret
  exact ⟨rfl, rfl⟩
theorem str_drop (s : List UInt8) (n : Nat) : (str s).extract n (str s).size = str (s.drop n) := by
  apply ByteArray.ext
  simp [str, ByteArray.data_extract, ByteArray.size]
  rw [List.take_of_length_le (by simp)]
theorem cut_from (l : List UInt8) (n : Nat) (hn : n ≤ l.length) (V : World) : (Instr.slice 9 (.string (str l)) (some (.int .i64 (n : Nat))) none none).run Tryz.prog V = .ok (.string (str (l.drop n))) V := by
  rw [run_slice_string_l V _ _ Tryz.underlying9 .i64 _ (by omega) (by rw [str_size]; omega), Int.toNat_natCast, str_drop]
theorem cut_u64 (l : List UInt8) (n : Nat) (hn : n ≤ l.length) (V : World) : (Instr.slice 9 (.string (str l)) none (some (.int .u64 (n : Nat))) none).run Tryz.prog V = .ok (.string (str (l.take n))) V := by
  rw [run_slice_string_h V _ _ Tryz.underlying9 .u64 _ (by omega) (by rw [str_size]; omega), Int.toNat_natCast, str_take]
/-- What first answers. -/
def firstV : Option (List UInt8) → Value
  | none => .tuple #[.string (str []), .bool false]
  | some t => .tuple #[.string (str t), .bool true]
set_option maxRecDepth 100000 in
set_option maxHeartbeats 1000000 in
theorem first_c (s : List UInt8) (hs : s.length ≤ maxLen) (w : World) : Calls Tryz.prog 32 #[.string (str s)] w fun e w' => e = .returned (firstV (firstP s)) ∧ Below w.heap.size w w' := by
  have hz := str_size s
  by_cases h8 : s.length < 8
  · have hp : firstP s = none := by
      cases h : firstP s with
      | none => rfl
      | some t =>
        obtain ⟨_, r, rfl⟩ := firstP_some.1 h
        rw [List.length_append, fr_len] at h8
        omega
    rw [hp]
    have h8i : (s.length : Int) < 8 := by omega
    generalize str s = sa at *
    generalize s.length = n at *
    go_enter Tryz.func32, Tryz.ntmps32
    go_wp2_with fail
    go_ret2
    exact ⟨rfl, Below.refl _ _⟩
  · have h4 := str_take s 4
    have h4l : (s.take 4).length = 4 := by rw [List.length_take]; omega
    have C1 := Lib.hid (fun W => number_c (s.take 4) h4l W)
    have hd8 := str_drop s 8
    rw [str_size] at hd8
    have hl8 : (s.drop 8).length = s.length - 8 := List.length_drop
    have HP := Lib.hid (show firstP s = if ((s.drop 8).take (num (s.take 4))).length ≤ 65536 ∧ (fr ((s.drop 8).take (num (s.take 4)))).isPrefixOf s = true then some ((s.drop 8).take (num (s.take 4))) else none from rfl)
    have hnum := num_lt h4l
    by_cases hb : s.length - 8 < num (s.take 4)
    · have hp : firstP s = none := by
        cases h : firstP s with
        | none => rfl
        | some t =>
          obtain ⟨h1, r, rfl⟩ := firstP_some.1 h
          rw [fr_take, num_be4 (by omega), List.length_append, fr_len] at hb
          omega
      rw [hp]
      have hbi : (s.length : Int) - 8 < (num (s.take 4) : Int) := by omega
      have hn8 : ¬ (s.length : Int) < 8 := by omega
      have hwr : IntKind.u64.wrap ((s.length : Int) - 8) = (s.length : Int) - 8 := by rw [IntKind.wrap_u64]; unfold maxLen at hs; omega
      have hns : (s.length : Int) ≤ 9223372036854775807 := by unfold maxLen at hs; omega
      clear HP hd8 hl8 h4l hnum hb hp hs
      generalize str (s.take 4) = s4 at *
      generalize num (s.take 4) = m at *
      generalize str s = sa at *
      generalize s.length = n at *
      go_enter Tryz.func32, Tryz.ntmps32
      go_wp2_with fail
      refine (C1.out _).mono ?_
      rintro e w1 ⟨rfl, rfl⟩
      go_wp2_with fail
      go_ret2
      exact ⟨rfl, Below.refl _ _⟩
    · have hbi : ¬ (s.length : Int) - 8 < (num (s.take 4) : Int) := by omega
      have hn8 : ¬ (s.length : Int) < 8 := by omega
      have hwr : IntKind.u64.wrap ((s.length : Int) - 8) = (s.length : Int) - 8 := by rw [IntKind.wrap_u64]; unfold maxLen at hs; omega
      have hns : (s.length : Int) ≤ 9223372036854775807 := by unfold maxLen at hs; omega
      have hcm := str_take (s.drop 8) (num (s.take 4))
      have h8z := str_size (s.drop 8)
      rw [hl8] at h8z
      have hmi : (num (s.take 4) : Int) ≤ ((s.length - 8 : Nat) : Int) := by omega
      have htl : ((s.drop 8).take (num (s.take 4))).length = num (s.take 4) := by rw [List.length_take]; omega
      generalize (s.drop 8).take (num (s.take 4)) = t at *
      by_cases ht : t.length ≤ 65536
      · have C2 := Lib.hid (fun W => frame_c t ht W)
        have C3 := Lib.hid (fun W => prefix_c s (fr t) W)
        have hd := str_drop (fr t) 8
        rw [fr_drop, str_size, fr_len] at hd
        have hfl := str_size (fr t)
        rw [fr_len] at hfl
        by_cases hpr : (fr t).isPrefixOf s = true
        · have hp : firstP s = some t := by rw [HP.out, if_pos ⟨ht, hpr⟩]
          rw [hp]
          rw [hpr] at C3
          clear HP hl8 h4l hnum hb hp hs htl hpr hwr
          generalize str (s.take 4) = s4 at *
          generalize num (s.take 4) = m at *
          generalize str (s.drop 8) = s8 at *
          generalize str (fr t) = f at *
          generalize hst : str t = st at *
          have HT := Lib.hid hst; clear hst
          generalize str s = sa at *
          generalize s.length = n at *
          go_enter Tryz.func32, Tryz.ntmps32
          go_wp2_with fail
          refine (C1.out _).mono ?_
          rintro e w1 ⟨rfl, rfl⟩
          go_wp2_with fail
          refine (C2.out _).mono ?_
          rintro e w2 ⟨rfl, h1⟩
          have B2 := Lib.hid h1; clear h1 C2 C1
          go_wp2_with fail
          refine (C3.out _).mono ?_
          rintro e w3 ⟨rfl, rfl⟩
          go_wp2_with fail
          go_ret2
          exact ⟨by rw [firstV, HT.out]; rfl, B2.out⟩
        · have hp : firstP s = none := by rw [HP.out, if_neg (fun h => hpr h.2)]
          rw [hp]
          rw [Bool.not_eq_true] at hpr
          rw [hpr] at C3
          clear HP hl8 h4l hnum hb hp hs htl hpr hwr
          generalize str (s.take 4) = s4 at *
          generalize num (s.take 4) = m at *
          generalize str (s.drop 8) = s8 at *
          generalize str (fr t) = f at *
          generalize str t = st at *
          generalize str s = sa at *
          generalize s.length = n at *
          go_enter Tryz.func32, Tryz.ntmps32
          go_wp2_with fail
          refine (C1.out _).mono ?_
          rintro e w1 ⟨rfl, rfl⟩
          go_wp2_with fail
          refine (C2.out _).mono ?_
          rintro e w2 ⟨rfl, h1⟩
          have B2 := Lib.hid h1; clear h1 C2 C1
          go_wp2_with fail
          refine (C3.out _).mono ?_
          rintro e w3 ⟨rfl, rfl⟩
          go_wp2_with fail
          go_ret2
          exact ⟨rfl, B2.out⟩
      · have C2 := Lib.hid (fun W => frame_long (str t) (by rw [str_size]; omega) W)
        have hp : firstP s = none := by rw [HP.out, if_neg (fun h => ht h.1)]
        rw [hp]
        clear HP hl8 h4l hnum hb hp hs htl hwr
        generalize str (s.take 4) = s4 at *
        generalize num (s.take 4) = m at *
        generalize str (s.drop 8) = s8 at *
        generalize str t = st at *
        generalize str s = sa at *
        generalize s.length = n at *
        go_enter Tryz.func32, Tryz.ntmps32
        go_wp2_with fail
        refine (C1.out _).mono ?_
        rintro e w1 ⟨rfl, rfl⟩
        go_wp2_with fail
        refine (C2.out _).mono ?_
        rintro e w2 ⟨rfl, rfl⟩
        go_wp2_with fail
        go_ret2
        exact ⟨rfl, Below.refl _ _⟩
end Go.Proofs.YtialfpkmcafkmaaGreat
