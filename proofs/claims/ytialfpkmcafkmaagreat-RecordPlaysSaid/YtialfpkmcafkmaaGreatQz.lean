/- The reference's frames. -/
import Derived.Test.YtialfpkmcafkmaaGreatQc
import Derived.Test.YtialfpkmcafkmaaGreatCe
import Derived.BigQuiet
import Derived.Test.YtialfpkmcafkmaaGreatQd
namespace Go.Proofs.YtialfpkmcafkmaaGreat
open Go.RowKit
set_option maxRecDepth 100000 in
theorem rbe4_c (n : Nat) (hn : n < 4294967296) (w : World) : Calls Tryz.prog 74 #[.int .u32 n] w fun e w' => e = .returned (.string (str (be4 n))) ∧ Below w.heap.size w w' := by
  have hc := conv_be4 n hn
  generalize str (be4 n) = z at *
  go_enter Tryz.func74, Tryz.ntmps74
  go_wp2_with fail
  go_ret
  exact ⟨rfl, (Below.refl _ _).alloc (Nat.le_refl _) _⟩
set_option maxRecDepth 100000 in
set_option maxHeartbeats 1000000 in
theorem rframe_c (s : List UInt8) (hs : s.length ≤ 65536) (w : World) : Calls Tryz.prog 46 #[.string (str s)] w fun e w' => e = .returned (.tuple #[.string (str (fr s)), .bool true]) ∧ Below w.heap.size w w' := by
  have hsz := str_size s
  have C1 := Lib.hid (fun W => rbe4_c s.length (by omega) W)
  have C2 := Lib.hid (fun W => rsum_c (s := str (be4 s.length ++ s)) (by rw [str_size, List.length_append, be4_len]; unfold maxLen; omega) W)
  have C4 := Lib.hid (fun W => rbe4_c (sumN (str (be4 s.length ++ s))) (sumN_lt _) W)
  have HF := Lib.hid (show str (be4 s.length) ++ str (be4 (sumN (str (be4 s.length ++ s)))) ++ str s = str (fr s) by rw [str_app, str_app, fr, List.append_assoc])
  have hcat : str (be4 s.length) ++ str s = str (be4 s.length ++ s) := str_app _ _
  have z1 := be4_size s.length
  have z2 := be4_size (sumN (str (be4 s.length ++ s)))
  generalize str (fr s) = out at *
  generalize str (be4 (sumN (str (be4 s.length ++ s)))) = t2 at *
  generalize sumN (str (be4 s.length ++ s)) = k2 at *
  generalize str (be4 s.length ++ s) = t3 at *
  generalize str (be4 s.length) = t1 at *
  generalize str s = t0 at *
  generalize s.length = n at *
  go_enter Tryz.func46, Tryz.ntmps46
  go_wp2_with fail
  refine (C1.out _).mono ?_
  rintro e w1 ⟨rfl, h1⟩
  have B1 := Lib.hid h1; clear h1 C1
  go_wp2_with fail
  refine (C2.out _).mono ?_
  rintro e w2 ⟨rfl, rfl⟩
  clear C2
  go_wp2_with fail
  refine (C4.out _).mono ?_
  rintro e w4 ⟨rfl, h1⟩
  have B4 := Lib.hid (B1.out.trans (h1.mono B1.out.size)); clear h1 C4 B1
  go_wp2_with fail
  go_ret2
  exact ⟨by rw [← HF.out]; rfl, B4.out⟩
set_option maxRecDepth 100000 in
theorem rframe_long (s : ByteArray) (hs : 65536 < s.size) (w : World) : Calls Tryz.prog 46 #[.string s] w fun e w' => e = .returned (.tuple #[.string (str []), .bool false]) ∧ w' = w := by
  go_enter Tryz.func46, Tryz.ntmps46
  go_wp2_with fail
  go_ret2
  exact ⟨rfl, rfl⟩
theorem i64_or_nat (a b : Nat) (ha : a < 9223372036854775808) (hb : b < 9223372036854775808) : Go.bits .or .i64 (a : Int) (b : Int) = ((a ||| b : Nat) : Int) := by
  have hx : a ||| b < 2 ^ 63 := Nat.or_lt_two_pow (by omega) (by omega)
  show IntKind.i64.wrap ((BitVec.ofInt 64 (a : Int) ||| BitVec.ofInt 64 (b : Int)).toNat : Int) = _
  rw [BitVec.toNat_or, ofInt_u64 a (by omega), ofInt_u64 b (by omega), IntKind.wrap_i64]
  omega

theorem or_sum (a b i : Nat) (h : b < 2 ^ i) : a * 2 ^ i ||| b = a * 2 ^ i + b := by
  have := Nat.shiftLeft_add_eq_or_of_lt h a
  rw [Nat.shiftLeft_eq] at this
  exact this.symm
theorem or4 {a b c d : Nat} (ha : a < 256) (hb : b < 256) (hc : c < 256) (hd : d < 256) :
    Go.bits .or .i64 (Go.bits .or .i64 (Go.bits .or .i64 ((a : Int) * 16777216) ((b : Int) * 65536)) ((c : Int) * 256)) (d : Int) = ((((a * 256 + b) * 256 + c) * 256 + d : Nat) : Int) := by
  have e1 : Go.bits .or .i64 ((a : Int) * 16777216) ((b : Int) * 65536) = ((a * 16777216 + b * 65536 : Nat) : Int) := by
    have := i64_or_nat (a * 16777216) (b * 65536) (by omega) (by omega)
    rw [or_sum a (b * 65536) 24 (by omega)] at this
    exact this
  have e2 : Go.bits .or .i64 ((a * 16777216 + b * 65536 : Nat) : Int) ((c : Int) * 256) = ((a * 16777216 + b * 65536 + c * 256 : Nat) : Int) := by
    have := i64_or_nat (a * 16777216 + b * 65536) (c * 256) (by omega) (by omega)
    rw [show a * 16777216 + b * 65536 = (a * 256 + b) * 2 ^ 16 by omega, or_sum (a * 256 + b) (c * 256) 16 (by omega), ← show a * 16777216 + b * 65536 = (a * 256 + b) * 2 ^ 16 by omega] at this
    exact this
  have e3 : Go.bits .or .i64 ((a * 16777216 + b * 65536 + c * 256 : Nat) : Int) (d : Int) = ((a * 16777216 + b * 65536 + c * 256 + d : Nat) : Int) := by
    have := i64_or_nat (a * 16777216 + b * 65536 + c * 256) d (by omega) (by omega)
    rw [show a * 16777216 + b * 65536 + c * 256 = ((a * 256 + b) * 256 + c) * 2 ^ 8 by omega, or_sum ((a * 256 + b) * 256 + c) d 8 (by omega), ← show a * 16777216 + b * 65536 + c * 256 = ((a * 256 + b) * 256 + c) * 2 ^ 8 by omega] at this
    exact this
  rw [e1, e2, e3]
  exact congrArg (fun n : Nat => (n : Int)) (by omega)
theorem str_extract (s : List UInt8) (a b : Nat) : (str s).extract a b = str ((s.drop a).take (b - a)) := by
  apply ByteArray.ext
  simp [str, ByteArray.data_extract]
theorem byteAt_app (a r : List UInt8) (j : Nat) : byteAt (str (a ++ r)) (a.length + j) = byteAt (str r) j := by
  rw [byteAt_str, byteAt_str]
  simp [List.getElem?_append_right]
theorem num_four {r : List UInt8} (h : 4 ≤ r.length) : num (r.take 4) = ((byteAt (str r) 0 * 256 + byteAt (str r) 1) * 256 + byteAt (str r) 2) * 256 + byteAt (str r) 3 := by
  match r, h with
  | a :: b :: c :: d :: r, _ => simp [num, byteAt_str]
set_option maxRecDepth 100000 in
set_option maxHeartbeats 2000000 in
theorem rframes_c (s : List UInt8) (hs : s.length ≤ 1000000000) (w : World) : Calls Tryz.prog 34 #[.string (str s)] w fun e w' =>
    ∃ l r v, e = .returned (.tuple #[v, .int .i64 ((frs l).length : Nat)]) ∧ Fs s l r ∧ OwnS w.heap.size l v w' ∧ Below w.heap.size w w' := by
  have HX := Lib.hid hs
  have hsz := str_size s
  go_enter Tryz.func34, Tryz.ntmps34
  go_wp2_with fail
  go_loopw [4, 5] (fun v i wr => ∃ l r, s = frs l ++ r ∧ (∀ t ∈ l, t.length ≤ 65536) ∧ i = .int .i64 ((frs l).length : Nat) ∧ OwnS w.heap.size l v wr ∧ Below w.heap.size w wr) (fun _ i _ => s.length - (intOf i).toNat)
  case atStart => exact ⟨[], s, rfl, by simp, rfl, World.ownsRow_nil _ _ _ _, Below.refl _ _⟩
  case round =>
    obtain ⟨l, r, he, hall, rfl, hown, hb⟩ := hrel
    obtain ⟨va, vc, rfl⟩ := hown.form
    have hlen : s.length = (frs l).length + r.length := by rw [he, List.length_append]
    have hln := frs_len l
    have hA8 : IntKind.i64.wrap (((frs l).length : Int) + 8) = ((frs l).length : Int) + 8 := IntWalk.i64_in _ (by omega)
    have hA8' : wrap64 (((frs l).length : Int) + 8) = ((frs l).length : Int) + 8 := IntWalk.wrap64_in _ (by omega)
    by_cases h8 : r.length < 8
    · have hnone : firstP r = none := by
        cases h : firstP r with
        | none => rfl
        | some t =>
          obtain ⟨_, q, rfl⟩ := firstP_some.1 h
          rw [List.length_append, fr_len] at h8
          omega
      have HR := Lib.hid (show Fs s l r ∧ OwnS w.heap.size l (.slice va l.length vc) wr ∧ Below w.heap.size w wr from ⟨⟨he, hall, hnone⟩, hown, hb⟩)
      have hgt : ¬ ((frs l).length : Int) + 8 ≤ (s.length : Int) := by omega
      clear he hall hown hb hnone
      generalize str s = ss at *
      generalize s.length = n at *
      go_wp2_with fail
      go_ret2
      exact ⟨l, r, _, rfl, HR.out.1, HR.out.2⟩
    · have hge : ((frs l).length : Int) + 8 ≤ (s.length : Int) := by omega
      have X0 : ∀ (j : Nat) (_ : j < 4) (i : Int) (_ : i = (((frs l).length + j : Nat) : Int)) (W : World), (Instr.index 9 (.string (str s)) (.int .i64 i)).run Tryz.prog W = .ok (.int .u8 (byteAt (str r) j : Nat)) W := fun j hj i hi W => by
        have h := index_i64 (str s) i ((frs l).length + j) (by rw [hsz]; omega) hi W
        have e : byteAt (str s) ((frs l).length + j) = byteAt (str r) j := by rw [he, byteAt_app]
        rw [e] at h
        exact h
      have x0 := X0 0 (by omega) ((frs l).length : Int) (by simp)
      have x1 := X0 1 (by omega) (((frs l).length : Int) + 1) (by simp)
      have x2 := X0 2 (by omega) (((frs l).length : Int) + 2) (by simp)
      have x3 := X0 3 (by omega) (((frs l).length : Int) + 3) (by simp)
      have hnum := num_four (r := r) (by omega)
      have b0 := byteAt_lt (str r) 0
      have b1 := byteAt_lt (str r) 1
      have b2 := byteAt_lt (str r) 2
      have b3 := byteAt_lt (str r) 3
      have w1 : IntKind.i64.wrap (((frs l).length : Int) + 1) = ((frs l).length : Int) + 1 := IntWalk.i64_in _ (by omega)
      have w2 : IntKind.i64.wrap (((frs l).length : Int) + 2) = ((frs l).length : Int) + 2 := IntWalk.i64_in _ (by omega)
      have w3 : IntKind.i64.wrap (((frs l).length : Int) + 3) = ((frs l).length : Int) + 3 := IntWalk.i64_in _ (by omega)
      clear X0
      generalize byteAt (str r) 0 = c0 at *
      generalize byteAt (str r) 1 = c1 at *
      generalize byteAt (str r) 2 = c2 at *
      generalize byteAt (str r) 3 = c3 at *
      have HR := Lib.hid (And.intro he (And.intro hall (And.intro hown hb)))
      have HN := Lib.hid (And.intro hnum (And.intro b0 (And.intro b1 (And.intro b2 (And.intro b3 (And.intro hlen (And.intro h8 hln)))))))
      clear he hall hown hb hnum hlen h8 hln
      generalize hss : str s = ss at *
      have HSS := Lib.hid hss
      clear hss
      generalize hn : s.length = n at *
      have HNN := Lib.hid hn
      clear hn
      go_wp2_with fail
      go_quiet (fail)
      rw [or4 b0 b1 b2 b3, ← HN.out.1]
      obtain ⟨m, hm⟩ : ∃ m, m = num (r.take 4) := ⟨_, rfl⟩
      rw [← hm]
      have HM := Lib.hid (And.intro hm (show m < 4294967296 by rw [hm]; exact num_lt (by rw [List.length_take]; have := HN.out.2.2.2.2.2.2.1; omega)))
      clear x0 x1 x2 x3 w1 w2 w3 hm hs b0 b1 b2 b3 hA8'
      have HB := Lib.hid (show Below w.heap.size w (wr.drewN nq) ∧ OwnS w.heap.size l (.slice va l.length vc) (wr.drewN nq) from ⟨below_drewN HR.out.2.2.2 nq, own_keep HR.out.2.2.1 fun _ _ => rfl⟩)
      generalize wr.drewN nq = wq at *
      have hkey : ∀ t, firstP r = some t → t.length = m ∧ t.length ≤ 65536 ∧ 8 + m ≤ r.length := fun t ht => by
        obtain ⟨h1, q, hq⟩ := firstP_some.1 ht
        have h2 : m = t.length := by rw [HM.out.1, hq, fr_take, num_be4 (by omega)]
        exact ⟨h2.symm, h1, by rw [hq, List.length_append, fr_len]; omega⟩
      by_cases hbad : 65536 < m ∨ n < (frs l).length + 8 + m
      · have hnone : firstP r = none := by
          cases h : firstP r with
          | none => rfl
          | some t => have := hkey t h; have := HN.out.2.2.2.2.2.1; omega
        have HF := Lib.hid (show Fs s l r from ⟨HR.out.1, HR.out.2.1, hnone⟩)
        have hw2 : IntKind.i64.wrap (((frs l).length : Int) + 8 + (m : Int)) = ((frs l).length : Int) + 8 + (m : Int) := IntWalk.i64_in _ (by have := HM.out.2; have := HX.out; have := HN.out.2.2.2.2.2.1; omega)
        clear hkey hnone
        by_cases hb1 : (65536 : Int) < (m : Int)
        · clear hbad
          go_wp2_with fail
          go_ret2
          exact ⟨l, r, _, rfl, HF.out, HB.out.2, HB.out.1⟩
        · have hb2 : (n : Int) < ((frs l).length : Int) + 8 + (m : Int) := by omega
          clear hbad
          go_wp2_with fail
          go_ret2
          exact ⟨l, r, _, rfl, HF.out, HB.out.2, HB.out.1⟩
      · have hb1 : ¬ (65536 : Int) < (m : Int) := by omega
        have hb2 : ((frs l).length : Int) + 8 + (m : Int) ≤ (n : Int) := by omega
        have hw2 : IntKind.i64.wrap (((frs l).length : Int) + 8 + (m : Int)) = ((frs l).length : Int) + 8 + (m : Int) := IntWalk.i64_in _ (by have := HX.out; omega)
        have hrl : 8 + m ≤ r.length := by have := HN.out.2.2.2.2.2.1; omega
        obtain ⟨t, ht⟩ : ∃ t, t = (r.drop 8).take m := ⟨_, rfl⟩
        have htl : t.length = m := by rw [ht, List.length_take, List.length_drop]; omega
        have hx1 : ss.extract ((frs l).length + 8) ((frs l).length + 8 + m) = str t := by
          rw [← HSS.out, str_extract, HR.out.1, ht, ← List.drop_drop, List.drop_left]
          congr 2; omega
        have hx2 : ss.extract (frs l).length ((frs l).length + 8 + m) = str (r.take (8 + m)) := by
          rw [← HSS.out, str_extract, HR.out.1, List.drop_left]
          congr 2; omega
        have C1 := Lib.hid (fun W => rframe_c t (by omega) W)
        have hzt := str_size t
        have HT := Lib.hid (And.intro ht htl)
        by_cases heq : fr t = r.take (8 + m)
        · have hsome : firstP r = some t := firstP_some.2 ⟨by omega, r.drop (8 + m), by rw [heq, List.take_append_drop]⟩
          have hqq : ((str (fr t)).toList == (str (r.take (8 + m))).toList) = true := by rw [str_toList, str_toList, heq]; simp
          have HN2 := Lib.hid (show s = frs (l ++ [t]) ++ r.drop (8 + m) ∧ (∀ u ∈ l ++ [t], u.length ≤ 65536) ∧ (frs (l ++ [t])).length = (frs l).length + 8 + m from
            ⟨by rw [HR.out.1, frs_append, frs_one, heq, List.append_assoc, List.take_append_drop], fun u hu => by
              rcases List.mem_append.1 hu with h | h
              · exact HR.out.2.1 u h
              · rw [List.mem_singleton.1 h]; omega, by rw [frs_append, frs_one, List.length_append, fr_len]; omega⟩)
          have hln2 : l.length < 1000000000 := by have := HN.out.2.2.2.2.2.2.2; have := HX.out; omega
          clear hkey hsome heq ht htl hrl hbad
          generalize str (r.take (8 + m)) = sr at *
          generalize str (fr t) = sf at *
          generalize hst' : str t = st at *
          have HST := Lib.hid hst'
          clear hst'
          go_wp2_with fail
          refine (C1.out _).mono ?_
          rintro e w1 ⟨rfl, h1⟩
          have HO := Lib.hid ((HB.out.2.keep h1).keep ((Below.refl _ _).alloc (Nat.le_refl _) (.cells #[.string st] 9)))
          have HBB := Lib.hid ((HB.out.1.trans (h1.mono HB.out.1.size)).alloc (Nat.le_trans HB.out.1.size h1.size) (.cells #[.string st] 9))
          have HZ := Lib.hid (heap_alloc_new w1 (.cells #[.string st] 9))
          have HW := Lib.hid (show w.heap.size ≤ (w1.alloc (.cells #[.string st] 9)).heap.size by rw [alloc_size]; exact Nat.le_succ_of_le (Nat.le_trans HB.out.1.size h1.size))
          clear h1 C1
          go_wp2_with (at_builtin; refine wpList_append_one rfl _ _ 41 9 rfl Tryz.underlying41 _ 16 infoS rfl (by omega) w.heap.size (.slice va l.length vc) l.length (l.map encS) (by rfl) HO.out w1.heap.size (.string st) rfl (by rfl) HZ.out HW.out hln2 ?_; intro v2 W2 hown2 hgr _hbl; have HV := Lib.hid (And.intro hown2 hgr); clear hown2 hgr _hbl)
          have e2 := HN2.out.2.2
          refine ⟨⟨l ++ [t], r.drop (8 + m), HN2.out.1, HN2.out.2.1, by rw [e2]; simp, ?_, ?_⟩, ?_⟩
          · unfold OwnS
            rw [List.length_append, List.map_append]
            have h := HV.out.1
            rw [← HST.out] at h
            exact h
          · exact HBB.out.trans (below_grown HV.out.2 (fun k hk => (HO.out.lt hk).1) HW.out)
          · simp only [intOf]
            omega
        · have hnone : firstP r = none := by
            cases h : firstP r with
            | none => rfl
            | some u =>
              exfalso
              obtain ⟨h1, q, hq⟩ := firstP_some.1 h
              have hk := hkey u h
              have hut : t = u := by rw [ht, hq, ← hk.1, fr_text]
              apply heq
              rw [hut, hq, List.take_left' (by rw [fr_len]; omega)]
          have HF := Lib.hid (show Fs s l r from ⟨HR.out.1, HR.out.2.1, hnone⟩)
          have hqq : ((str (fr t)).toList == (str (r.take (8 + m))).toList) = false := by rw [str_toList, str_toList]; simpa using heq
          clear hkey hnone heq ht htl hrl hbad
          generalize str (r.take (8 + m)) = sr at *
          generalize str (fr t) = sf at *
          generalize str t = st at *
          go_wp2_with fail
          refine (C1.out _).mono ?_
          rintro e w1 ⟨rfl, h1⟩
          have HBB := Lib.hid (And.intro (HB.out.2.keep h1) (HB.out.1.trans (h1.mono HB.out.1.size)))
          clear h1 C1
          go_wp2_with fail
          go_ret2
          exact ⟨l, r, _, rfl, HF.out, HBB.out⟩
end Go.Proofs.YtialfpkmcafkmaaGreat
