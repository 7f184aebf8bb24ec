/- The contract of ModularSigns. -/
import Derived.Test.YtofoiifckkafcaaModL
import Derived.Test.YtofoiifckkafcaaModT
namespace Go.Proofs.Ytofoiifckkafcaa
open Go.RowKit
attribute [local go_sem ↓] Go.wp_at_zero Go.wp_at_succ

theorem slice_from (s : ByteArray) (d : Nat) (hd : d ≤ s.size) (W : World) : (Instr.slice 9 (.string s) (some (.int .i64 (d : Int))) none none).run Try.prog W = .ok (.string (s.extract d s.size)) W := by
  rw [run_slice_string_l W 9 s Try.underlying9 .i64 (d : Int) (by omega) (by omega), Int.toNat_natCast]

set_option maxRecDepth 100000 in
set_option maxHeartbeats 16000000 in
theorem signs_c {x n a3 a2 a1 a0 : Nat} (hx : Dig x a0 a1 a2 a3) (hn : n < 256) (w : World) :
    Calls Try.prog 6 #[.agg #[.int .u64 a3, .int .u64 a2, .int .u64 a1, .int .u64 a0], .int .u8 n] w fun e w' => e = .returned (.bool true) ∧ Below w.heap.size w w' := by
  have H := ((Fx.start w).new #[.int .u64 a3, .int .u64 a2, .int .u64 a1, .int .u64 a0] 24).1
  have HA := Lib.hid hx
  have hwr : 0 ≤ (n : Int) ∧ (n : Int) < 256 := by omega
  have hk31 : n % 31 < 31 := Nat.mod_lt _ (by decide)
  have hi1 : (n : Int) % 31 = ((n % 31 : Nat) : Int) := by omega
  have htm : (n : Int).tmod 31 = ((n % 31 : Nat) : Int) := by rw [Int.tmod_eq_emod_of_nonneg hwr.1]; exact hi1
  generalize n % 31 = k at *
  have hwi : IntKind.i64.wrap (k : Int) = (k : Int) := IntWalk.i64_in _ (by omega)
  have hwu : IntKind.u64.wrap (k : Int) = (k : Int) := by rw [IntKind.wrap_u64]; omega
  have hki : (0 : Int) ≤ (k : Int) ∧ (k : Int) < 31 := by omega
  have HK := Lib.hid hk31; have HKM := Lib.hid (show k < M64 by unfold M64; omega)
  clear hx hn hk31
  go_enter Try.func6, Try.ntmps6
  go_wp2_with fail
  refine (examples2_c _).mono ?_
  rintro e w1 ⟨rfl, hb1⟩
  replace H := (H.call hb1).up
  clear hb1
  have HH := Lib.hid H; clear H
  go_wp2_with fail
  replace H := HH.out; clear HH
  have HS := Lib.hid (fun W (hW : Fr w w.heap.size (w1.heap.size) [(w.heap.size, #[.int .u64 a3, .int .u64 a2, .int .u64 a1, .int .u64 a0], 24)] W) => hW.row (.head _))
  refine wp_cut (fun a' Wc => ∃ b7 e3 e2 e1 e0 : Nat, a' = ⟨#[.agg #[.int .u64 a3, .int .u64 a2, .int .u64 a1, .int .u64 a0], .int .u8 n, .pointer (some ⟨w.heap.size, 0, none⟩), undef, .bool false, .bool true, .int .i64 k, .pointer (some ⟨b7, 0, none⟩), undef, undef, undef, undef, .bool true, .bool true, .bool false, .int .u8 n, .int .u8 k, .int .i64 k, .int .i64 k, .int .u64 k, .agg #[.int .u64 0, .int .u64 0, .int .u64 0, .int .u64 k], .agg #[.int .u64 a3, .int .u64 a2, .int .u64 a1, .int .u64 a0], .agg #[.int .u64 e3, .int .u64 e2, .int .u64 e1, .int .u64 e0], undef, undef, undef, undef, undef, undef, undef, undef, undef, undef, undef, undef, undef, undef, undef, undef, undef, undef, undef, undef, undef, undef, undef, undef, undef, undef, undef, undef, undef, undef, undef, undef, undef, undef, undef, undef, undef, undef, undef, undef, undef, undef, undef, undef, undef, undef, undef, undef], []⟩ ∧ Dig (sext k x) e0 e1 e2 e3 ∧ Fr w w.heap.size (Wc.heap.size) [(b7, #[.int .u64 e3, .int .u64 e2, .int .u64 e1, .int .u64 e0], 24), (w.heap.size, #[.int .u64 a3, .int .u64 a2, .int .u64 a1, .int .u64 a0], 24)] Wc) ?rest ?tree
  case rest =>
    rintro a' Wc ⟨b7, e3, e2, e1, e0, rfl, he, F2⟩
    clear H HS hi1 htm
    have HEX := Lib.hid he; clear he
    have kE := F2.row (.head _)
    replace F2 := Lib.hid F2
    go_wp2_with fail
    refine (Bytes_c HEX.out _).mono ?_
    rintro e w4 ⟨rfl, hb4⟩
    have F3 := F2.out.call hb4
    have kA := F3.row (.tail _ (.head _))
    replace F3 := Lib.hid F3
    clear hb4 F2 kE
    go_wp2_with fail
    refine (Bytes_c HA.out _).mono ?_
    rintro e w5 ⟨rfl, hb5⟩
    have H0 := (F3.out.call hb5).up
    replace H0 := Lib.hid H0
    clear hb5 F3 kA
    obtain ⟨d, hd⟩ : ∃ d, d = 31 - k := ⟨_, rfl⟩
    have hk31 := HK.out
    have hdi : (31 : Int) - (k : Int) = (d : Int) := by omega
    have hwd : IntKind.i64.wrap (d : Int) = (d : Int) := IntWalk.i64_in _ (by omega)
    have hd0 : 0 ≤ (d : Int) ∧ (d : Int) ≤ 31 := by omega
    have hix := index_i64 (bytesOf x) (d : Int) d (by rw [bytesOf_size]; omega) rfl
    rw [byteAt_bytes x d (by omega), show 31 - d = k by omega] at hix
    have HSl := Lib.hid (slice_from (bytesOf (sext k x)) d (by rw [bytesOf_size]; omega))
    have HSl2 := Lib.hid (slice_from (bytesOf x) d (by rw [bytesOf_size]; omega))
    have hIx : ∀ j, j < d → ∀ W, (Instr.index 9 (.string (bytesOf (sext k x))) (.int .i64 (j : Int))).run Try.prog W = .ok (.int .u8 ((if byteOf x k < 128 then 0 else 255 : Nat) : Int)) W := by
      intro j hj W
      rw [index_i64 (bytesOf (sext k x)) (j : Int) j (by rw [bytesOf_size]; omega) rfl W, byteAt_bytes _ j (by omega), sext_high hk31 (by omega) (by omega)]
    have hT := sext_tail (a := x) hk31
    rw [← hd] at hT
    rw [hT] at HSl
    have hv : byteOf x k < 256 := Nat.mod_lt _ (by decide)
    clear hT hd hk31
    generalize (bytesOf x).extract d (bytesOf x).size = u at *
    generalize bytesOf (sext k x) = s at *
    generalize bytesOf x = tt at *
    generalize byteOf x k = v at *
    rcases Nat.lt_or_ge v 128 with hs | hs
    · simp only [if_pos hs] at hIx
      have HIx := Lib.hid hIx; clear hIx
      have hs' : (v : Int) < 128 := by omega
      have hv0 : 0 ≤ (v : Int) := by omega
      clear hs hv
      go_wp2_with fail
      go_loop [11] (fun i => ∃ j : Nat, j ≤ d ∧ i = .int .i64 j) (fun i => d - (intOf i).toNat)
      case atStart => exact ⟨0, by omega, rfl⟩
      case round =>
        obtain ⟨j, hj, rfl⟩ := hrel
        have hd31 : (d : Int) ≤ 31 := by omega
        rcases Nat.lt_or_ge j d with hlt | hge
        · have hjx := HIx.out j hlt
          have hlt' : (j : Int) < (d : Int) := by omega
          go_wp2_with fail
          go_round
          case rel => exact ⟨j + 1, by omega, by go_num⟩
          case measure => (simp [intOf]; try omega)
        · obtain rfl : j = d := by omega
          clear HIx
          have hsl := HSl.out; have hsl2 := HSl2.out
          go_wp2_with fail
          replace H0 := H0.out.drew
          have HS := Lib.hid (fun W (hW : Fr w w.heap.size (w5.heap.size) [(b7, #[.int .u64 e3, .int .u64 e2, .int .u64 e1, .int .u64 e0], 24), (w.heap.size, #[.int .u64 a3, .int .u64 a2, .int .u64 a1, .int .u64 a0], 24)] W) => And.intro (hW.row (.head _)) (hW.row (.tail _ (.head _))))
          refine Drawn.start (Fr w w.heap.size (w5.heap.size) [(b7, #[.int .u64 e3, .int .u64 e2, .int .u64 e1, .int .u64 e0], 24), (w.heap.size, #[.int .u64 a3, .int .u64 a2, .int .u64 a1, .int .u64 a0], 24)]) (fun _ => false) (by kernel_rfl) ?_
          refine Drawn.take 0 (some 43) (v := ?_) rfl rfl (by kernel_rfl) (by kernel_rfl) (by kernel_rfl) (by kernel_rfl) (by kernel_rfl) rfl (fun _ _ _ h => h) (Or.inl ⟨rfl, ?_⟩) H0 ?_
          rotate_left
          · intro W hW; have hW := HS.out W hW; go_simp; try with_reducible rfl
          simp only [put_list, List.set]
          refine Drawn.take 1 (some 44) (v := ?_) rfl rfl (by kernel_rfl) (by kernel_rfl) (by kernel_rfl) (by kernel_rfl) (by kernel_rfl) rfl (fun _ _ _ h => h) (Or.inl ⟨rfl, ?_⟩) H0 ?_
          rotate_left
          · intro W hW; have hW := HS.out W hW; go_simp; try with_reducible rfl
          simp only [put_list, List.set]
          refine Drawn.take 2 (some 45) (v := ?_) rfl rfl (by kernel_rfl) (by kernel_rfl) (by kernel_rfl) (by kernel_rfl) (by kernel_rfl) rfl (fun _ _ _ h => h) (Or.inl ⟨rfl, ?_⟩) H0 ?_
          rotate_left
          · intro W hW; have hW := HS.out W hW; go_simp; try with_reducible rfl
          simp only [put_list, List.set]
          refine Drawn.take 3 (some 46) (v := ?_) rfl rfl (by kernel_rfl) (by kernel_rfl) (by kernel_rfl) (by kernel_rfl) (by kernel_rfl) rfl (fun _ _ _ h => h) (Or.inl ⟨rfl, ?_⟩) H0 ?_
          rotate_left
          · intro W hW; have hW := HS.out W hW; go_simp; try with_reducible rfl
          simp only [put_list, List.set]
          refine Drawn.take 4 (some 47) (v := ?_) rfl rfl (by kernel_rfl) (by kernel_rfl) (by kernel_rfl) (by kernel_rfl) (by kernel_rfl) rfl (fun _ _ _ h => h) (Or.inl ⟨rfl, ?_⟩) H0 ?_
          rotate_left
          · intro W hW; have hW := HS.out W hW; go_simp; try with_reducible rfl
          simp only [put_list, List.set]
          refine Drawn.take 5 (some 48) (v := ?_) rfl rfl (by kernel_rfl) (by kernel_rfl) (by kernel_rfl) (by kernel_rfl) (by kernel_rfl) rfl (fun _ _ _ h => h) (Or.inl ⟨rfl, ?_⟩) H0 ?_
          rotate_left
          · intro W hW; have hW := HS.out W hW; go_simp; try with_reducible rfl
          simp only [put_list, List.set]
          refine Drawn.take 6 (some 49) (v := ?_) rfl rfl (by kernel_rfl) (by kernel_rfl) (by kernel_rfl) (by kernel_rfl) (by kernel_rfl) rfl (fun _ _ _ h => h) (Or.inl ⟨rfl, ?_⟩) H0 ?_
          rotate_left
          · intro W hW; have hW := HS.out W hW; go_simp; try with_reducible rfl
          simp only [put_list, List.set]
          refine Drawn.take 7 (some 50) (v := ?_) rfl rfl (by kernel_rfl) (by kernel_rfl) (by kernel_rfl) (by kernel_rfl) (by kernel_rfl) rfl (fun _ _ _ h => h) (Or.inl ⟨rfl, ?_⟩) H0 ?_
          rotate_left
          · intro W hW; have hW := HS.out W hW; go_simp; try with_reducible rfl
          simp only [put_list, List.set]
          refine Drawn.take 8 (some 51) (v := ?_) rfl rfl (by kernel_rfl) (by kernel_rfl) (by kernel_rfl) (by kernel_rfl) (by kernel_rfl) rfl (fun _ _ _ h => h) (Or.inl ⟨rfl, ?_⟩) H0 ?_
          rotate_left
          · intro W hW; have hW := HS.out W hW; go_simp; try with_reducible rfl
          simp only [put_list, List.set]
          refine Drawn.take 9 (some 52) (v := ?_) rfl rfl (by kernel_rfl) (by kernel_rfl) (by kernel_rfl) (by kernel_rfl) (by kernel_rfl) rfl (fun _ _ _ h => h) (Or.inl ⟨rfl, ?_⟩) H0 ?_
          rotate_left
          · intro W hW; have hW := HS.out W hW; go_simp; try with_reducible rfl
          simp only [put_list, List.set]
          refine Drawn.take 10 (some 53) (v := ?_) rfl rfl (by kernel_rfl) (by kernel_rfl) (by kernel_rfl) (by kernel_rfl) (by kernel_rfl) rfl (fun _ _ _ h => h) (Or.inl ⟨rfl, ?_⟩) H0 ?_
          rotate_left
          · intro W hW; have hW := HS.out W hW; go_simp; try with_reducible rfl
          simp only [put_list, List.set]
          clear hsl hsl2
          refine Drawn.take 11 (some 54) (v := ?_) rfl rfl (by kernel_rfl) (by kernel_rfl) (by kernel_rfl) (by kernel_rfl) (by kernel_rfl) rfl (fun _ _ _ h => h) (Or.inl ⟨rfl, ?_⟩) H0 ?_
          rotate_left
          · intro W hW; have hW := HS.out W hW; go_simp; try with_reducible rfl
          simp only [put_list, List.set]
          refine Drawn.take 12 (some 55) (v := ?_) rfl rfl (by kernel_rfl) (by kernel_rfl) (by kernel_rfl) (by kernel_rfl) (by kernel_rfl) rfl (fun _ _ _ h => h) (Or.inl ⟨rfl, ?_⟩) H0 ?_
          rotate_left
          · intro W hW; have hW := HS.out W hW; go_simp; try with_reducible rfl
          simp only [put_list, List.set]
          refine Drawn.take 13 (some 56) (v := ?_) rfl rfl (by kernel_rfl) (by kernel_rfl) (by kernel_rfl) (by kernel_rfl) (by kernel_rfl) rfl (fun _ _ _ h => h) (Or.inl ⟨rfl, ?_⟩) H0 ?_
          rotate_left
          · intro W hW; have hW := HS.out W hW; go_simp; try with_reducible rfl
          simp only [put_list, List.set]
          refine Drawn.take 14 (some 57) (v := ?_) rfl rfl (by kernel_rfl) (by kernel_rfl) (by kernel_rfl) (by kernel_rfl) (by kernel_rfl) rfl (fun _ _ _ h => h) (Or.inl ⟨rfl, ?_⟩) H0 ?_
          rotate_left
          · intro W hW; have hW := HS.out W hW; go_simp; try with_reducible rfl
          simp only [put_list, List.set]
          refine Drawn.take 16 (some 59) (v := ?_) rfl rfl (by kernel_rfl) (by kernel_rfl) (by kernel_rfl) (by kernel_rfl) (by kernel_rfl) rfl (fun _ _ _ h => h) (Or.inl ⟨rfl, ?_⟩) H0 ?_
          rotate_left
          · intro W hW; have hW := HS.out W hW; go_simp; try with_reducible rfl
          simp only [put_list, List.set]
          refine Drawn.take 18 (some 61) (v := ?_) rfl rfl (by kernel_rfl) (by kernel_rfl) (by kernel_rfl) (by kernel_rfl) (by kernel_rfl) rfl (fun _ _ _ h => h) (Or.inl ⟨rfl, ?_⟩) H0 ?_
          rotate_left
          · intro W hW; have hW := HS.out W hW; go_simp; try with_reducible rfl
          simp only [put_list, List.set]
          refine Drawn.only 15 (by kernel_rfl) rfl rfl (fun K hK => ?_)
          go_simp
          refine (from_any k _).mono ?_
          rintro e w9 ⟨rfl, hb⟩
          refine hK _ _ (fun _ _ => H0.call hb) ?_
          replace H0 := H0.call hb
          clear hK K hb
          refine Drawn.only 17 (by kernel_rfl) rfl rfl (fun K hK => ?_)
          go_simp
          refine (SignExtend_c (dig_small HKM.out) HEX.out _).mono ?_
          rintro e w9 ⟨p173, p172, p171, p170, rfl, hd, hb⟩
          refine hK _ _ (fun _ _ => H0.call hb) ?_
          replace H0 := H0.call hb
          clear hK K hb
          have D17 := Lib.hid hd
          clear hd
          obtain ⟨rfl, rfl, rfl, rfl⟩ := Dig.same D17.out HEX.out (sext_again HK.out)
          refine Drawn.take 19 (some 62) (v := ?_) rfl rfl (by kernel_rfl) (by kernel_rfl) (by kernel_rfl) (by kernel_rfl) (by kernel_rfl) rfl (fun _ _ _ h => h) (Or.inl ⟨rfl, ?_⟩) H0 ?_
          rotate_left
          · intro W hW; have hW := HS.out W hW; go_simp; try with_reducible rfl
          simp only [put_list, List.set]
          refine Drawn.take 20 (some 63) (v := ?_) rfl rfl (by kernel_rfl) (by kernel_rfl) (by kernel_rfl) (by kernel_rfl) (by kernel_rfl) rfl (fun _ _ _ h => h) (Or.inl ⟨rfl, ?_⟩) H0 ?_
          rotate_left
          · intro W hW; have hW := HS.out W hW; go_simp; try with_reducible rfl
          simp only [put_list, List.set]
          refine Drawn.take 21 (some 64) (v := ?_) rfl rfl (by kernel_rfl) (by kernel_rfl) (by kernel_rfl) (by kernel_rfl) (by kernel_rfl) rfl (fun _ _ _ h => h) (Or.inl ⟨rfl, ?_⟩) H0 ?_
          rotate_left
          · intro W hW; have hW := HS.out W hW; go_simp; try with_reducible rfl
          simp only [put_list, List.set]
          refine Drawn.take 23 (some 66) (v := ?_) rfl rfl (by kernel_rfl) (by kernel_rfl) (by kernel_rfl) (by kernel_rfl) (by kernel_rfl) rfl (fun _ _ _ h => h) (Or.inl ⟨rfl, ?_⟩) H0 ?_
          rotate_left
          · intro W hW; have hW := HS.out W hW; go_simp; try with_reducible rfl
          simp only [put_list, List.set]
          refine Drawn.take 25 (some 68) (v := ?_) rfl rfl (by kernel_rfl) (by kernel_rfl) (by kernel_rfl) (by kernel_rfl) (by kernel_rfl) rfl (fun _ _ _ h => h) (Or.inl ⟨rfl, ?_⟩) H0 ?_
          rotate_left
          · intro W hW; have hW := HS.out W hW; go_simp; try with_reducible rfl
          simp only [put_list, List.set]
          refine Drawn.only 22 (by kernel_rfl) rfl rfl (fun K hK => ?_)
          go_simp
          refine (from_any 31 _).mono ?_
          rintro e w9 ⟨rfl, hb⟩
          refine hK _ _ (fun _ _ => H0.call hb) ?_
          replace H0 := H0.call hb
          clear hK K hb
          refine Drawn.only 24 (by kernel_rfl) rfl rfl (fun K hK => ?_)
          go_simp
          refine (SignExtend_c (dig_small (show 31 < M64 by decide)) HA.out _).mono ?_
          rintro e w9 ⟨p243, p242, p241, p240, rfl, hd, hb⟩
          refine hK _ _ (fun _ _ => H0.call hb) ?_
          replace H0 := H0.call hb
          clear hK K hb
          have D24 := Lib.hid hd
          clear hd
          obtain ⟨rfl, rfl, rfl, rfl⟩ := Dig.same D24.out HA.out (show sext 31 x = x from if_neg (by omega))
          refine Drawn.take 26 (some 69) (v := ?_) rfl rfl (by kernel_rfl) (by kernel_rfl) (by kernel_rfl) (by kernel_rfl) (by kernel_rfl) rfl (fun _ _ _ h => h) (Or.inl ⟨rfl, ?_⟩) H0 ?_
          rotate_left
          · intro W hW; have hW := HS.out W hW; go_simp; try with_reducible rfl
          simp only [put_list, List.set]
          refine Drawn.take 27 (some 70) (v := ?_) rfl rfl (by kernel_rfl) (by kernel_rfl) (by kernel_rfl) (by kernel_rfl) (by kernel_rfl) rfl (fun _ _ _ h => h) (Or.inl ⟨rfl, ?_⟩) H0 ?_
          rotate_left
          · intro W hW; have hW := HS.out W hW; go_simp; try with_reducible rfl
          simp only [put_list, List.set]
          refine Drawn.take 28 (some 4) (v := ?_) rfl rfl (by kernel_rfl) (by kernel_rfl) (by kernel_rfl) (by kernel_rfl) (by kernel_rfl) rfl (fun _ _ _ h => h) (Or.inl ⟨rfl, ?_⟩) H0 ?_
          rotate_left
          · intro W hW; have hW := HS.out W hW; go_simp; try with_reducible rfl
          simp only [put_list, List.set]
          refine Drawn.done (by kernel_rfl) ?_ _
          go_wp2
          go_ret
          exact ⟨rfl, H0.below⟩
    · simp only [if_neg (show ¬ v < 128 by omega)] at hIx
      have HIx := Lib.hid hIx; clear hIx
      have hs' : 128 ≤ (v : Int) ∧ (v : Int) < 256 := by omega
      clear hs hv
      go_wp2_with fail
      go_loop [11] (fun i => ∃ j : Nat, j ≤ d ∧ i = .int .i64 j) (fun i => d - (intOf i).toNat)
      case atStart => exact ⟨0, by omega, rfl⟩
      case round =>
        obtain ⟨j, hj, rfl⟩ := hrel
        have hd31 : (d : Int) ≤ 31 := by omega
        rcases Nat.lt_or_ge j d with hlt | hge
        · have hjx := HIx.out j hlt
          have hlt' : (j : Int) < (d : Int) := by omega
          go_wp2_with fail
          go_round
          case rel => exact ⟨j + 1, by omega, by go_num⟩
          case measure => (simp [intOf]; try omega)
        · obtain rfl : j = d := by omega
          clear HIx
          have hsl := HSl.out; have hsl2 := HSl2.out
          go_wp2_with fail
          replace H0 := H0.out.drew
          have HS := Lib.hid (fun W (hW : Fr w w.heap.size (w5.heap.size) [(b7, #[.int .u64 e3, .int .u64 e2, .int .u64 e1, .int .u64 e0], 24), (w.heap.size, #[.int .u64 a3, .int .u64 a2, .int .u64 a1, .int .u64 a0], 24)] W) => And.intro (hW.row (.head _)) (hW.row (.tail _ (.head _))))
          refine Drawn.start (Fr w w.heap.size (w5.heap.size) [(b7, #[.int .u64 e3, .int .u64 e2, .int .u64 e1, .int .u64 e0], 24), (w.heap.size, #[.int .u64 a3, .int .u64 a2, .int .u64 a1, .int .u64 a0], 24)]) (fun _ => false) (by kernel_rfl) ?_
          refine Drawn.take 0 (some 43) (v := ?_) rfl rfl (by kernel_rfl) (by kernel_rfl) (by kernel_rfl) (by kernel_rfl) (by kernel_rfl) rfl (fun _ _ _ h => h) (Or.inl ⟨rfl, ?_⟩) H0 ?_
          rotate_left
          · intro W hW; have hW := HS.out W hW; go_simp; try with_reducible rfl
          simp only [put_list, List.set]
          refine Drawn.take 1 (some 44) (v := ?_) rfl rfl (by kernel_rfl) (by kernel_rfl) (by kernel_rfl) (by kernel_rfl) (by kernel_rfl) rfl (fun _ _ _ h => h) (Or.inl ⟨rfl, ?_⟩) H0 ?_
          rotate_left
          · intro W hW; have hW := HS.out W hW; go_simp; try with_reducible rfl
          simp only [put_list, List.set]
          refine Drawn.take 2 (some 45) (v := ?_) rfl rfl (by kernel_rfl) (by kernel_rfl) (by kernel_rfl) (by kernel_rfl) (by kernel_rfl) rfl (fun _ _ _ h => h) (Or.inl ⟨rfl, ?_⟩) H0 ?_
          rotate_left
          · intro W hW; have hW := HS.out W hW; go_simp; try with_reducible rfl
          simp only [put_list, List.set]
          refine Drawn.take 3 (some 46) (v := ?_) rfl rfl (by kernel_rfl) (by kernel_rfl) (by kernel_rfl) (by kernel_rfl) (by kernel_rfl) rfl (fun _ _ _ h => h) (Or.inl ⟨rfl, ?_⟩) H0 ?_
          rotate_left
          · intro W hW; have hW := HS.out W hW; go_simp; try with_reducible rfl
          simp only [put_list, List.set]
          refine Drawn.take 4 (some 47) (v := ?_) rfl rfl (by kernel_rfl) (by kernel_rfl) (by kernel_rfl) (by kernel_rfl) (by kernel_rfl) rfl (fun _ _ _ h => h) (Or.inl ⟨rfl, ?_⟩) H0 ?_
          rotate_left
          · intro W hW; have hW := HS.out W hW; go_simp; try with_reducible rfl
          simp only [put_list, List.set]
          refine Drawn.take 5 (some 48) (v := ?_) rfl rfl (by kernel_rfl) (by kernel_rfl) (by kernel_rfl) (by kernel_rfl) (by kernel_rfl) rfl (fun _ _ _ h => h) (Or.inl ⟨rfl, ?_⟩) H0 ?_
          rotate_left
          · intro W hW; have hW := HS.out W hW; go_simp; try with_reducible rfl
          simp only [put_list, List.set]
          refine Drawn.take 6 (some 49) (v := ?_) rfl rfl (by kernel_rfl) (by kernel_rfl) (by kernel_rfl) (by kernel_rfl) (by kernel_rfl) rfl (fun _ _ _ h => h) (Or.inl ⟨rfl, ?_⟩) H0 ?_
          rotate_left
          · intro W hW; have hW := HS.out W hW; go_simp; try with_reducible rfl
          simp only [put_list, List.set]
          refine Drawn.take 7 (some 50) (v := ?_) rfl rfl (by kernel_rfl) (by kernel_rfl) (by kernel_rfl) (by kernel_rfl) (by kernel_rfl) rfl (fun _ _ _ h => h) (Or.inl ⟨rfl, ?_⟩) H0 ?_
          rotate_left
          · intro W hW; have hW := HS.out W hW; go_simp; try with_reducible rfl
          simp only [put_list, List.set]
          refine Drawn.take 8 (some 51) (v := ?_) rfl rfl (by kernel_rfl) (by kernel_rfl) (by kernel_rfl) (by kernel_rfl) (by kernel_rfl) rfl (fun _ _ _ h => h) (Or.inl ⟨rfl, ?_⟩) H0 ?_
          rotate_left
          · intro W hW; have hW := HS.out W hW; go_simp; try with_reducible rfl
          simp only [put_list, List.set]
          refine Drawn.take 9 (some 52) (v := ?_) rfl rfl (by kernel_rfl) (by kernel_rfl) (by kernel_rfl) (by kernel_rfl) (by kernel_rfl) rfl (fun _ _ _ h => h) (Or.inl ⟨rfl, ?_⟩) H0 ?_
          rotate_left
          · intro W hW; have hW := HS.out W hW; go_simp; try with_reducible rfl
          simp only [put_list, List.set]
          refine Drawn.take 10 (some 53) (v := ?_) rfl rfl (by kernel_rfl) (by kernel_rfl) (by kernel_rfl) (by kernel_rfl) (by kernel_rfl) rfl (fun _ _ _ h => h) (Or.inl ⟨rfl, ?_⟩) H0 ?_
          rotate_left
          · intro W hW; have hW := HS.out W hW; go_simp; try with_reducible rfl
          simp only [put_list, List.set]
          clear hsl hsl2
          refine Drawn.take 11 (some 54) (v := ?_) rfl rfl (by kernel_rfl) (by kernel_rfl) (by kernel_rfl) (by kernel_rfl) (by kernel_rfl) rfl (fun _ _ _ h => h) (Or.inl ⟨rfl, ?_⟩) H0 ?_
          rotate_left
          · intro W hW; have hW := HS.out W hW; go_simp; try with_reducible rfl
          simp only [put_list, List.set]
          refine Drawn.take 12 (some 55) (v := ?_) rfl rfl (by kernel_rfl) (by kernel_rfl) (by kernel_rfl) (by kernel_rfl) (by kernel_rfl) rfl (fun _ _ _ h => h) (Or.inl ⟨rfl, ?_⟩) H0 ?_
          rotate_left
          · intro W hW; have hW := HS.out W hW; go_simp; try with_reducible rfl
          simp only [put_list, List.set]
          refine Drawn.take 13 (some 56) (v := ?_) rfl rfl (by kernel_rfl) (by kernel_rfl) (by kernel_rfl) (by kernel_rfl) (by kernel_rfl) rfl (fun _ _ _ h => h) (Or.inl ⟨rfl, ?_⟩) H0 ?_
          rotate_left
          · intro W hW; have hW := HS.out W hW; go_simp; try with_reducible rfl
          simp only [put_list, List.set]
          refine Drawn.take 14 (some 57) (v := ?_) rfl rfl (by kernel_rfl) (by kernel_rfl) (by kernel_rfl) (by kernel_rfl) (by kernel_rfl) rfl (fun _ _ _ h => h) (Or.inl ⟨rfl, ?_⟩) H0 ?_
          rotate_left
          · intro W hW; have hW := HS.out W hW; go_simp; try with_reducible rfl
          simp only [put_list, List.set]
          refine Drawn.take 16 (some 59) (v := ?_) rfl rfl (by kernel_rfl) (by kernel_rfl) (by kernel_rfl) (by kernel_rfl) (by kernel_rfl) rfl (fun _ _ _ h => h) (Or.inl ⟨rfl, ?_⟩) H0 ?_
          rotate_left
          · intro W hW; have hW := HS.out W hW; go_simp; try with_reducible rfl
          simp only [put_list, List.set]
          refine Drawn.take 18 (some 61) (v := ?_) rfl rfl (by kernel_rfl) (by kernel_rfl) (by kernel_rfl) (by kernel_rfl) (by kernel_rfl) rfl (fun _ _ _ h => h) (Or.inl ⟨rfl, ?_⟩) H0 ?_
          rotate_left
          · intro W hW; have hW := HS.out W hW; go_simp; try with_reducible rfl
          simp only [put_list, List.set]
          refine Drawn.only 15 (by kernel_rfl) rfl rfl (fun K hK => ?_)
          go_simp
          refine (from_any k _).mono ?_
          rintro e w9 ⟨rfl, hb⟩
          refine hK _ _ (fun _ _ => H0.call hb) ?_
          replace H0 := H0.call hb
          clear hK K hb
          refine Drawn.only 17 (by kernel_rfl) rfl rfl (fun K hK => ?_)
          go_simp
          refine (SignExtend_c (dig_small HKM.out) HEX.out _).mono ?_
          rintro e w9 ⟨p173, p172, p171, p170, rfl, hd, hb⟩
          refine hK _ _ (fun _ _ => H0.call hb) ?_
          replace H0 := H0.call hb
          clear hK K hb
          have D17 := Lib.hid hd
          clear hd
          obtain ⟨rfl, rfl, rfl, rfl⟩ := Dig.same D17.out HEX.out (sext_again HK.out)
          refine Drawn.take 19 (some 62) (v := ?_) rfl rfl (by kernel_rfl) (by kernel_rfl) (by kernel_rfl) (by kernel_rfl) (by kernel_rfl) rfl (fun _ _ _ h => h) (Or.inl ⟨rfl, ?_⟩) H0 ?_
          rotate_left
          · intro W hW; have hW := HS.out W hW; go_simp; try with_reducible rfl
          simp only [put_list, List.set]
          refine Drawn.take 20 (some 63) (v := ?_) rfl rfl (by kernel_rfl) (by kernel_rfl) (by kernel_rfl) (by kernel_rfl) (by kernel_rfl) rfl (fun _ _ _ h => h) (Or.inl ⟨rfl, ?_⟩) H0 ?_
          rotate_left
          · intro W hW; have hW := HS.out W hW; go_simp; try with_reducible rfl
          simp only [put_list, List.set]
          refine Drawn.take 21 (some 64) (v := ?_) rfl rfl (by kernel_rfl) (by kernel_rfl) (by kernel_rfl) (by kernel_rfl) (by kernel_rfl) rfl (fun _ _ _ h => h) (Or.inl ⟨rfl, ?_⟩) H0 ?_
          rotate_left
          · intro W hW; have hW := HS.out W hW; go_simp; try with_reducible rfl
          simp only [put_list, List.set]
          refine Drawn.take 23 (some 66) (v := ?_) rfl rfl (by kernel_rfl) (by kernel_rfl) (by kernel_rfl) (by kernel_rfl) (by kernel_rfl) rfl (fun _ _ _ h => h) (Or.inl ⟨rfl, ?_⟩) H0 ?_
          rotate_left
          · intro W hW; have hW := HS.out W hW; go_simp; try with_reducible rfl
          simp only [put_list, List.set]
          refine Drawn.take 25 (some 68) (v := ?_) rfl rfl (by kernel_rfl) (by kernel_rfl) (by kernel_rfl) (by kernel_rfl) (by kernel_rfl) rfl (fun _ _ _ h => h) (Or.inl ⟨rfl, ?_⟩) H0 ?_
          rotate_left
          · intro W hW; have hW := HS.out W hW; go_simp; try with_reducible rfl
          simp only [put_list, List.set]
          refine Drawn.only 22 (by kernel_rfl) rfl rfl (fun K hK => ?_)
          go_simp
          refine (from_any 31 _).mono ?_
          rintro e w9 ⟨rfl, hb⟩
          refine hK _ _ (fun _ _ => H0.call hb) ?_
          replace H0 := H0.call hb
          clear hK K hb
          refine Drawn.only 24 (by kernel_rfl) rfl rfl (fun K hK => ?_)
          go_simp
          refine (SignExtend_c (dig_small (show 31 < M64 by decide)) HA.out _).mono ?_
          rintro e w9 ⟨p243, p242, p241, p240, rfl, hd, hb⟩
          refine hK _ _ (fun _ _ => H0.call hb) ?_
          replace H0 := H0.call hb
          clear hK K hb
          have D24 := Lib.hid hd
          clear hd
          obtain ⟨rfl, rfl, rfl, rfl⟩ := Dig.same D24.out HA.out (show sext 31 x = x from if_neg (by omega))
          refine Drawn.take 26 (some 69) (v := ?_) rfl rfl (by kernel_rfl) (by kernel_rfl) (by kernel_rfl) (by kernel_rfl) (by kernel_rfl) rfl (fun _ _ _ h => h) (Or.inl ⟨rfl, ?_⟩) H0 ?_
          rotate_left
          · intro W hW; have hW := HS.out W hW; go_simp; try with_reducible rfl
          simp only [put_list, List.set]
          refine Drawn.take 27 (some 70) (v := ?_) rfl rfl (by kernel_rfl) (by kernel_rfl) (by kernel_rfl) (by kernel_rfl) (by kernel_rfl) rfl (fun _ _ _ h => h) (Or.inl ⟨rfl, ?_⟩) H0 ?_
          rotate_left
          · intro W hW; have hW := HS.out W hW; go_simp; try with_reducible rfl
          simp only [put_list, List.set]
          refine Drawn.take 28 (some 4) (v := ?_) rfl rfl (by kernel_rfl) (by kernel_rfl) (by kernel_rfl) (by kernel_rfl) (by kernel_rfl) rfl (fun _ _ _ h => h) (Or.inl ⟨rfl, ?_⟩) H0 ?_
          rotate_left
          · intro W hW; have hW := HS.out W hW; go_simp; try with_reducible rfl
          simp only [put_list, List.set]
          refine Drawn.done (by kernel_rfl) ?_ _
          go_wp2
          go_ret
          exact ⟨rfl, H0.below⟩
  intro J K' hJ hK'
  have H0 := H.drew
  refine Drawn.startEx (fun i => i == 6) H (by kernel_rfl) ?_
  clear H
  refine Drawn.take 0 (some 18) (v := ?_) rfl rfl (by kernel_rfl) (by kernel_rfl) (by kernel_rfl) (by kernel_rfl) (by kernel_rfl) rfl (fun _ _ _ h => h) (Or.inl ⟨rfl, ?_⟩) H0 ?_
  rotate_left
  · intro W hW; have hW := HS.out W hW; go_simp; try with_reducible rfl
  simp only [put_list, List.set]
  refine Drawn.take 1 (some 19) (v := ?_) rfl rfl (by kernel_rfl) (by kernel_rfl) (by kernel_rfl) (by kernel_rfl) (by kernel_rfl) rfl (fun _ _ _ h => h) (Or.inl ⟨rfl, ?_⟩) H0 ?_
  rotate_left
  · intro W hW; have hW := HS.out W hW; go_simp; try with_reducible rfl
  simp only [put_list, List.set]
  refine Drawn.take 3 (some 21) (v := ?_) rfl rfl (by kernel_rfl) (by kernel_rfl) (by kernel_rfl) (by kernel_rfl) (by kernel_rfl) rfl (fun _ _ _ h => h) (Or.inl ⟨rfl, ?_⟩) H0 ?_
  rotate_left
  · intro W hW; have hW := HS.out W hW; go_simp; try with_reducible rfl
  simp only [put_list, List.set]
  have H1 := H0
  clear H0
  generalize World.drew _ = W0 at H1 ⊢
  refine Drawn.among [2, 5] (by kernel_rfl) (by decide) ?_
  intro i hi
  simp only [List.mem_cons, List.not_mem_nil, or_false] at hi
  rcases hi with rfl | rfl
  · refine ⟨_, rfl, rfl, fun K hK => ?_⟩
    go_simp
    refine (from_any k _).mono ?_
    rintro e w2 ⟨rfl, hb⟩
    refine hK _ _ (fun _ _ => H1.call hb) ?_
    replace H1 := H1.call hb
    clear hK K hb
    refine Drawn.among [4, 5] (by kernel_rfl) (by decide) ?_
    intro i hi
    simp only [List.mem_cons, List.not_mem_nil, or_false] at hi
    rcases hi with rfl | rfl
    · refine ⟨_, rfl, rfl, fun K hK => ?_⟩
      go_simp
      refine (SignExtend_c (dig_small HKM.out) HA.out _).mono ?_
      rintro e w3 ⟨e3, e2, e1, e0, rfl, he, hb⟩
      have HEX := Lib.hid he; clear he
      refine hK _ _ (fun _ _ => H1.call hb) ?_
      replace H1 := H1.call hb
      clear hK K hb
      refine Drawn.only 5 (by kernel_rfl) rfl rfl (fun K hK => ?_)
      go_simp
      refine hK _ _ (fun _ _ => H1.alloc _) ?_
      clear hK K
      have h5 : New4 (w1.heap.size) (.int .u64 0) (.int .u64 0) (.int .u64 0) (.int .u64 0) 24 _ _ := New4.here _ H1.size
      replace H1 := H1.alloc (.cells #[.int .u64 0, .int .u64 0, .int .u64 0, .int .u64 0] 24)
      generalize World.alloc _ _ = V1 at H1 h5 ⊢
      obtain ⟨⟨c0, c1, c2, c3⟩, r0, r1, r2, r3⟩ := h5.cells
      refine Drawn.only 6 (by kernel_rfl) rfl rfl (fun K hK => ?_)
      go_simp
      refine hK _ _ (fun h => by simp at h) ?_
      exact Drawn.done (by kernel_rfl) (hK' _ _ (Met.intro (hJ _ _ ⟨_, _, _, _, _, rfl, HEX.out, (H1.set4 h5.ge _ _ _ _).add (heap_set4 h5.1 _ _ _ _)⟩))) _
    · refine ⟨_, rfl, rfl, fun K hK => ?_⟩
      go_simp
      refine hK _ _ (fun _ _ => H1.alloc _) ?_
      clear hK K
      have h5 : New4 (w1.heap.size) (.int .u64 0) (.int .u64 0) (.int .u64 0) (.int .u64 0) 24 _ _ := New4.here _ H1.size
      replace H1 := H1.alloc (.cells #[.int .u64 0, .int .u64 0, .int .u64 0, .int .u64 0] 24)
      generalize World.alloc _ _ = V2 at H1 h5 ⊢
      refine Drawn.only 4 (by kernel_rfl) rfl rfl (fun K hK => ?_)
      go_simp
      refine (SignExtend_c (dig_small HKM.out) HA.out _).mono ?_
      rintro e w3 ⟨e3, e2, e1, e0, rfl, he, hb⟩
      have HEX := Lib.hid he; clear he
      refine hK _ _ (fun _ _ => H1.call hb) ?_
      replace h5 := carry4 hb h5
      replace H1 := H1.call hb
      clear hK K hb
      obtain ⟨⟨c0, c1, c2, c3⟩, r0, r1, r2, r3⟩ := h5.cells
      refine Drawn.only 6 (by kernel_rfl) rfl rfl (fun K hK => ?_)
      go_simp
      refine hK _ _ (fun h => by simp at h) ?_
      exact Drawn.done (by kernel_rfl) (hK' _ _ (Met.intro (hJ _ _ ⟨_, _, _, _, _, rfl, HEX.out, (H1.set4 h5.ge _ _ _ _).add (heap_set4 h5.1 _ _ _ _)⟩))) _
  · refine ⟨_, rfl, rfl, fun K hK => ?_⟩
    go_simp
    refine hK _ _ (fun _ _ => H1.alloc _) ?_
    clear hK K
    have h5 : New4 (w1.heap.size) (.int .u64 0) (.int .u64 0) (.int .u64 0) (.int .u64 0) 24 _ _ := New4.here _ H1.size
    replace H1 := H1.alloc (.cells #[.int .u64 0, .int .u64 0, .int .u64 0, .int .u64 0] 24)
    generalize World.alloc _ _ = V3 at H1 h5 ⊢
    refine Drawn.only 2 (by kernel_rfl) rfl rfl (fun K hK => ?_)
    go_simp
    refine (from_any k _).mono ?_
    rintro e w2 ⟨rfl, hb⟩
    refine hK _ _ (fun _ _ => H1.call hb) ?_
    replace h5 := carry4 hb h5
    replace H1 := H1.call hb
    clear hK K hb
    refine Drawn.only 4 (by kernel_rfl) rfl rfl (fun K hK => ?_)
    go_simp
    refine (SignExtend_c (dig_small HKM.out) HA.out _).mono ?_
    rintro e w3 ⟨e3, e2, e1, e0, rfl, he, hb⟩
    have HEX := Lib.hid he; clear he
    refine hK _ _ (fun _ _ => H1.call hb) ?_
    replace h5 := carry4 hb h5
    replace H1 := H1.call hb
    clear hK K hb
    obtain ⟨⟨c0, c1, c2, c3⟩, r0, r1, r2, r3⟩ := h5.cells
    refine Drawn.only 6 (by kernel_rfl) rfl rfl (fun K hK => ?_)
    go_simp
    refine hK _ _ (fun h => by simp at h) ?_
    exact Drawn.done (by kernel_rfl) (hK' _ _ (Met.intro (hJ _ _ ⟨_, _, _, _, _, rfl, HEX.out, (H1.set4 h5.ge _ _ _ _).add (heap_set4 h5.1 _ _ _ _)⟩))) _

theorem signs_l {x a3 a2 a1 a0 : Nat} {z : Int} (hx : Dig x a0 a1 a2 a3) (wz : (Lit.int .u8 z).wf = true) (w : World) :
    Calls Try.prog 6 #[.agg #[.int .u64 a3, .int .u64 a2, .int .u64 a1, .int .u64 a0], .int .u8 z] w fun e w' => e = .returned (.bool true) ∧ Below w.heap.size w w' := by
  have hz : 0 ≤ z ∧ z ≤ 255 := by simpa [Lit.wf, IntKind.min, IntKind.max, IntKind.signed, IntKind.bits] using wz
  obtain ⟨n, rfl⟩ : ∃ n : Nat, z = (n : Int) := ⟨z.toNat, by omega⟩
  exact signs_c hx (by omega) w

end Go.Proofs.Ytofoiifckkafcaa
