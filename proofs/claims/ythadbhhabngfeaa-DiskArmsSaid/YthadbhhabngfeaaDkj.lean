/- The chapter's examples; DiskArms. -/
import Derived.Test.YthadbhhabngfeaaDki
namespace Go.Proofs.Ythadbhhabngfeaa
open Go.RowKit Go.Maps Go.WideElems Go.ChangeMaps Go.MapKept Go.WideMaps
theorem tick_neg {x : Dk} (h : ¬ 0 < x.after) : x.tick = x := by
  unfold Dk.tick; rw [if_neg h]
theorem long_ok {s : Nm} (h : s.length ≤ 1000) : s.length ≤ maxLen := by unfold maxLen; omega
theorem put_fs (x : Dk) (s : Nm) (f : Fl) (n : Nat) : (x.put s f n).fs s = some f := upd_same _ _ _
theorem put_fs_ne (x : Dk) {s t : Nm} (f : Fl) (n : Nat) (h : t ≠ s) : (x.put s f n).fs t = x.fs t := upd_other _ _ h
theorem syn_fs (x : Dk) (s : Nm) (f : Fl) : (x.syn s f).fs s = some ⟨f.b, f.v, f.bs, f.bs.length⟩ := upd_same _ _ _
theorem syn_fs_ne (x : Dk) {s t : Nm} (f : Fl) (h : t ≠ s) : (x.syn s f).fs t = x.fs t := upd_other _ _ h
theorem rem_fs (x : Dk) (s : Nm) (f : Fl) : (x.rem s f).fs s = none := upd_same _ _ _
theorem rem_fs_ne (x : Dk) {s t : Nm} (f : Fl) (h : t ≠ s) : (x.rem s f).fs t = x.fs t := upd_other _ _ h
theorem Fine.new (d m : Nat) {room : Nat} (h : room ≤ 1000000000) : Fine (Dk.new d m room) :=
  ⟨⟨by show (0 : Int) ≤ (room : Int); omega, by show (room : Int) ≤ _; omega⟩, ⟨by show (0 : Int) ≤ 0; omega, by show (0 : Int) ≤ _; omega⟩, ⟨by show _ ≤ (-1 : Int); omega, by show (-1 : Int) ≤ _; omega⟩, by show 0 < _; omega⟩
theorem Fine.put {x : Dk} (h : Fine x) (s : Nm) (f : Fl) (n : Nat) (hu : x.used + n ≤ 1000000000) (hn : x.n + 1 < 1000000) : Fine (x.put s f n) :=
  ⟨h.room, ⟨by have := h.used; show (0 : Int) ≤ x.used + (n : Int); omega, hu⟩, h.after, hn⟩
theorem Fine.syn {x : Dk} (h : Fine x) (s : Nm) (f : Fl) : Fine (x.syn s f) := ⟨h.room, h.used, h.after, h.n⟩
theorem Fine.rem {x : Dk} (h : Fine x) (s : Nm) (f : Fl) (hu : (f.bs.length : Int) ≤ x.used) : Fine (x.rem s f) :=
  ⟨h.room, ⟨by show (0 : Int) ≤ x.used - (f.bs.length : Int); omega, by have := h.used; show x.used - (f.bs.length : Int) ≤ _; omega⟩, h.after, h.n⟩
theorem Fine.tick {x : Dk} (h : Fine x) : Fine x.tick :=
  ⟨h.room, h.used, by have := h.after; show _ ≤ (if 0 < x.after then x.after - 1 else x.after) ∧ (if 0 < x.after then x.after - 1 else x.after) ≤ _; split <;> omega, h.n⟩
set_option maxRecDepth 100000 in
theorem examples_c (W : World) : Calls Try.prog 8 #[] W fun e W' => e = .returned (.bool true) ∧ Below W.heap.size W W' := by
  go_enter Try.func8, Try.ntmps8
  go_wp2_with fail
  go_at_call 9
  refine (new_c 3 (by omega) W).mono ?_
  rintro e W1 ⟨d, m, rfl, h1, hc1⟩
  have H1 := Lib.hid (And.intro h1 hc1)
  clear h1 hc1
  go_wp2_with fail
  go_at_call 9
  refine (new_neg W1).mono ?_
  rintro e W1' ⟨rfl, rfl⟩
  go_wp2_with fail
  go_at_call 10
  refine (append_full (x := Dk.new d m 3) (s := [102]) (xs := [97, 98, 99, 100]) H1.out.1 rfl (by show (-1 : Int) ≠ 0; omega) (Fine.new d m (room := 3) (by omega)) (by show ¬ ((4 : Int) ≤ 3 - 0); omega)).mono ?_
  rintro e W2 ⟨rfl, h2, hc2⟩
  rw [tick_neg (by show ¬ (0 : Int) < -1; omega)] at h2
  have H2 := Lib.hid (And.intro h2 (H1.out.2.trans hc2))
  clear h2 hc2 H1
  go_wp2_with fail
  go_at_call 10
  refine (append_fits (x := Dk.new d m 3) (s := [102]) (xs := [97, 98, 99]) H2.out.1 rfl (by show (-1 : Int) ≠ 0; omega) (Fine.new d m (room := 3) (by omega)) (by show ((3 : Int) ≤ 3 - 0); omega) (long_ok (by simp)) (by show (0 + 3 : Nat) ≤ _; omega)).mono ?_
  rintro e W3 ⟨rfl, f, hf1, hf2, h3, hc3⟩
  rw [tick_neg (by show ¬ (0 : Int) < -1; omega)] at h3 hc3
  have H3 := Lib.hid (And.intro h3 (And.intro (H2.out.2.trans hc3) hf1))
  clear h3 hc3 H2 hf1 hf2
  go_wp2_with fail
  go_at_call 15
  refine (read_c (x := (Dk.new d m 3).put [102] f 3) (s := [102]) H3.out.1 (long_ok (by simp))).mono ?_
  rintro e W3' ⟨rfl, rfl⟩
  rw [show told (((Dk.new d m 3).put [102] f 3).fs [102]) = .tuple #[.string ⟨#[97, 98, 99]⟩, .bool true] by rw [put_fs, told, H3.out.2.2]; rfl]
  go_wp2_with fail
  refine (used_c (x := (Dk.new d m 3).put [102] f 3) H3.out.1).mono ?_
  rintro e W4 ⟨rfl, rfl⟩
  rw [show ((Dk.new d m 3).put [102] f 3).used = 3 from rfl]
  go_wp2_with fail
  refine (sync_none (x := (Dk.new d m 3).put [102] f 3) (s := [103]) H3.out.1 rfl (by show (-1 : Int) ≠ 0; omega) ((Fine.new d m (room := 3) (by omega)).put _ _ _ (by show (0 : Int) + 3 ≤ _; omega) (by show 0 + 1 < _; omega)) (put_fs_ne _ _ _ (by decide)) (long_ok (by simp))).mono ?_
  rintro e W5 ⟨rfl, h5, hc5⟩
  have HZ := Lib.hid ((H3.out.2.1.trans hc5).below)
  clear h5 hc5 H3
  go_wp2_with fail
  go_ret
  exact ⟨rfl, HZ.out⟩
theorem told_eq (o : Option Fl) : told o = .tuple #[.string (str (bytesF o)), .bool o.isSome] := by cases o <;> rfl
/-- At the head of round j: the disk crashes in round k. -/
def ArmI (k j d : Nat) (W wr : World) : Prop := ∃ x, x.d = d ∧ DiskAt x wr ∧ Chg (fun _ => False) x.ft W wr ∧ Fine x ∧ x.torn = 0 ∧ x.room = 1000 ∧ (bytesF (x.fs [102])).length = min j k ∧ x.used = (min j k : Nat) ∧ x.n ≤ j ∧ (j ≤ k → x.dead = false ∧ x.after = (k : Int) - (j : Int)) ∧ (k < j → x.dead = true)
theorem ArmI.go {k j d : Nat} {W wr : World} (h : ArmI k j d W wr) (hk : k < 30) (hj : j < 30) : Calls Try.prog 10 #[.pointer (some ⟨d, 0, none⟩), .string (str [102]), .string (str [120])] wr fun e W' =>
    e = .returned (.int .i64 (if j < k then 0 else 19)) ∧ ArmI k (j + 1) d W W' := by
  obtain ⟨x, rfl, h1, h2, h3, h4, h5, h6, h7, h8, h9, h10⟩ := h
  rcases Nat.lt_trichotomy j k with hjk | rfl | hjk
  · obtain ⟨hd, ha⟩ := h9 (by omega)
    have hfit : (([120] : List UInt8).length : Int) ≤ x.room - x.used := by show (1 : Int) ≤ _; rw [h5, h7]; omega
    refine (append_fits (s := [102]) (xs := [120]) h1 hd (by rw [ha]; omega) h3 hfit (long_ok (by simp)) (by rw [h6]; show min j k + 1 ≤ _; omega)).mono ?_
    rintro e W2 ⟨rfl, f, q1, q2, q3, q4⟩
    have hta : x.tick.after = x.after - 1 := by show (if 0 < x.after then x.after - 1 else x.after) = _; rw [if_pos (by rw [ha]; omega)]
    refine ⟨by rw [if_pos hjk], x.tick.put [102] f 1, rfl, q3, h2.trans q4, h3.tick.put _ _ _ (by show x.used + 1 ≤ _; rw [h7]; omega) (by show x.n + 1 < _; omega), h4, h5, ?_, ?_, ?_, fun _ => ⟨hd, ?_⟩, fun h => by omega⟩
    · rw [put_fs]; show f.bs.length = _; rw [q1, List.length_append, h6]; show _ + 1 = _; omega
    · show x.used + ((1 : Nat) : Int) = _; rw [h7]; omega
    · show x.n + 1 ≤ _; omega
    · show x.tick.after = _; rw [hta, ha]; omega
  · obtain ⟨hd, ha⟩ := h9 (Nat.le_refl _)
    have hfit : (([120] : List UInt8).length : Int) ≤ x.room - x.used := by show (1 : Int) ≤ _; rw [h5, h7]; omega
    refine (append_crash (s := [102]) (xs := [120]) h1 hd (by rw [ha]; omega) h3 hfit (long_ok (by simp)) (by rw [h6]; show min j j + 1 ≤ _; omega)).mono ?_
    rintro e W2 ⟨rfl, hq⟩
    unfold TornQ at hq
    rw [if_pos (by show tornN x.torn _ = 0; rw [h4]; rfl)] at hq
    exact ⟨by rw [if_neg (by omega)], { x with dead := true }, rfl, hq.1, h2.trans hq.2, ⟨h3.room, h3.used, h3.after, h3.n⟩, h4, h5, by show (bytesF (x.fs [102])).length = _; omega, by show x.used = _; rw [h7]; omega, by show x.n ≤ _; omega, fun h => by omega, fun _ => rfl⟩
  · refine (append_dead (s := [102]) (xs := [120]) h1 (h10 hjk) h3).mono ?_
    rintro e W2 ⟨rfl, q1, q2⟩
    exact ⟨by rw [if_neg (by omega)], x, rfl, q1, h2.trans q2, h3, h4, h5, by omega, by rw [h7]; omega, by omega, fun h => by omega, fun _ => h10 hjk⟩
theorem ArmI.dead {k j d : Nat} {W wr : World} (h : ArmI k j d W wr) : Calls Try.prog 14 #[.pointer (some ⟨d, 0, none⟩)] wr fun e W' => e = .returned (.bool (decide (k < j))) ∧ W' = wr := by
  obtain ⟨x, rfl, h1, _, _, _, _, _, _, _, h9, h10⟩ := h
  refine (crashed_c h1).mono ?_
  rintro e W' ⟨rfl, rfl⟩
  refine ⟨?_, rfl⟩
  by_cases hjk : k < j
  · rw [h10 hjk, decide_eq_true hjk]
  · rw [(h9 (by omega)).1, decide_eq_false hjk]
theorem ArmI.read {k j d : Nat} {W wr : World} (h : ArmI k j d W wr) (hj : k ≤ j) : Calls Try.prog 15 #[.pointer (some ⟨d, 0, none⟩), .string (str [102])] wr fun e W' => (∃ z b, z.size = k ∧ e = .returned (.tuple #[.string z, .bool b])) ∧ Below W.heap.size W W' := by
  obtain ⟨x, rfl, h1, h2, _, _, _, h6, _⟩ := h
  refine (read_c (s := [102]) h1 (long_ok (by simp))).mono ?_
  rintro e W' ⟨rfl, rfl⟩
  exact ⟨⟨str (bytesF (x.fs [102])), _, by rw [str_size, h6]; omega, by rw [told_eq]⟩, h2.below⟩
set_option maxRecDepth 100000 in
set_option maxHeartbeats 2000000 in
theorem arms_c (n : Nat) (hn : n < 256) (W : World) : Calls Try.prog 6 #[.int .u8 (n : Nat)] W fun e W' => e = .returned (.bool true) ∧ Below W.heap.size W W' := by
  obtain ⟨k, hk⟩ : ∃ k, k = n % 21 := ⟨_, rfl⟩
  have hk21 : k < 21 := by omega
  have HKI := Lib.hid (show (n : Int) % 21 = (k : Int) by omega)
  clear hk
  go_enter Try.func6, Try.ntmps6
  go_wp2_with fail
  refine (examples_c W).mono ?_
  rintro e W1 ⟨rfl, hb⟩
  have B1 := Lib.hid hb
  clear hb
  go_wp2_with fail
  refine (new_c 1000 (by omega) W1).mono ?_
  rintro e W2 ⟨d, m, rfl, h1, hc1⟩
  rw [HKI.out]
  have H2 := Lib.hid (And.intro h1 hc1)
  clear h1 hc1 HKI hn
  go_wp2_with fail
  refine (arm_c (x := Dk.new d m 1000) H2.out.1 k 0).mono ?_
  rintro e W3 ⟨rfl, h3, hc3⟩
  have HA := Lib.hid (show ArmI k 0 d W1 W3 from ⟨_, rfl, h3, H2.out.2.trans hc3, ⟨(Fine.new d m (room := 1000) (by omega)).room, (Fine.new d m (room := 1000) (by omega)).used, by show _ ≤ (k : Int) ∧ (k : Int) ≤ _; omega, by show 0 < _; omega⟩, rfl, by show ((1000 : Nat) : Int) = 1000; rfl, by show 0 = min 0 k; omega, by show (0 : Int) = ((min 0 k : Nat) : Int); omega, Nat.le_refl _, fun _ => ⟨rfl, by show (k : Int) = _; omega⟩, fun h => by omega⟩)
  clear h3 hc3 H2
  go_wp2_with fail
  go_loopw [7] (fun b wr => ∃ j : Nat, b = .int .i64 j ∧ j ≤ 30 ∧ ArmI k j d W1 wr) (fun b w => 30 - (intOf b).toNat)
  case atStart => exact ⟨0, rfl, by omega, HA.out⟩
  case round =>
    obtain ⟨j, rfl, hj, hi⟩ := hrel
    have HI := Lib.hid hi
    clear hi HA
    by_cases hj30 : j < 30
    · go_wp2_with fail
      refine (HI.out.go (by omega) hj30).mono ?_
      rintro e W4 ⟨rfl, hi4⟩
      have HI4 := Lib.hid hi4
      clear hi4 HI
      by_cases hjk : j < k
      · rw [if_pos hjk]
        have hd : decide (k < j + 1) = false := decide_eq_false (by omega)
        go_wp2_with fail
        refine HI4.out.dead.mono ?_
        rintro e W5 ⟨rfl, rfl⟩
        rw [hd]
        clear hd
        go_wp2_with fail
        refine ⟨⟨j + 1, by go_num, by omega, HI4.out⟩, ?_⟩
        simp [intOf]; omega
      · rw [if_neg hjk]
        have hd : decide (k < j + 1) = true := decide_eq_true (by omega)
        go_wp2_with fail
        refine HI4.out.dead.mono ?_
        rintro e W5 ⟨rfl, rfl⟩
        rw [hd]
        clear hd
        have hkj : k ≤ j := by omega
        go_wp2_with fail
        refine ⟨⟨j + 1, by go_num, by omega, HI4.out⟩, ?_⟩
        simp [intOf]; omega
    · obtain rfl : j = 30 := by omega
      clear hj hj30
      go_wp2_with fail
      refine (HI.out.read (by omega)).mono ?_
      rintro e W4 ⟨⟨z, b, hz, rfl⟩, hb4⟩
      have HZ := Lib.hid (B1.out.trans (hb4.mono B1.out.size))
      clear hb4 B1 HI
      have hzI : (z.size : Int) = (k : Int) := by omega
      go_wp2_with fail
      go_ret
      exact ⟨rfl, HZ.out⟩
end Go.Proofs.Ythadbhhabngfeaa
