/- DiskKeeps. -/
import Derived.Test.YthadbhhabngfeaaDkk
import Derived.Test.YthadbhhabngfeaaDkj
namespace Go.Proofs.Ythadbhhabngfeaa
open Go.RowKit Go.Maps Go.WideElems Go.ChangeMaps Go.MapKept Go.WideMaps
theorem str_append (a b : List UInt8) : str a ++ str b = str (a ++ b) := by
  apply ByteArray.ext
  simp [str]
theorem min_nat {q : Int} {n k : Nat} (hq : q = if (k : Int) < (n : Int) then (k : Int) else (n : Int)) : ∃ m : Nat, q = (m : Int) ∧ m ≤ n ∧ m ≤ k := by
  refine ⟨min n k, ?_, Nat.min_le_left _ _, Nat.min_le_right _ _⟩
  subst hq
  split <;> omega
theorem torn_nat2 {t p q : Int} {n : Nat} (hp : p = if (n : Int) < t then (n : Int) else t) (hq : q = if 0 > p then 0 else p) : q = ((tornN t n : Nat) : Int) := by
  subst hp hq
  unfold tornN
  split <;> split <;> omega
/-- Behind the crash: the one file, and what it has. -/
def Keeps4 (s t : Nm) (torn : Int) (d : Nat) (W W' : World) : Prop := ∃ x g, x.d = d ∧ DiskAt x W' ∧ Chg (fun _ => False) x.ft W W' ∧ Fine x ∧ x.room = 1000 ∧ x.dead = true ∧ x.n ≤ 2 ∧ x.fs [102] = some g ∧ g.bs = s ++ t.take (tornN torn t.length) ∧ g.syn = s.length ∧ ∀ u, u ≠ [102] → x.fs u = none
theorem keeps_lost {s t : Nm} {torn keep : Int} {d : Nat} {W W' : World} (h : Keeps4 s t torn d W W') (hs : s.length ≤ 100) (ht : t.length ≤ 100) :
    Calls Try.prog 13 #[.pointer (some ⟨d, 0, none⟩), .int .i64 keep] W' fun e W2 => ∃ zd z g, e = .returned (.pointer (some ⟨zd, 0, none⟩)) ∧ z.d = zd ∧ DiskAt z W2 ∧ Chg (fun _ => False) z.ft W W2 ∧ Fine z ∧ z.room = 1000 ∧ z.dead = false ∧ z.after = -1 ∧ z.fs [102] = some g ∧
      g.bs = s ++ t.take (tornN keep (tornN torn t.length)) ∧ z.used ≤ 400 ∧ z.n ≤ 2 ∧ Keeps4 s t torn d W W2 := by
  obtain ⟨x, g, rfl, h1, h2, h3, h4, h5, h6, h7, h8, h9, h10⟩ := h
  obtain ⟨D, ho, hat, hhas⟩ := h1.own
  have htn : tornN torn t.length ≤ t.length := Nat.min_le_right _ _
  have hgl : g.bs.length = s.length + tornN torn t.length := by rw [h8, List.length_append, List.length_take, Nat.min_eq_left htn]
  have hL : Lo x 200 W' D := ⟨h1, h3, ho, hat, hhas, (fun u f hu => by
    by_cases e : u = [102]
    · subst e; rw [h7] at hu; cases hu; exact ⟨by omega, by omega⟩
    · rw [h10 u e] at hu; cases hu), by omega⟩
  refine (lost_c hL keep).mono ?_
  rintro e W2 ⟨zd, rfl, z, q1, q2, q3, q4, q5, q6, q7, q8, q9, q10⟩
  obtain ⟨g', r1, r2, r3⟩ := (q8 [102]).2 g h7 rfl
  refine ⟨zd, z, g', rfl, q1, q2, (Chg.of_below h2.below).trans q3, q4, q5.trans h4, q6, q7, r1, ?_, ?_, by omega, ⟨x, g, rfl, h1.below q3.below, h2.trans (Chg.of_below q3.below), h3, h4, h5, h6, h7, h8, h9, h10⟩⟩
  · have hk : keptN keep g = s.length + tornN keep (tornN torn t.length) := by unfold keptN; rw [h9, hgl, Nat.add_sub_cancel_left]
    have hle : tornN keep (tornN torn t.length) ≤ tornN torn t.length := Nat.min_le_right _ _
    rw [r2, hk, h8, List.take_length_add_append, List.take_take, Nat.min_eq_left hle]
  · have : (x.n : Int) ≤ 2 := by omega
    omega
/-- Ahead of the crash. -/
def Keeps3 (s : Nm) (torn : Int) (d : Nat) (W W' : World) : Prop := ∃ x g, x.d = d ∧ DiskAt x W' ∧ Chg (fun _ => False) x.ft W W' ∧ Fine x ∧ x.room = 1000 ∧ x.dead = false ∧ x.after = 0 ∧ x.torn = torn ∧ x.n ≤ 1 ∧ x.used = (s.length : Nat) ∧ x.fs [102] = some g ∧ g.bs = s ∧ g.syn = s.length ∧ ∀ u, u ≠ [102] → x.fs u = none
theorem keeps_crash {s t : Nm} {torn : Int} {d : Nat} {W W' : World} (h : Keeps3 s torn d W W') (hs : s.length ≤ 100) (ht : t.length ≤ 100) :
    Calls Try.prog 10 #[.pointer (some ⟨d, 0, none⟩), .string (str [102]), .string (str t)] W' fun e W2 => e = .returned (.int .i64 19) ∧ Keeps4 s t torn d W W2 := by
  obtain ⟨x, g, rfl, h1, h2, h3, h4, h5, h6, h7, h8, h9, h10, h11, h12, h13⟩ := h
  refine (append_crash (s := [102]) (xs := t) h1 h5 h6 h3 (by rw [h4, h9]; omega) (long_ok (by simp)) (by rw [h10]; show g.bs.length + _ ≤ _; rw [h11]; omega)).mono ?_
  rintro e W2 ⟨rfl, hq⟩
  refine ⟨rfl, ?_⟩
  subst h7
  have htn : tornN x.torn t.length ≤ t.length := Nat.min_le_right _ _
  unfold TornQ at hq
  simp only at hq
  split at hq
  · rename_i h0
    exact ⟨{ x with dead := true }, g, rfl, hq.1, h2.trans hq.2, ⟨h3.room, h3.used, h3.after, h3.n⟩, h4, rfl, by show x.n ≤ 2; omega, h10, by rw [h0, h11]; simp, h12, h13⟩
  · obtain ⟨f, q1, q2, q3, q4⟩ := hq
    rw [h10] at q1 q2
    refine ⟨{ x with dead := true, n := x.n + 1, fs := upd x.fs [102] (some f), used := x.used + (tornN x.torn t.length : Nat) }, f, rfl, q3, h2.trans q4, ⟨h3.room, ⟨by show (0 : Int) ≤ x.used + ((tornN x.torn t.length : Nat) : Int); rw [h9]; omega, by show x.used + ((tornN x.torn t.length : Nat) : Int) ≤ _; rw [h9]; omega⟩, h3.after, by show x.n + 1 < _; omega⟩, h4, rfl, by show x.n + 1 ≤ 2; omega, by show upd x.fs [102] (some f) [102] = some f; exact upd_same _ _ _, by rw [q1]; show g.bs ++ _ = _; rw [h11], by rw [q2]; exact h12, fun u hu => by show upd x.fs [102] _ u = none; rw [upd_other _ _ hu]; exact h13 u hu⟩
theorem keeps_more {s t : Nm} {torn : Int} {d : Nat} {W W' : World} (h : Keeps4 s t torn d W W') (xs : Nm) :
    Calls Try.prog 10 #[.pointer (some ⟨d, 0, none⟩), .string (str [102]), .string (str xs)] W' fun e W2 => e = .returned (.int .i64 19) ∧ Keeps4 s t torn d W W2 := by
  obtain ⟨x, g, rfl, h1, h2, h3, h4, h5, h6⟩ := h
  refine (append_dead (s := [102]) (xs := xs) h1 h5 h3).mono ?_
  rintro e W2 ⟨rfl, q1, q2⟩
  exact ⟨rfl, x, g, rfl, q1, h2.trans q2, h3, h4, h5, h6⟩
theorem keeps_dead {s t : Nm} {torn : Int} {d : Nat} {W W' : World} (h : Keeps4 s t torn d W W') : Calls Try.prog 14 #[.pointer (some ⟨d, 0, none⟩)] W' fun e W2 => e = .returned (.bool true) ∧ W2 = W' := by
  obtain ⟨x, g, rfl, h1, h2, h3, h4, h5, h6⟩ := h
  have h := crashed_c h1
  rwa [h5] at h
theorem keeps_start {s : Nm} {d m : Nat} {W W' : World} (h : DiskAt (Dk.new d m 1000) W') (hc : Chg (fun _ => False) (Dk.new d m 1000).ft W W') (hs : s.length ≤ 100) :
    Calls Try.prog 10 #[.pointer (some ⟨d, 0, none⟩), .string (str [102]), .string (str s)] W' fun e W2 => e = .returned (.int .i64 0) ∧ ∃ f, f.bs = s ∧ DiskAt ((Dk.new d m 1000).put [102] f s.length) W2 ∧ Chg (fun _ => False) ((Dk.new d m 1000).put [102] f s.length).ft W W2 := by
  refine (append_fits (x := Dk.new d m 1000) (s := [102]) (xs := s) h rfl (by show (-1 : Int) ≠ 0; omega) (Fine.new d m (room := 1000) (by omega)) (by show ((s.length : Nat) : Int) ≤ 1000 - 0; omega) (long_ok (by simp)) (by show 0 + s.length ≤ _; omega)).mono ?_
  rintro e W2 ⟨rfl, f, q1, q2, q3, q4⟩
  rw [tick_neg (by show ¬ (0 : Int) < -1; omega)] at q3 q4
  exact ⟨rfl, f, q1, q3, hc.trans q4⟩
theorem keeps_fine {d m : Nat} (f : Fl) {n : Nat} (hn : n ≤ 1000) : Fine ((Dk.new d m 1000).put [102] f n) :=
  (Fine.new d m (room := 1000) (by omega)).put _ _ _ (by show (0 : Int) + (n : Int) ≤ _; omega) (by show 0 + 1 < _; omega)
theorem keeps_sync {f : Fl} {d m n : Nat} {W W' : World} (h : DiskAt ((Dk.new d m 1000).put [102] f n) W') (hc : Chg (fun _ => False) ((Dk.new d m 1000).put [102] f n).ft W W') (hn : n ≤ 1000) :
    Calls Try.prog 11 #[.pointer (some ⟨d, 0, none⟩), .string (str [102])] W' fun e W2 => e = .returned (.int .i64 0) ∧ DiskAt (((Dk.new d m 1000).put [102] f n).syn [102] f) W2 ∧ Chg (fun _ => False) (((Dk.new d m 1000).put [102] f n).syn [102] f).ft W W2 := by
  refine (sync_some (x := (Dk.new d m 1000).put [102] f n) (s := [102]) h rfl (by show (-1 : Int) ≠ 0; omega) (keeps_fine f hn) (put_fs _ _ _ _) (long_ok (by simp))).mono ?_
  rintro e W2 ⟨rfl, q3, q4⟩
  rw [tick_neg (by show ¬ (0 : Int) < -1; omega)] at q3 q4
  exact ⟨rfl, q3, hc.trans q4⟩
theorem keeps_arm {s : Nm} {f : Fl} {d m : Nat} {W W' : World} (h : DiskAt (((Dk.new d m 1000).put [102] f s.length).syn [102] f) W') (hc : Chg (fun _ => False) (((Dk.new d m 1000).put [102] f s.length).syn [102] f).ft W W') (hs : s.length ≤ 100) (hf : f.bs = s) (torn : Int) :
    Calls Try.prog 12 #[.pointer (some ⟨d, 0, none⟩), .int .i64 0, .int .i64 torn] W' fun e W2 => e = .returned (.tuple #[]) ∧ Keeps3 s torn d W W2 := by
  refine (arm_c h 0 torn).mono ?_
  rintro e W2 ⟨rfl, q3, q4⟩
  have hF := (keeps_fine (d := d) (m := m) f (n := s.length) (by omega)).syn [102] f
  refine ⟨rfl, _, ⟨f.b, f.v, f.bs, f.bs.length⟩, rfl, q3, hc.trans q4, ⟨hF.room, hF.used, by show (_ : Int) ≤ 0 ∧ (0 : Int) ≤ _; omega, hF.n⟩, rfl, rfl, rfl, rfl, by show 0 + 1 ≤ 1; omega, by show (0 : Int) + (s.length : Nat) = _; omega, by show (((Dk.new d m 1000).put [102] f s.length).syn [102] f).fs [102] = _; exact syn_fs _ _ _, hf, by show f.bs.length = _; rw [hf], fun u hu => ?_⟩
  show (((Dk.new d m 1000).put [102] f s.length).syn [102] f).fs u = none
  rw [syn_fs_ne _ _ hu, put_fs_ne _ _ _ hu]
  rfl
theorem keeps_zdead {z : Dk} {zd : Nat} {W : World} (hd : z.d = zd) (h : DiskAt z W) (hz : z.dead = false) : Calls Try.prog 14 #[.pointer (some ⟨zd, 0, none⟩)] W fun e W2 => e = .returned (.bool false) ∧ W2 = W := by
  subst hd
  have h := crashed_c h
  rwa [hz] at h
theorem keeps_zapp {z : Dk} {zd : Nat} {g : Fl} {W0 W : World} (hd : z.d = zd) (h : DiskAt z W) (hc : Chg (fun _ => False) z.ft W0 W) (hF : Fine z) (hr : z.room = 1000) (hz : z.dead = false) (ha : z.after = -1) (hu : z.used ≤ 400) (hg : z.fs [102] = some g) (hgl : g.bs.length ≤ 200) :
    Calls Try.prog 10 #[.pointer (some ⟨zd, 0, none⟩), .string (str [102]), .string (str [120])] W fun e W2 => e = .returned (.int .i64 0) ∧ Below W0.heap.size W0 W2 := by
  subst hd
  refine (append_fits (s := [102]) (xs := [120]) h hz (by rw [ha]; omega) hF (by show (1 : Int) ≤ _; rw [hr]; omega) (long_ok (by simp)) (by rw [hg]; show g.bs.length + 1 ≤ _; omega)).mono ?_
  rintro e W2 ⟨rfl, f, _, _, _, q4⟩
  exact ⟨rfl, (hc.trans q4).below⟩
set_option maxRecDepth 100000 in
set_option maxHeartbeats 4000000 in
theorem keeps_c (s t : ByteArray) (keep torn : Int) (W : World) : Calls Try.prog 3 #[.string s, .string t, .int .i64 keep, .int .i64 torn] W fun e W' => e = .returned (.bool true) ∧ Below W.heap.size W W' := by
  obtain ⟨ls, rfl⟩ : ∃ ls, s = str ls := ⟨_, (str_of s).symm⟩
  obtain ⟨lt, rfl⟩ : ∃ lt, t = str lt := ⟨_, (str_of t).symm⟩
  have hls := str_size ls
  have hlt := str_size lt
  have HTS := Lib.hid (And.intro (str_take ls) (str_take lt))
  go_enter Try.func3, Try.ntmps3
  go_wp2_with fail
  refine (examples_c W).mono ?_
  rintro e W1 ⟨rfl, hb⟩
  have B1 := Lib.hid hb
  clear hb
  go_wp2_with (first
    | (refine wpList_min2 (by rfl) _ _ _ (by rfl) (ls.length : Int) 100 (by rfl) (by rfl) ?_; intro q0 hq0; obtain ⟨ms, rfl, hms, hms2⟩ := min_nat (k := 100) hq0; have ht1 := HTS.out.1 ms; clear hq0)
    | (refine wpList_min2 (by rfl) _ _ _ (by rfl) (lt.length : Int) 100 (by rfl) (by rfl) ?_; intro q1 hq1; obtain ⟨mt, rfl, hmt, hmt2⟩ := min_nat (k := 100) hq1; have ht2 := HTS.out.2 mt; clear hq1))
  have hl1 : (ls.take ms).length ≤ 100 := by rw [List.length_take]; omega
  have hl2 : (lt.take mt).length ≤ 100 := by rw [List.length_take]; omega
  clear ht1 ht2 HTS hms hms2 hmt hmt2 hls hlt
  generalize ls.take ms = s1 at *
  generalize lt.take mt = t1 at *
  refine (new_c 1000 (by omega) W1).mono ?_
  rintro e W2 ⟨d, m, rfl, h1, hc1⟩
  have H2 := Lib.hid (And.intro h1 hc1)
  clear h1 hc1
  go_wp2_with fail
  refine (keeps_start H2.out.1 H2.out.2 hl1).mono ?_
  rintro e W3 ⟨rfl, f, hf, h1, hc1⟩
  have H3 := Lib.hid (And.intro h1 (And.intro hc1 hf))
  clear h1 hc1 hf H2
  go_wp2_with fail
  refine (keeps_sync H3.out.1 H3.out.2.1 (by omega)).mono ?_
  rintro e W4 ⟨rfl, h1, hc1⟩
  have H4 := Lib.hid (And.intro h1 (And.intro hc1 H3.out.2.2))
  clear h1 hc1 H3
  go_wp2_with fail
  refine (keeps_arm H4.out.1 H4.out.2.1 hl1 H4.out.2.2 torn).mono ?_
  rintro e W5 ⟨rfl, h1⟩
  have H5 := Lib.hid h1
  clear h1 H4
  go_wp2_with fail
  refine (keeps_crash H5.out hl1 hl2).mono ?_
  rintro e W6 ⟨rfl, h1⟩
  have H6 := Lib.hid h1
  clear h1 H5
  go_wp2_with fail
  refine (keeps_more H6.out [109, 111, 114, 101]).mono ?_
  rintro e W7 ⟨rfl, h1⟩
  have H7 := Lib.hid h1
  clear h1 H6
  go_wp2_with fail
  refine (keeps_lost H7.out hl1 hl2).mono ?_
  rintro e W8 ⟨zd, z, g, rfl, hzd, h1, h2, h3, h4, h5, h6, h7, h8, h9, h10, h11⟩
  have H8 := Lib.hid h11
  have HZ := Lib.hid (And.intro hzd (And.intro h1 (And.intro h2 (And.intro h3 (And.intro h4 (And.intro h5 (And.intro h6 (And.intro h7 (And.intro h8 (And.intro h9 h10))))))))))
  clear h1 h2 h3 h4 h5 h6 h7 h8 h9 h10 h11 hzd H7
  go_wp2_with fail
  refine (keeps_dead H8.out).mono ?_
  rintro e W9 ⟨rfl, rfl⟩
  go_wp2_with fail
  have hr := read_c (x := z) (s := [102]) HZ.out.2.1 (long_ok (by simp))
  rw [HZ.out.2.2.2.2.2.2.2.1, told, HZ.out.1] at hr
  obtain ⟨v1, hv1⟩ : ∃ v, v = g.bs := ⟨_, rfl⟩
  rw [← hv1] at hr
  have HV := Lib.hid (hv1.trans HZ.out.2.2.2.2.2.2.2.2.1)
  refine hr.mono ?_
  rintro e W10 ⟨rfl, rfl⟩
  have hxt := str_size t1
  have hxs := str_size s1
  clear hr hv1
  obtain ⟨n1, hn1⟩ : ∃ n1, n1 = tornN torn t1.length := ⟨_, rfl⟩
  have hn1l : n1 ≤ t1.length := by rw [hn1]; exact Nat.min_le_right _ _
  have HN := Lib.hid hn1
  have hfin : ∃ n2 : Nat, n2 ≤ n1 ∧ n2 = tornN keep n1 ∧ ((keep < 0 ∧ n2 = 0) ∨ (keep = (n2 : Int)) ∨ ((n1 : Int) < keep ∧ n1 = n2)) := by
    refine ⟨tornN keep n1, Nat.min_le_right _ _, rfl, ?_⟩
    unfold tornN
    omega
  obtain ⟨n2, hn2, hn2t, hcase⟩ := hfin
  have hst := str_take t1 n2
  have hcat : str s1 ++ str (t1.take n2) = str v1 := by
    rw [HV.out, ← hn1, ← hn2t, str_append]
  have hsz2 : (str (t1.take n2)).size = n2 := by rw [str_size, List.length_take]; omega
  have HGL := Lib.hid (show g.bs.length ≤ 200 by rw [HZ.out.2.2.2.2.2.2.2.2.1, List.length_append]; have := List.length_take_le' (tornN keep (tornN torn t1.length)) t1; omega)
  have HN2 := Lib.hid hn2t
  clear hn1 hn2t HV
  rcases hcase with ⟨hk, rfl⟩ | rfl | ⟨hk, rfl⟩
  · have hv : str v1 = str s1 := by rw [← hcat, str_append]; simp
    rw [hv]
    clear hcat hst hv
    go_wp2_with (first
    | (refine wpList_min2 (by rfl) _ _ _ (by rfl) torn (t1.length : Int) (by rfl) (by rfl) ?_; intro p1 hp1; have HP := Lib.hid hp1; clear hp1)
    | (refine wpList_max2 (by rfl) _ _ _ (by rfl) p1 0 (by rfl) (by rfl) ?_; intro q1 hq1; obtain rfl : q1 = ((n1 : Nat) : Int) := (by rw [HN.out]; exact torn_nat2 HP.out hq1); clear hq1 HP))
    refine (keeps_zdead HZ.out.1 HZ.out.2.1 HZ.out.2.2.2.2.2.1).mono ?_
    rintro e W11 ⟨rfl, rfl⟩
    go_wp2_with fail
    refine (keeps_zapp HZ.out.1 HZ.out.2.1 HZ.out.2.2.1 HZ.out.2.2.2.1 HZ.out.2.2.2.2.1 HZ.out.2.2.2.2.2.1 HZ.out.2.2.2.2.2.2.1 HZ.out.2.2.2.2.2.2.2.2.2.1 (HZ.out.2.2.2.2.2.2.2.1) HGL.out).mono ?_
    rintro e W12 ⟨rfl, hb12⟩
    have HB := Lib.hid (B1.out.trans (hb12.mono B1.out.size))
    clear hb12
    go_wp2_with fail
    go_ret
    exact ⟨rfl, HB.out⟩
  · go_wp2_with (first
    | (refine wpList_min2 (by rfl) _ _ _ (by rfl) torn (t1.length : Int) (by rfl) (by rfl) ?_; intro p1 hp1; have HP := Lib.hid hp1; clear hp1)
    | (refine wpList_max2 (by rfl) _ _ _ (by rfl) p1 0 (by rfl) (by rfl) ?_; intro q1 hq1; obtain rfl : q1 = ((n1 : Nat) : Int) := (by rw [HN.out]; exact torn_nat2 HP.out hq1); clear hq1 HP))
    refine (keeps_zdead HZ.out.1 HZ.out.2.1 HZ.out.2.2.2.2.2.1).mono ?_
    rintro e W11 ⟨rfl, rfl⟩
    go_wp2_with fail
    refine (keeps_zapp HZ.out.1 HZ.out.2.1 HZ.out.2.2.1 HZ.out.2.2.2.1 HZ.out.2.2.2.2.1 HZ.out.2.2.2.2.2.1 HZ.out.2.2.2.2.2.2.1 HZ.out.2.2.2.2.2.2.2.2.2.1 (HZ.out.2.2.2.2.2.2.2.1) HGL.out).mono ?_
    rintro e W12 ⟨rfl, hb12⟩
    have HB := Lib.hid (B1.out.trans (hb12.mono B1.out.size))
    clear hb12
    go_wp2_with fail
    go_ret
    exact ⟨rfl, HB.out⟩
  · go_wp2_with (first
    | (refine wpList_min2 (by rfl) _ _ _ (by rfl) torn (t1.length : Int) (by rfl) (by rfl) ?_; intro p1 hp1; have HP := Lib.hid hp1; clear hp1)
    | (refine wpList_max2 (by rfl) _ _ _ (by rfl) p1 0 (by rfl) (by rfl) ?_; intro q1 hq1; obtain rfl : q1 = ((n1 : Nat) : Int) := (by rw [HN.out]; exact torn_nat2 HP.out hq1); clear hq1 HP))
    refine (keeps_zdead HZ.out.1 HZ.out.2.1 HZ.out.2.2.2.2.2.1).mono ?_
    rintro e W11 ⟨rfl, rfl⟩
    go_wp2_with fail
    refine (keeps_zapp HZ.out.1 HZ.out.2.1 HZ.out.2.2.1 HZ.out.2.2.2.1 HZ.out.2.2.2.2.1 HZ.out.2.2.2.2.2.1 HZ.out.2.2.2.2.2.2.1 HZ.out.2.2.2.2.2.2.2.2.2.1 (HZ.out.2.2.2.2.2.2.2.1) HGL.out).mono ?_
    rintro e W12 ⟨rfl, hb12⟩
    have HB := Lib.hid (B1.out.trans (hb12.mono B1.out.size))
    clear hb12
    go_wp2_with fail
    go_ret
    exact ⟨rfl, HB.out⟩
end Go.Proofs.Ythadbhhabngfeaa
