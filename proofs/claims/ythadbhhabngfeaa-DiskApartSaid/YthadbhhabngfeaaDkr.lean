/- DiskApart. -/
import Derived.Test.YthadbhhabngfeaaDkp
import Derived.Test.YthadbhhabngfeaaDko
namespace Go.Proofs.Ythadbhhabngfeaa
open Go.RowKit Go.Maps Go.WideElems Go.ChangeMaps Go.MapKept Go.WideMaps
def Apt2 (s t : Nm) (d : Nat) (W W' : World) : Prop := ∃ x f g, Al x d W W' ∧ x.room = 1000 ∧ x.n ≤ 2 ∧ x.used = (s.length : Int) + (t.length : Int) ∧ x.fs [97] = some f ∧ f.bs = s ∧ x.fs [98] = some g ∧ g.bs = t ∧ g.syn = 0 ∧ ∀ u, u ≠ [97] → u ≠ [98] → x.fs u = none
def Apt4 (t : Nm) (d : Nat) (W W' : World) : Prop := ∃ x g, Al x d W W' ∧ x.room = 1000 ∧ x.n ≤ 2 ∧ x.used = (t.length : Int) ∧ x.fs [97] = none ∧ x.fs [98] = some g ∧ g.bs = t ∧ g.syn = 0 ∧ ∀ u, u ≠ [97] → u ≠ [98] → x.fs u = none
def Apt5 (u t : Nm) (d : Nat) (W W' : World) : Prop := ∃ x f g, Al x d W W' ∧ x.n ≤ 3 ∧ x.fs [97] = some f ∧ f.bs = u ∧ f.syn = 0 ∧ x.fs [98] = some g ∧ g.bs = t ∧ g.syn = 0 ∧ ∀ u, u ≠ [97] → u ≠ [98] → x.fs u = none
section
variable {s t u : Nm} {d m : Nat} {W W' : World}
theorem apt_b {f : Fl} (h : Al ((Dk.new d m 1000).put [97] f s.length) d W W') (hf : f.bs = s) (hs : s.length ≤ 100) (ht : t.length ≤ 100) :
    Calls Try.prog 10 #[.pointer (some ⟨d, 0, none⟩), .string (str [98]), .string (str t)] W' fun e W2 => e = .returned (.int .i64 0) ∧ Apt2 s t d W W2 := by
  have hu : ((Dk.new d m 1000).put [97] f s.length).used = (s.length : Int) := by show (0 : Int) + (s.length : Nat) = _; omega
  have hno : ∀ u : Nm, u ≠ [97] → ((Dk.new d m 1000).put [97] f s.length).fs u = none := fun u hu => by rw [put_fs_ne _ _ _ hu]; rfl
  refine (h.append (s := [98]) (xs := t) (by rw [hu]; show ((t.length : Nat) : Int) ≤ 1000 - _; omega) (by simp) (by rw [hno _ (by decide)]; show 0 + t.length ≤ _; omega) (by rw [hu]; omega) (by show 0 + 1 + 1 < _; omega)).mono ?_
  rintro e W2 ⟨rfl, g, q1, q2, q3⟩
  rw [hno _ (by decide)] at q1 q2
  refine ⟨rfl, _, f, g, q3, rfl, by show 0 + 1 + 1 ≤ 2; omega, ?_, ?_, hf, put_fs _ _ _ _, q1, q2, fun v h1 h2 => ?_⟩
  · show ((Dk.new d m 1000).put [97] f s.length).used + (t.length : Nat) = _; rw [hu]
  · rw [put_fs_ne _ _ _ (by decide)]; exact put_fs _ _ _ _
  · rw [put_fs_ne _ _ _ h2]; exact hno v h1
theorem apt_sync (h : Apt2 s t d W W') : Calls Try.prog 11 #[.pointer (some ⟨d, 0, none⟩), .string (str [97])] W' fun e W2 => e = .returned (.int .i64 0) ∧ Apt2 s t d W W2 := by
  obtain ⟨x, f, g, h1, h2, h3, h4, h5, h6, h7, h8, h9, h10⟩ := h
  refine (h1.sync h5 (by simp)).mono ?_
  rintro e W2 ⟨rfl, q⟩
  exact ⟨rfl, _, ⟨f.b, f.v, f.bs, f.bs.length⟩, g, q, h2, h3, h4, syn_fs _ _ _, h6, by rw [syn_fs_ne _ _ (by decide)]; exact h7, h8, h9, fun u a b => by rw [syn_fs_ne _ _ a]; exact h10 u a b⟩
theorem apt_del (h : Apt2 s t d W W') : Calls Try.prog 17 #[.pointer (some ⟨d, 0, none⟩), .string (str [97])] W' fun e W2 => e = .returned (.int .i64 0) ∧ Apt4 t d W W2 := by
  obtain ⟨x, f, g, h1, h2, h3, h4, h5, h6, h7, h8, h9, h10⟩ := h
  refine (h1.delete h5 (by simp) (by rw [h6, h4]; omega)).mono ?_
  rintro e W2 ⟨rfl, q⟩
  exact ⟨rfl, _, g, q, h2, h3, by show x.used - (f.bs.length : Int) = _; rw [h4, h6]; omega, rem_fs _ _ _, by rw [rem_fs_ne _ _ (by decide)]; exact h7, h8, h9, fun u a b => by rw [rem_fs_ne _ _ a]; exact h10 u a b⟩
theorem apt_u (h : Apt4 t d W W') (ht : t.length ≤ 100) (hu : u.length ≤ 100) : Calls Try.prog 10 #[.pointer (some ⟨d, 0, none⟩), .string (str [97]), .string (str u)] W' fun e W2 => e = .returned (.int .i64 0) ∧ Apt5 u t d W W2 := by
  obtain ⟨x, g, h1, h2, h3, h4, h5, h7, h8, h9, h10⟩ := h
  refine (h1.append (s := [97]) (xs := u) (by rw [h2, h4]; omega) (by simp) (by rw [h5]; show 0 + u.length ≤ _; omega) (by rw [h4]; omega) (by omega)).mono ?_
  rintro e W2 ⟨rfl, f, q1, q2, q3⟩
  rw [h5] at q1 q2
  exact ⟨rfl, _, f, g, q3, by show x.n + 1 ≤ 3; omega, put_fs _ _ _ _, q1, q2, by rw [put_fs_ne _ _ _ (by decide)]; exact h7, h8, h9, fun v a b => by rw [put_fs_ne _ _ _ a]; exact h10 v a b⟩
theorem apt_lost (h : Apt5 u t d W W') (ht : t.length ≤ 100) (hu : u.length ≤ 100) : Calls Try.prog 13 #[.pointer (some ⟨d, 0, none⟩), .int .i64 0] W' fun e W2 => ∃ zd, e = .returned (.pointer (some ⟨zd, 0, none⟩)) ∧ Apt5 u t d W W2 ∧
    (Calls Try.prog 15 #[.pointer (some ⟨zd, 0, none⟩), .string (str [97])] W2 fun e W3 => e = .returned (.tuple #[.string (str []), .bool true]) ∧ W3 = W2) ∧
    Calls Try.prog 15 #[.pointer (some ⟨zd, 0, none⟩), .string (str [98])] W2 fun e W3 => e = .returned (.tuple #[.string (str []), .bool true]) ∧ W3 = W2 := by
  obtain ⟨x, f, g, h1, h3, h5, h6, h7, h8, h9, h10, h11⟩ := h
  refine (h1.lost0 100 (fun v k hv => ?_) (by omega)).mono ?_
  · by_cases e1 : v = [98]
    · subst e1; rw [h8] at hv; cases hv; rw [h9, h10]; omega
    · by_cases e2 : v = [97]
      · subst e2; rw [h5] at hv; cases hv; rw [h6, h7]; omega
      · rw [h11 v e2 e1] at hv; cases hv
  · rintro e W2 ⟨zd, z, rfl, hz, hx, hall⟩
    obtain ⟨f', r1, r2⟩ := (hall [97]).2 f h5
    obtain ⟨g', r3, r4⟩ := (hall [98]).2 g h8
    refine ⟨zd, rfl, ⟨x, f, g, hx, h3, h5, h6, h7, h8, h9, h10, h11⟩, ?_, ?_⟩
    · have h := hz.read (s := [97]) (by simp)
      rw [r1, told, r2, h7, List.take_zero] at h
      exact h
    · have h := hz.read (s := [98]) (by simp)
      rw [r3, told, r4, h10, List.take_zero] at h
      exact h
theorem apt_reads (h : Apt5 u t d W W') : (Calls Try.prog 15 #[.pointer (some ⟨d, 0, none⟩), .string (str [97])] W' fun e W2 => e = .returned (.tuple #[.string (str u), .bool true]) ∧ W2 = W') ∧
    (Calls Try.prog 15 #[.pointer (some ⟨d, 0, none⟩), .string (str [98])] W' fun e W2 => e = .returned (.tuple #[.string (str t), .bool true]) ∧ W2 = W') := by
  obtain ⟨x, f, g, h1, h3, h5, h6, h7, h8, h9, h10, h11⟩ := h
  refine ⟨?_, ?_⟩
  · have h := h1.read (s := [97]) (by simp); rw [h5, told, h6] at h; exact h
  · have h := h1.read (s := [98]) (by simp); rw [h8, told, h9] at h; exact h
theorem apt_names (h : Apt5 u t d W W') : Calls Try.prog 18 #[.pointer (some ⟨d, 0, none⟩)] W' fun e W2 => (∃ g cap, e = .returned (.slice (some ⟨g, 0, none⟩) 2 cap) ∧ W2.cell? ⟨g, 0, none⟩ = some (.string ⟨#[97]⟩) ∧ W2.cell? ⟨g, 1, none⟩ = some (.string ⟨#[98]⟩)) ∧ Below W.heap.size W W2 := by
  obtain ⟨x, f, g, h1, h3, h5, h6, h7, h8, h9, h10, h11⟩ := h
  have hj : Just x [[97], [98]] := by
    refine ⟨by decide, fun v => ?_⟩
    by_cases e1 : v = [98]
    · subst e1; rw [h8]; simp
    · by_cases e2 : v = [97]
      · subst e2; rw [h5]; simp
      · rw [h11 v e2 e1]; simp [e1, e2]
  have hd := h1.d
  subst hd
  refine (names_c h1.at_ hj (by simp)).mono ?_
  rintro e W2 ⟨v, rfl, hrow, hb⟩
  rw [List.mergeSort_of_pairwise (by decide)] at hrow
  refine ⟨?_, (h1.chg.below).trans (hb.mono h1.chg.size)⟩
  rcases hrow.2 with ⟨_, h0⟩ | ⟨k, cap, cur, rfl, hbg, hg, hn, _⟩
  · cases h0
  · exact ⟨k, cap, rfl, hrow.cells rfl 0 _ rfl, hrow.cells rfl 1 _ rfl⟩
end
set_option maxRecDepth 100000 in
set_option maxHeartbeats 4000000 in
theorem apart_c (s t u : ByteArray) (W : World) : Calls Try.prog 7 #[.string s, .string t, .string u] W fun e W' => e = .returned (.bool true) ∧ Below W.heap.size W W' := by
  obtain ⟨ls, rfl⟩ : ∃ ls, s = str ls := ⟨_, (str_of s).symm⟩
  obtain ⟨lt, rfl⟩ : ∃ lt, t = str lt := ⟨_, (str_of t).symm⟩
  obtain ⟨lu, rfl⟩ : ∃ lu, u = str lu := ⟨_, (str_of u).symm⟩
  have hls := str_size ls
  have hlt := str_size lt
  have hlu := str_size lu
  have HTS := Lib.hid (And.intro (str_take ls) (And.intro (str_take lt) (str_take lu)))
  go_enter Try.func7, Try.ntmps7
  go_wp2_with fail
  refine (examples_c W).mono ?_
  rintro e W1 ⟨rfl, hb⟩
  have B1 := Lib.hid hb
  clear hb
  go_wp2_with (first
    | (refine wpList_min2 (by rfl) _ _ _ (by rfl) (ls.length : Int) 100 (by rfl) (by rfl) ?_; intro q0 hq0; obtain ⟨ms, rfl, hms, hms2⟩ := min_nat (k := 100) hq0; have ht1 := HTS.out.1 ms; clear hq0)
    | (refine wpList_min2 (by rfl) _ _ _ (by rfl) (lt.length : Int) 100 (by rfl) (by rfl) ?_; intro q1 hq1; obtain ⟨mt, rfl, hmt, hmt2⟩ := min_nat (k := 100) hq1; have ht2 := HTS.out.2.1 mt; clear hq1)
    | (refine wpList_min2 (by rfl) _ _ _ (by rfl) (lu.length : Int) 100 (by rfl) (by rfl) ?_; intro q2 hq2; obtain ⟨mu, rfl, hmu, hmu2⟩ := min_nat (k := 100) hq2; have ht3 := HTS.out.2.2 mu; clear hq2))
  have hl1 : (ls.take ms).length ≤ 100 := by rw [List.length_take]; omega
  have hl2 : (lt.take mt).length ≤ 100 := by rw [List.length_take]; omega
  have hl3 : (lu.take mu).length ≤ 100 := by rw [List.length_take]; omega
  clear ht1 ht2 ht3 HTS hms hms2 hmt hmt2 hmu hmu2 hls hlt hlu
  generalize ls.take ms = s1 at *
  generalize lt.take mt = t1 at *
  generalize lu.take mu = u1 at *
  refine (new_c 1000 (by omega) W1).mono ?_
  rintro e W2 ⟨d, m, rfl, h1, hc1⟩
  have H2 := Lib.hid (Al.new (by omega) h1 hc1)
  clear h1 hc1
  go_wp2_with fail
  refine (ren_a H2.out hl1).mono ?_
  rintro e W3 ⟨rfl, f, hf, h1⟩
  have H3 := Lib.hid (And.intro h1 hf)
  clear h1 hf H2
  go_wp2_with fail
  refine (apt_b H3.out.1 H3.out.2 hl1 hl2).mono ?_
  rintro e W4 ⟨rfl, h1⟩
  have H4 := Lib.hid h1
  clear h1 H3
  go_wp2_with fail
  refine (apt_sync H4.out).mono ?_
  rintro e W5 ⟨rfl, h1⟩
  have H5 := Lib.hid h1
  clear h1 H4
  go_wp2_with fail
  refine (apt_del H5.out).mono ?_
  rintro e W6 ⟨rfl, h1⟩
  have H6 := Lib.hid h1
  clear h1 H5
  go_wp2_with fail
  refine (apt_u H6.out hl2 hl3).mono ?_
  rintro e W7 ⟨rfl, h1⟩
  have H7 := Lib.hid h1
  clear h1 H6
  go_wp2_with fail
  refine (apt_lost H7.out hl2 hl3).mono ?_
  rintro e W8 ⟨zd, rfl, h1, h2, h3⟩
  have H8 := Lib.hid (And.intro h1 (And.intro h2 h3))
  clear h1 h2 h3 H7
  go_wp2_with fail
  refine (apt_reads H8.out.1).1.mono ?_
  rintro e W9 ⟨rfl, rfl⟩
  go_wp2_with fail
  refine (apt_reads H8.out.1).2.mono ?_
  rintro e W10 ⟨rfl, rfl⟩
  go_wp2_with fail
  refine H8.out.2.1.mono ?_
  rintro e W11 ⟨rfl, rfl⟩
  go_wp2_with fail
  refine H8.out.2.2.mono ?_
  rintro e W12 ⟨rfl, rfl⟩
  go_wp2_with fail
  refine (apt_names H8.out.1).mono ?_
  rintro e W13 ⟨⟨g, cap, rfl, k0, k1⟩, hb⟩
  have HB := Lib.hid (B1.out.trans (hb.mono B1.out.size))
  clear hb H8
  rw [show str [] = (⟨#[]⟩ : ByteArray) from rfl]
  go_wp2_with fail
  go_ret
  exact ⟨rfl, HB.out⟩
end Go.Proofs.Ythadbhhabngfeaa
