/- DiskRenames. -/
import Derived.Test.YthadbhhabngfeaaDkn
namespace Go.Proofs.Ythadbhhabngfeaa
open Go.RowKit Go.Maps Go.WideElems Go.ChangeMaps Go.MapKept Go.WideMaps
/-- Ahead of the renaming. -/
def Ren3 (s t : Nm) (d : Nat) (W W' : World) : Prop := ∃ x f g, Al x d W W' ∧ x.room = 1000 ∧ x.n ≤ 3 ∧ x.used = (s.length : Int) + (t.length : Int) + 3 ∧ x.fs [97] = some f ∧ x.fs [98] = some g ∧ f.bs = s ++ t ∧ f.syn = s.length ∧ g.bs.length = 3 ∧ ∀ u, u ≠ [97] → u ≠ [98] → x.fs u = none
/-- .. and behind it. -/
def Ren4 (s t : Nm) (d : Nat) (W W' : World) : Prop := ∃ x f, Al x d W W' ∧ x.n ≤ 4 ∧ x.used = (s.length : Int) + (t.length : Int) ∧ x.fs [97] = none ∧ x.fs [98] = some f ∧ f.bs = s ++ t ∧ f.syn = s.length ∧ ∀ u, u ≠ [97] → u ≠ [98] → x.fs u = none
section
variable {s t : Nm} {d m : Nat} {W W' : World}
theorem ren_a (h : Al (Dk.new d m 1000) d W W') (hs : s.length ≤ 100) : Calls Try.prog 10 #[.pointer (some ⟨d, 0, none⟩), .string (str [97]), .string (str s)] W' fun e W2 => e = .returned (.int .i64 0) ∧ ∃ f, f.bs = s ∧ Al ((Dk.new d m 1000).put [97] f s.length) d W W2 := by
  refine (h.append (s := [97]) (xs := s) (by show ((s.length : Nat) : Int) ≤ 1000 - 0; omega) (by simp) (by show 0 + s.length ≤ _; omega) (by show (0 : Int) + _ ≤ _; omega) (by show 0 + 1 < _; omega)).mono ?_
  rintro e W2 ⟨rfl, f, q1, q2, q3⟩
  exact ⟨rfl, f, q1, q3⟩
theorem ren_t {f : Fl} (h : Al (((Dk.new d m 1000).put [97] f s.length).syn [97] f) d W W') (hf : f.bs = s) (hs : s.length ≤ 100) (ht : t.length ≤ 100) :
    Calls Try.prog 10 #[.pointer (some ⟨d, 0, none⟩), .string (str [97]), .string (str t)] W' fun e W2 => e = .returned (.int .i64 0) ∧ ∃ f2, f2.bs = s ++ t ∧ f2.syn = s.length ∧ Al ((((Dk.new d m 1000).put [97] f s.length).syn [97] f).put [97] f2 t.length) d W W2 := by
  have hu : (((Dk.new d m 1000).put [97] f s.length).syn [97] f).used = (s.length : Nat) := by show (0 : Int) + _ = _; omega
  have hfs : (((Dk.new d m 1000).put [97] f s.length).syn [97] f).fs [97] = some ⟨f.b, f.v, f.bs, f.bs.length⟩ := syn_fs _ _ _
  refine (h.append (s := [97]) (xs := t) (by rw [hu]; show ((t.length : Nat) : Int) ≤ 1000 - _; omega) (by simp) (by rw [hfs]; show f.bs.length + t.length ≤ _; rw [hf]; omega) (by rw [hu]; omega) (by show 0 + 1 + 1 < _; omega)).mono ?_
  rintro e W2 ⟨rfl, f2, q1, q2, q3⟩
  rw [hfs] at q1 q2
  exact ⟨rfl, f2, by rw [q1]; show f.bs ++ t = _; rw [hf], by rw [q2]; show f.bs.length = _; rw [hf], q3⟩
theorem ren_b {f f2 : Fl} (h : Al ((((Dk.new d m 1000).put [97] f s.length).syn [97] f).put [97] f2 t.length) d W W') (hf1 : f2.bs = s ++ t) (hf2 : f2.syn = s.length) (hs : s.length ≤ 100) (ht : t.length ≤ 100) :
    Calls Try.prog 10 #[.pointer (some ⟨d, 0, none⟩), .string (str [98]), .string (str [111, 108, 100])] W' fun e W2 => e = .returned (.int .i64 0) ∧ Ren3 s t d W W2 := by
  have hu : ((((Dk.new d m 1000).put [97] f s.length).syn [97] f).put [97] f2 t.length).used = (s.length : Int) + (t.length : Int) := by show (0 : Int) + (s.length : Nat) + (t.length : Nat) = _; omega
  have hno : ∀ u : Nm, u ≠ [97] → ((((Dk.new d m 1000).put [97] f s.length).syn [97] f).put [97] f2 t.length).fs u = none := fun u hu => by
    rw [put_fs_ne _ _ _ hu, syn_fs_ne _ _ hu, put_fs_ne _ _ _ hu]; rfl
  refine (h.append (s := [98]) (xs := [111, 108, 100]) (by rw [hu]; show (3 : Int) ≤ 1000 - _; omega) (by simp) (by rw [hno _ (by decide)]; show 0 + 3 ≤ _; omega) (by rw [hu]; show _ + (3 : Int) ≤ _; omega) (by show 0 + 1 + 1 + 1 < _; omega)).mono ?_
  rintro e W2 ⟨rfl, g, q1, q2, q3⟩
  rw [hno _ (by decide)] at q1
  refine ⟨rfl, _, f2, g, q3, rfl, by show 0 + 1 + 1 + 1 ≤ 3; omega, ?_, ?_, put_fs _ _ _ _, hf1, hf2, by rw [q1]; rfl, fun u h1 h2 => ?_⟩
  · show ((((Dk.new d m 1000).put [97] f s.length).syn [97] f).put [97] f2 t.length).used + 3 = _; rw [hu]
  · rw [put_fs_ne _ _ _ (by decide)]; exact put_fs _ _ _ _
  · rw [put_fs_ne _ _ _ h2]; exact hno u h1
theorem ren_go (h : Ren3 s t d W W') (hs : s.length ≤ 100) (ht : t.length ≤ 100) : Calls Try.prog 19 #[.pointer (some ⟨d, 0, none⟩), .string (str [97]), .string (str [98])] W' fun e W2 => e = .returned (.int .i64 0) ∧ Ren4 s t d W W2 := by
  obtain ⟨x, f, g, h1, h2, h3, h4, h5, h6, h7, h8, h9, h10⟩ := h
  refine (h1.rename (by decide) h5 h6 (by simp) (by simp) (by rw [h9, h4]; omega) (by omega)).mono ?_
  rintro e W2 ⟨rfl, q⟩
  refine ⟨rfl, _, f, q, by show x.n + 1 ≤ 4; omega, by show x.used - (g.bs.length : Int) = _; rw [h4, h9]; omega, ?_, by show upd (upd x.fs [97] none) [98] (some f) [98] = some f; exact upd_same _ _ _, h7, h8, fun u hu1 hu2 => ?_⟩
  · show upd (upd x.fs [97] none) [98] (some f) [97] = none
    rw [upd_other _ _ (by decide), upd_same]
  · show upd (upd x.fs [97] none) [98] (some f) u = none
    rw [upd_other _ _ hu2, upd_other _ _ hu1]; exact h10 u hu1 hu2
theorem ren_read (h : Ren4 s t d W W') : (Calls Try.prog 15 #[.pointer (some ⟨d, 0, none⟩), .string (str [98])] W' fun e W2 => e = .returned (.tuple #[.string (str (s ++ t)), .bool true]) ∧ W2 = W') ∧
    (Calls Try.prog 15 #[.pointer (some ⟨d, 0, none⟩), .string (str [97])] W' fun e W2 => e = .returned (.tuple #[.string (str []), .bool false]) ∧ W2 = W') ∧
    (Calls Try.prog 16 #[.pointer (some ⟨d, 0, none⟩)] W' fun e W2 => e = .returned (.int .i64 ((s.length : Int) + (t.length : Int))) ∧ W2 = W') ∧
    (Calls Try.prog 19 #[.pointer (some ⟨d, 0, none⟩), .string (str [97]), .string (str [98])] W' fun e W2 => e = .returned (.int .i64 6) ∧ Ren4 s t d W W2) := by
  obtain ⟨x, f, h1, h3, h4, h5, h6, h7, h8, h10⟩ := id h
  refine ⟨?_, ?_, ?_, ?_⟩
  · have h := h1.read (s := [98]) (by simp); rw [h6, told, h7] at h; exact h
  · have h := h1.read (s := [97]) (by simp); rw [h5, told] at h; exact h
  · have h := h1.used_c; rw [h4] at h; exact h
  · refine (h1.rename_none [98] h5 (by simp)).mono ?_
    rintro e W2 ⟨rfl, q⟩
    exact ⟨rfl, x, f, q, h3, h4, h5, h6, h7, h8, h10⟩
theorem ren_lost (h : Ren4 s t d W W') (hs : s.length ≤ 100) (ht : t.length ≤ 100) : Calls Try.prog 13 #[.pointer (some ⟨d, 0, none⟩), .int .i64 0] W' fun e W2 => ∃ zd, e = .returned (.pointer (some ⟨zd, 0, none⟩)) ∧ Ren4 s t d W W2 ∧
    Calls Try.prog 15 #[.pointer (some ⟨zd, 0, none⟩), .string (str [98])] W2 fun e W3 => e = .returned (.tuple #[.string (str s), .bool true]) ∧ W3 = W2 := by
  obtain ⟨x, f, h1, h3, h4, h5, h6, h7, h8, h10⟩ := id h
  refine (h1.lost0 200 (fun u g hu => ?_) (by omega)).mono ?_
  · by_cases e1 : u = [98]
    · subst e1; rw [h6] at hu; cases hu; rw [h8, h7, List.length_append]; omega
    · by_cases e2 : u = [97]
      · subst e2; rw [h5] at hu; cases hu
      · rw [h10 u e2 e1] at hu; cases hu
  · rintro e W2 ⟨zd, z, rfl, hz, hx, hall⟩
    obtain ⟨g, r1, r2⟩ := (hall [98]).2 f h6
    refine ⟨zd, rfl, ⟨x, f, hx, h3, h4, h5, h6, h7, h8, h10⟩, ?_⟩
    have h := hz.read (s := [98]) (by simp)
    rw [r1, told, r2, h8, h7, List.take_left] at h
    exact h
end
set_option maxRecDepth 100000 in
set_option maxHeartbeats 4000000 in
theorem renames_c (s t : ByteArray) (W : World) : Calls Try.prog 5 #[.string s, .string t] W fun e W' => e = .returned (.bool true) ∧ Below W.heap.size W W' := by
  obtain ⟨ls, rfl⟩ : ∃ ls, s = str ls := ⟨_, (str_of s).symm⟩
  obtain ⟨lt, rfl⟩ : ∃ lt, t = str lt := ⟨_, (str_of t).symm⟩
  have hls := str_size ls
  have hlt := str_size lt
  have HTS := Lib.hid (And.intro (str_take ls) (str_take lt))
  go_enter Try.func5, Try.ntmps5
  go_wp2_with fail
  refine (examples_c W).mono ?_
  rintro e W1 ⟨rfl, hb⟩
  have B1 := Lib.hid hb
  clear hb
  go_wp2_with (first
    | (refine wpList_min2 (by rfl) _ _ _ (by rfl) (ls.length : Int) 100 (by rfl) (by rfl) ?_; intro q0 hq0; obtain ⟨ms, rfl, hms, hms2⟩ := min_nat (k := 100) hq0; have ht1 := HTS.out.1 ms; clear hq0)
    | (refine wpList_min2 (by rfl) _ _ _ (by rfl) (lt.length : Int) 100 (by rfl) (by rfl) ?_; intro q1 hq1; obtain ⟨mt, rfl, hmt, hmt2⟩ := min_nat (k := 100) hq1; have ht2 := HTS.out.2 mt; clear hq1))
  have hl1 : (ls.take ms).length ≤ 100 := by rw [List.length_take]; omega
  have hl2 : (lt.take mt).length ≤ 100 := by rw [List.length_take]; omega
  clear ht1 ht2 HTS hms hms2 hmt hmt2 hls hlt
  generalize ls.take ms = s1 at *
  generalize lt.take mt = t1 at *
  refine (new_c 1000 (by omega) W1).mono ?_
  rintro e W2 ⟨d, m, rfl, h1, hc1⟩
  have H2 := Lib.hid (Al.new (by omega) h1 hc1)
  clear h1 hc1
  go_wp2_with fail
  refine (ren_a H2.out hl1).mono ?_
  rintro e W3 ⟨rfl, f, hf, h1⟩
  have H3 := Lib.hid (And.intro h1 hf)
  clear h1 hf H2
  go_wp2_with fail
  refine (H3.out.1.sync (put_fs _ _ _ _) (by simp)).mono ?_
  rintro e W4 ⟨rfl, h1⟩
  have H4 := Lib.hid (And.intro h1 H3.out.2)
  clear h1 H3
  go_wp2_with fail
  refine (ren_t H4.out.1 H4.out.2 hl1 hl2).mono ?_
  rintro e W5 ⟨rfl, f2, hf1, hf2, h1⟩
  have H5 := Lib.hid (And.intro h1 (And.intro hf1 hf2))
  clear h1 hf1 hf2 H4
  go_wp2_with fail
  refine (ren_b H5.out.1 H5.out.2.1 H5.out.2.2 hl1 hl2).mono ?_
  rintro e W6 ⟨rfl, h1⟩
  have H6 := Lib.hid h1
  clear h1 H5
  go_wp2_with fail
  refine (ren_go H6.out hl1 hl2).mono ?_
  rintro e W7 ⟨rfl, h1⟩
  have H7 := Lib.hid h1
  clear h1 H6
  go_wp2_with fail
  refine (ren_read H7.out).1.mono ?_
  rintro e W8 ⟨rfl, rfl⟩
  go_wp2_with fail
  refine (ren_read H7.out).2.1.mono ?_
  rintro e W9 ⟨rfl, rfl⟩
  go_wp2_with fail
  refine (ren_lost H7.out hl1 hl2).mono ?_
  rintro e W10 ⟨zd, rfl, h1, h2⟩
  have H10 := Lib.hid (And.intro h1 h2)
  clear h1 h2 H7
  go_wp2_with fail
  refine H10.out.2.mono ?_
  rintro e W11 ⟨rfl, rfl⟩
  have hcat := str_append s1 t1
  have hx1 := str_size s1
  have hx2 := str_size t1
  go_wp2_with fail
  refine (ren_read H10.out.1).2.2.2.mono ?_
  rintro e W12 ⟨rfl, h1⟩
  have H12 := Lib.hid h1
  clear h1 H10
  go_wp2_with fail
  refine (ren_read H12.out).2.2.1.mono ?_
  rintro e W13 ⟨rfl, rfl⟩
  have HB : Below W.heap.size W W13 := by
    obtain ⟨x, _, h, _⟩ := H12.out
    exact B1.out.trans (h.chg.below.mono B1.out.size)
  have HBB := Lib.hid HB
  clear HB
  go_wp2_with fail
  go_ret
  exact ⟨rfl, HBB.out⟩
end Go.Proofs.Ythadbhhabngfeaa
