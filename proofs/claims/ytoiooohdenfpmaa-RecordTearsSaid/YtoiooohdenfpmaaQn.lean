/- RecordTears. -/
import Derived.Test.YtoiooohdenfpmaaQm
namespace Go.Proofs.Ytoiooohdenfpmaa
open Go.RowKit

/-- What stands on the disk behind the tear, and behind the mending. -/
theorem tears_pure {s t : Nm} (hs : s.length ≤ 100) (ht : t.length ≤ 100) {k : Nat} (hk : k < (fr s).length) (hp : (Pd.new 10000).Ok) :
    ∃ p, (Pd.new 10000).append [102] ((fr s).take k) = (0, p) ∧ Fs (bsE (getE p.L [102])) [] ((fr s).take k) ∧ (p.Ok → ∃ q, p.mendW [102] (frs []) = (0, q) ∧ (q.Ok → ∃ z, q.add [102] t = (0, z) ∧ bsE (getE z.L [102]) = fr t)) := by
  have hfl := fr_len s
  have hl : ((fr s).take k).length = k := by rw [List.length_take]; omega
  have hH := Hl.new 10000
  have ha := hH.append (s := [102]) (xs := (fr s).take k) (by rw [hl]; show 0 + k ≤ 10000; omega)
  have hg : getE ((Pd.new 10000).app [102] ((fr s).take k)).L [102] = some ⟨[102], (fr s).take k, 0⟩ := by
    show getE (putE _ _) _ = _
    rw [getE_put, if_pos rfl]
    rfl
  have hHp : Hl ((Pd.new 10000).app [102] ((fr s).take k)) := hH.with _
  have hu := used_app hp [102] ((fr s).take k)
  rw [hl] at hu
  have hu0 : usedE (Pd.new 10000).L = 0 := rfl
  refine ⟨_, ha, ?_, fun hpO => ?_⟩
  · rw [hg]
    exact ⟨rfl, by simp, firstP_cut (by omega) hk⟩
  · obtain ⟨q, h1, h2, h3, h4, h5, _⟩ := hHp.mend (name := [102]) (l := []) (r := (fr s).take k) hpO (by rw [hg]; exact ⟨rfl, by simp, firstP_cut (by omega) hk⟩) (by show usedE _ + 0 ≤ 10000; omega)
    refine ⟨q, h1, fun hqO => ?_⟩
    rw [show (frs []).length = 0 from rfl] at h4
    obtain ⟨z, k1, k2, k3, k4, k5, k6⟩ := h2.add (name := [102]) (xs := t) hqO (by omega) (by rw [h3]; show _ ≤ 10000; omega)
    exact ⟨z, k1, by rw [k5, h5]; rfl⟩
set_option maxRecDepth 100000 in
set_option maxHeartbeats 4000000 in
theorem tears_c (s t : ByteArray) (n : Nat) (hn : n < 256) (W : World) : Calls Try.prog 8 #[.string s, .string t, .int .u8 (n : Nat)] W fun e W' => e = .returned (.bool true) ∧ Below W.heap.size W W' := by
  obtain ⟨ls, rfl⟩ : ∃ ls, s = str ls := ⟨_, (str_of s).symm⟩
  obtain ⟨lt, rfl⟩ : ∃ lt, t = str lt := ⟨_, (str_of t).symm⟩
  have hls := str_size ls
  have hlt := str_size lt
  have HTS := Lib.hid (And.intro (str_take ls) (str_take lt))
  go_enter Try.func8, Try.ntmps8
  go_wp2_with fail
  refine (exam_c W).mono ?_
  rintro e W1 ⟨rfl, hb⟩
  have B1 := Lib.hid hb
  clear hb
  go_wp2_with (first
    | (refine wpList_min2 (by rfl) _ _ _ (by rfl) (ls.length : Int) 100 (by rfl) (by rfl) ?_; intro q0 hq0; obtain ⟨ms, rfl, hms, hms2⟩ := min_nat (k := 100) _ hq0; have ht1 := HTS.out.1 ms; clear hq0)
    | (refine wpList_min2 (by rfl) _ _ _ (by rfl) (lt.length : Int) 100 (by rfl) (by rfl) ?_; intro q1 hq1; obtain ⟨mt, rfl, hmt, hmt2⟩ := min_nat (k := 100) _ hq1; have ht2 := HTS.out.2 mt; clear hq1))
  have hl1 : (ls.take ms).length ≤ 100 := by rw [List.length_take]; omega
  have hl2 : (lt.take mt).length ≤ 100 := by rw [List.length_take]; omega
  clear ht1 ht2 HTS hms hms2 hmt hmt2 hls hlt
  generalize ls.take ms = s1 at *
  generalize lt.take mt = t1 at *
  refine (on_new 10000 (by omega) W1).mono ?_
  rintro e W2 ⟨d, rfl, h1⟩
  have H2 := Lib.hid (h1.from B1.out)
  clear h1
  go_wp2_with fail
  refine (frame_c s1 (by omega) _).mono ?_
  rintro e W3 ⟨rfl, hb⟩
  have H3 := Lib.hid (H2.out.fresh hb)
  clear hb H2 B1
  have hfz := str_size (fr s1)
  rw [fr_len] at hfz
  have hmod : (n : Int).tmod ((s1.length : Int) + 8) = ((n % (s1.length + 8) : Nat) : Int) := by
    rw [Int.tmod_eq_emod_of_nonneg (by omega)]; simp
  have hml : n % (s1.length + 8) < s1.length + 8 := Nat.mod_lt _ (by omega)
  have HP := Lib.hid (tears_pure hl1 hl2 (k := n % (s1.length + 8)) (by rw [fr_len]; exact hml) (by have := H3.out.ok; exact this))
  have hcut := str_take (fr s1) (n % (s1.length + 8))
  generalize n % (s1.length + 8) = k at *
  go_wp2_with fail
  obtain ⟨p1, a1, a2, a3⟩ := HP.out
  have h102 : ([102] : Nm).length ≤ maxLen := by unfold maxLen; decide
  have hck : ((fr s1).take k).length ≤ 108 := by rw [List.length_take, fr_len]; omega
  have R1 := Lib.hid (H3.out.on (q := p1) (M := 1) (r := .returned (.int .i64 0)) fun F h => by
    have := h.append (s := [102]) (xs := (fr s1).take k) (by omega) h102 (by omega)
    rw [a1] at this
    exact this)
  clear HP H3 hck hmod hml hcut hfz a1
  refine R1.out.mono ?_
  rintro e W4 ⟨rfl, h1⟩
  have H4 := Lib.hid (And.intro h1 (a3 h1.ok))
  clear h1 R1 a3
  go_wp2_with fail
  refine (H4.out.1.allS h102 a2).mono ?_
  rintro e W5 ⟨v5, rfl, h1, h2⟩
  obtain ⟨va, vc, rfl⟩ := h1.form
  have H5 := Lib.hid (H4.out.1.fresh h2)
  obtain ⟨p2, b1, b2⟩ := H4.out.2
  clear h1 h2 H4
  go_wp2_with fail
  have R2 := Lib.hid (H5.out.on (q := p2) (M := 5) (r := .returned (.int .i64 0)) fun F h => by
    have := h.mend (name := [102]) (by omega) (by decide) a2
    rw [b1] at this
    exact this)
  refine R2.out.mono ?_
  rintro e W6 ⟨rfl, h1⟩
  obtain ⟨p3, c1, c2⟩ := b2 h1.ok
  have H6 := Lib.hid h1
  clear h1 R2 H5 b2 b1
  go_wp2_with fail
  have R3 := Lib.hid (H6.out.on (q := p3) (M := 9) (r := .returned (.int .i64 0)) fun F h => by
    have := h.add (name := [102]) (xs := t1) (by omega) (by decide)
    rw [c1] at this
    exact this)
  refine R3.out.mono ?_
  rintro e W7 ⟨rfl, h1⟩
  have H7 := Lib.hid h1
  clear h1 R3 H6 c1
  go_wp2_with fail
  refine (H7.out.allS (l := [t1]) (r := []) h102 (by rw [c2, ← frs_one]; exact Fs.own (by simpa using (by omega : t1.length ≤ 65536)))).mono ?_
  rintro e W8 ⟨v8, rfl, h1, h2⟩
  obtain ⟨g, c, rfl, _, _, q3⟩ := h1.ptr (n := 0) rfl
  have c0 := h1.cell (k := 0) rfl rfl
  have HB := Lib.hid ((H7.out.fresh h2).below)
  clear h1 h2 H7 c2
  have hq : ((str t1).toList == (str t1).toList) = true := by simp
  have hci : (1 : Int) ≤ (c : Int) := by omega
  go_wp2_with fail
  go_ret
  exact ⟨rfl, HB.out⟩
end Go.Proofs.Ytoiooohdenfpmaa
