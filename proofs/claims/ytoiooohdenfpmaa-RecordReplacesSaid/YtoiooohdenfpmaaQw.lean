/- RecordReplaces. -/
import Derived.Test.YtoiooohdenfpmaaQv
namespace Go.Proofs.Ytoiooohdenfpmaa
open Go.RowKit

theorem pd_new_ok {room : Nat} (h : room ≤ 1048576) : (Pd.new room).Ok := ⟨trivial, Nat.zero_le _, h, ⟨by show _ ≤ (-1 : Int); omega, by show (-1 : Int) ≤ _; omega⟩, by intro e he; cases he⟩
theorem Left.lost {p : Pd} {d N : Nat} {G : Nat → Prop} {W0 W : World} (h : Left p d N G W0 W) (hN : N < 999000) (hB : p.room * N ≤ 100000000) (keep : Int) :
    Calls Try.prog 19 #[.pointer (some ⟨d, 0, none⟩), .int .i64 keep] W fun e W' => ∃ zd, e = .returned (.pointer (some ⟨zd, 0, none⟩)) ∧ Left (p.lost keep) zd N (fun _ => False) W W' := by
  obtain ⟨F, h1, h2⟩ := h
  exact h1.lost hN hB keep
set_option maxRecDepth 100000 in
set_option maxHeartbeats 4000000 in
theorem replaces_c (s t u : ByteArray) (n : Nat) (hn : n < 256) (keep torn : Int) (W : World) : Calls Try.prog 5 #[.string s, .string t, .string u, .int .u8 (n : Nat), .int .i64 keep, .int .i64 torn] W fun e W' => e = .returned (.bool true) ∧ Below W.heap.size W W' := by
  obtain ⟨ls, rfl⟩ : ∃ ls, s = str ls := ⟨_, (str_of s).symm⟩
  obtain ⟨lt, rfl⟩ : ∃ lt, t = str lt := ⟨_, (str_of t).symm⟩
  obtain ⟨lu, rfl⟩ : ∃ lu, u = str lu := ⟨_, (str_of u).symm⟩
  have hls := str_size ls
  have hlt := str_size lt
  have hlu := str_size lu
  have HTS := Lib.hid (And.intro (str_take ls) (And.intro (str_take lt) (str_take lu)))
  obtain ⟨a, ha⟩ : ∃ a, a = n % 8 := ⟨_, rfl⟩
  have HA := Lib.hid (show (n : Int) % 8 = (a : Int) ∧ a < 8 by omega)
  clear ha
  go_enter Try.func5, Try.ntmps5
  go_wp2_with fail
  refine (exam_c W).mono ?_
  rintro e W1 ⟨rfl, hb⟩
  have B1 := Lib.hid hb
  clear hb
  go_wp2_with (first
    | (refine wpList_min2 (by rfl) _ _ _ (by rfl) (ls.length : Int) 100 (by rfl) (by rfl) ?_; intro q0 hq0; obtain ⟨ms, rfl, hms, hms2⟩ := min_nat (k := 100) _ hq0; have ht1 := HTS.out.1 ms; clear hq0)
    | (refine wpList_min2 (by rfl) _ _ _ (by rfl) (lt.length : Int) 100 (by rfl) (by rfl) ?_; intro q1 hq1; obtain ⟨mt, rfl, hmt, hmt2⟩ := min_nat (k := 100) _ hq1; have ht2 := HTS.out.2.1 mt; clear hq1)
    | (refine wpList_min2 (by rfl) _ _ _ (by rfl) (lu.length : Int) 100 (by rfl) (by rfl) ?_; intro q2 hq2; obtain ⟨mu, rfl, hmu, hmu2⟩ := min_nat (k := 100) _ hq2; have ht3 := HTS.out.2.2 mu; clear hq2))
  have hl1 : (ls.take ms).length ≤ 100 := by rw [List.length_take]; omega
  have hl2 : (lt.take mt).length ≤ 100 := by rw [List.length_take]; omega
  have hl3 : (lu.take mu).length ≤ 100 := by rw [List.length_take]; omega
  clear ht1 ht2 ht3 HTS hms hms2 hmt hmt2 hmu hmu2 hls hlt hlu
  generalize ls.take ms = s1 at *
  generalize lt.take mt = t1 at *
  generalize lu.take mu = u1 at *
  obtain ⟨q1, a1, a2⟩ := replaces_pure hl1 hl2 hl3 a torn (pd_new_ok (by omega))
  refine (on_new 10000 (by omega) W1).mono ?_
  rintro e W2 ⟨d, rfl, h1⟩
  have H2 := Lib.hid (h1.from B1.out)
  clear h1 B1
  go_wp2_with fail
  have R1 := Lib.hid (H2.out.on (q := q1) (M := 4) (r := .returned (.int .i64 0)) fun F h => by
    have := h.replace (name := nF) (xs := s1) (by omega) (by decide)
    rw [a1] at this
    exact this)
  refine R1.out.mono ?_
  rintro e W3 ⟨rfl, h1⟩
  obtain ⟨q2, b1, b2⟩ := a2 h1.ok
  have H3 := Lib.hid h1
  clear h1 R1 H2 a1 a2
  go_wp2_with fail
  have R2 := Lib.hid (H3.out.on (q := q2) (M := 8) (r := .returned (.int .i64 0)) fun F h => by
    have := h.add (name := nL) (xs := s1) (by omega) (by decide)
    rw [b1] at this
    exact this)
  refine R2.out.mono ?_
  rintro e W4 ⟨rfl, h1⟩
  have H4 := Lib.hid h1
  clear h1 R2 H3 b1
  go_wp2_with fail
  rw [HA.out.1]
  have R3 := Lib.hid (H4.out.on (q := { q2 with after := (a : Int), torn := torn }) (M := 9) (r := .returned (.tuple #[])) fun F h => h.arm (a : Int) torn (by have := HA.out.2; omega))
  refine R3.out.mono ?_
  rintro e W5 ⟨rfl, h1⟩
  obtain ⟨ra, q4, rb, q5, c1, c2, c3, c4⟩ := b2 h1.ok
  have H5 := Lib.hid h1
  clear h1 R3 H4 b2
  go_wp2_with fail
  have R4 := Lib.hid (H5.out.on (q := q4) (M := 13) (r := .returned (.int .i64 ra)) fun F h => by
    have := h.replace (name := nF) (xs := t1) (by omega) (by decide)
    rw [c1] at this
    exact this)
  refine R4.out.mono ?_
  rintro e W6 ⟨rfl, h1⟩
  have H6 := Lib.hid h1
  clear h1 R4 H5 c1
  go_wp2_with fail
  have R5 := Lib.hid (H6.out.on (q := q5) (M := 17) (r := .returned (.int .i64 rb)) fun F h => by
    have := h.add (name := nL) (xs := u1) (by omega) (by decide)
    rw [c2] at this
    exact this)
  refine R5.out.mono ?_
  rintro e W7 ⟨rfl, h1⟩
  have H7 := Lib.hid h1
  clear h1 R5 H6 c2
  go_wp2_with fail
  obtain ⟨l, r, q7, v, d1, d2, d3, d4, d5, d6, d7, d8⟩ := c4 keep
  refine (H7.out.lost (by omega) (by rw [c3]; omega) keep).mono ?_
  rintro e W8 ⟨zd, rfl, h1⟩
  have H8 := Lib.hid (h1.from H7.out.below)
  clear h1 H7 c3 c4
  go_wp2_with fail
  have R6 := Lib.hid (H8.out.on (q := q7) (M := 21) (r := .returned (.int .i64 0)) fun F h => by
    have := h.mend (name := nL) (by omega) (by decide) d1
    rw [d2] at this
    exact this)
  refine R6.out.mono ?_
  rintro e W9 ⟨rfl, h1⟩
  have H9 := Lib.hid h1
  clear h1 R6 H8 d2
  go_wp2_with fail
  have hv100 : v.length ≤ 65536 := by rcases d6 with rfl | rfl <;> omega
  have hw := H9.out.whole (name := nF) (by unfold maxLen nF; decide)
  rw [d4, whole_one hv100, firstV] at hw
  refine hw.mono ?_
  clear hw
  rintro e W10 ⟨rfl, hb⟩
  have H10 := Lib.hid (H9.out.fresh hb)
  clear hb H9
  go_wp2_with fail
  refine (H10.out.allS (name := nL) (by unfold maxLen nL; decide) (l := l) (r := []) (by rw [d3]; exact Fs.own d1.all)).mono ?_
  rintro e W11 ⟨v11, rfl, h1, h2⟩
  have HB := Lib.hid ((H10.out.fresh h2).below)
  clear h2 H10 d1 d3 d4 hv100
  have hss : ((str s1).toList == (str s1).toList) = true := by simp
  have huu : ((str u1).toList == (str u1).toList) = true := by simp
  have htt : ((str t1).toList == (str t1).toList) = true := by simp
  have HC : ∃ bs bt : Bool, ((str v).toList == (str s1).toList) = bs ∧ ((str v).toList == (str t1).toList) = bt ∧ ((bs = true ∧ bt = true ∧ ra = 0) ∨ (bs = true ∧ bt = true ∧ ¬ ra = 0) ∨ (bs = false ∧ bt = true ∧ ra = 0) ∨ (bs = false ∧ bt = true ∧ ¬ ra = 0) ∨ (bs = true ∧ bt = false ∧ ¬ ra = 0)) := by
    refine ⟨_, _, rfl, rfl, ?_⟩
    rw [str_toList, str_toList, str_toList]
    have hsb : v = s1 ∨ v ≠ s1 := Classical.em _
    have htb : v = t1 ∨ v ≠ t1 := Classical.em _
    have hrb : ra = 0 ∨ ra ≠ 0 := Classical.em _
    simp only [beq_iff_eq, beq_eq_false_iff_ne]
    rcases hsb with hsb | hsb <;> rcases htb with htb | htb <;> rcases hrb with hrb | hrb
    · exact Or.inl ⟨hsb, htb, hrb⟩
    · exact Or.inr (Or.inl ⟨hsb, htb, hrb⟩)
    · exact absurd (d7 hrb) htb
    · exact Or.inr (Or.inr (Or.inr (Or.inr ⟨hsb, htb, hrb⟩)))
    · exact Or.inr (Or.inr (Or.inl ⟨hsb, htb, hrb⟩))
    · exact Or.inr (Or.inr (Or.inr (Or.inl ⟨hsb, htb, hrb⟩)))
    · exact absurd (d7 hrb) htb
    · rcases d6 with d6 | d6
      · exact absurd d6 hsb
      · exact absurd d6 htb
  clear d6 d7 hl1 hl2 hl3 hn HA
  obtain ⟨bs, bt, e1, e2, HC⟩ := HC
  generalize str v = sv at *
  generalize str t1 = st at *
  rcases d5 with rfl | rfl
  · have hrb : ¬ rb = 0 := by
      intro h
      have := congrArg List.length (d8 h)
      simp at this
    obtain ⟨g, c, rfl, _, _, q3⟩ := h1.ptr (n := 0) rfl
    have c0 := h1.cell (k := 0) rfl rfl
    have hci : (1 : Int) ≤ (c : Int) := by omega
    clear h1 d8 q3
    rcases HC with ⟨rfl, rfl, rfl⟩ | ⟨rfl, rfl, hra⟩ | ⟨rfl, rfl, rfl⟩ | ⟨rfl, rfl, hra⟩ | ⟨rfl, rfl, hra⟩
    all_goals
      go_wp2_with fail
      go_ret
      exact ⟨rfl, HB.out⟩
  · obtain ⟨g, c, rfl, _, _, q3⟩ := h1.ptr (n := 1) rfl
    have c0 := h1.cell (k := 0) rfl rfl
    have c1 := h1.cell (k := 1) rfl rfl
    have hci : (2 : Int) ≤ (c : Int) := by omega
    clear h1 d8 q3
    rcases Classical.em (rb = 0) with rfl | hrb
    all_goals
      rcases HC with ⟨rfl, rfl, rfl⟩ | ⟨rfl, rfl, hra⟩ | ⟨rfl, rfl, rfl⟩ | ⟨rfl, rfl, hra⟩ | ⟨rfl, rfl, hra⟩
    all_goals
      go_wp2_with fail
      go_ret
      exact ⟨rfl, HB.out⟩
end Go.Proofs.Ytoiooohdenfpmaa
