/- RecordMends. -/
import Derived.Test.YtoiooohdenfpmaaQo
namespace Go.Proofs.Ytoiooohdenfpmaa
open Go.RowKit

def MendsI (k d : Nat) (W wr : World) : Prop := ∃ p ts, Left p d (4 * k) (fun _ => False) W wr ∧ Hl p ∧ p.room = 100000 ∧ usedE p.L ≤ 58 * k ∧ bsE (getE p.L [102]) = frs ts ∧ ∀ t ∈ ts, t.length ≤ 50
theorem h102 : ([102] : Nm).length ≤ maxLen := by unfold maxLen; decide
theorem MendsI.add {k d : Nat} {W wr : World} (h : MendsI k d W wr) (hk : k < 5) {s : Nm} (hs : s.length ≤ 50) :
    Calls Try.prog 17 #[.pointer (some ⟨d, 0, none⟩), .string (str [102]), .string (str s)] wr fun e W' => e = .returned (.int .i64 0) ∧ MendsI (k + 1) d W W' := by
  obtain ⟨p, ts, h1, h2, h3, h4, h5, h6⟩ := h
  obtain ⟨q, k1, k2, k3, k4, k5, _⟩ := h2.add (name := [102]) (xs := s) h1.ok (by omega) (by omega)
  refine (h1.on (q := q) (M := 4 * (k + 1)) (r := .returned (.int .i64 0)) fun F h => by
    have := h.add (name := [102]) (xs := s) (by omega) (by decide)
    rw [k1] at this
    exact this).mono ?_
  rintro e W' ⟨rfl, q1⟩
  refine ⟨rfl, q, ts ++ [s], q1, k2, k3.trans h3, by omega, by rw [k5, h5, frs_append, frs_one]; rfl, fun t ht => ?_⟩
  rcases List.mem_append.1 ht with ht | ht
  · exact h6 t ht
  · rw [List.mem_singleton.1 ht]; exact hs
theorem MendsI.drew {k d : Nat} {W wr : World} (h : MendsI k d W wr) : MendsI k d W wr.drew := by
  obtain ⟨p, ts, h1, h2⟩ := h
  exact ⟨p, ts, h1.fresh (Below.refl _ _).drew, h2⟩
theorem MendsI.below {k d : Nat} {W wr : World} (h : MendsI k d W wr) : Below W.heap.size W wr := by
  obtain ⟨p, ts, h1, h2⟩ := h
  exact h1.below
/-- What the law asks of the disk, once all is written. -/
theorem mends_pure {k d : Nat} {W wr : World} (h : MendsI k d W wr) (hk : k ≤ 5) {s : Nm} (hs : s.length ≤ 100) :
    ∃ p p1 q l r, Left p d (4 * k) (fun _ => False) W wr ∧ p.append [102] s = (0, p1) ∧ Fs (bsE (getE p1.L [102])) l r ∧ (p1.Ok → p1.mendW [102] (frs l) = (0, q)) ∧ bsE (getE q.L [102]) = frs l ∧ (∀ t ∈ l, t.length ≤ 65536) ∧ l.length < 1000 := by
  obtain ⟨p, ts, h1, h2, h3, h4, h5, h6⟩ := h
  have ha := h2.append (s := [102]) (xs := s) (by omega)
  have hu := used_app h1.ok [102] s
  obtain ⟨l, r, hF⟩ := Fs.exist (bsE (getE (p.app [102] s).L [102]))
  have hb := hF.len
  have hg : bsE (getE (p.app [102] s).L [102]) = frs ts ++ s := by
    show bsE (getE (putE _ _) _) = _
    rw [getE_put, if_pos rfl, ← h5]
    rfl
  have hlu : (bsE (getE (p.app [102] s).L [102])).length ≤ usedE (p.app [102] s).L := by
    rw [← lenE_eq]
    cases hg2 : getE (p.app [102] s).L [102] with
    | none => exact Nat.zero_le _
    | some e => exact usedE_le hg2
  have hokA : (p.app [102] s).Ok := h1.ok.app (by omega)
  have hrA : (p.app [102] s).room = 100000 := h3
  obtain ⟨q, k1, k2, k3, k4, k5, _⟩ := (show Hl (p.app [102] s) from h2.with _).mend (name := [102]) hokA hF (by omega)
  exact ⟨p, _, q, l, r, h1, ha, hF, fun _ => k1, k5, hF.all, by have := frs_len l; omega⟩
set_option maxRecDepth 100000 in
set_option maxHeartbeats 4000000 in
theorem mends_c {a : Option Addr} {c : Nat} {l : List Nm} {W : World} (hT : Txts W a c l) (hlen : l.length ≤ maxLen) (s : ByteArray) : Calls Try.prog 6 #[.slice a l.length c, .string s] W fun e W' => e = .returned (.bool true) ∧ Below W.heap.size W W' := by
  obtain ⟨ls, rfl⟩ : ∃ ls, s = str ls := ⟨_, (str_of s).symm⟩
  have hls := str_size ls
  have HTS := Lib.hid (str_take ls)
  have HX := Lib.hid (And.intro hT hlen)
  obtain ⟨n, hn⟩ : ∃ n, n = l.length := ⟨_, rfl⟩
  have HN := Lib.hid hn
  rw [← hn]
  have hnm : (n : Int) ≤ 9223372036854775807 := by rw [hn]; unfold maxLen at hlen; omega
  clear hT hlen hn
  go_enter Try.func6, Try.ntmps6
  go_wp2_with fail
  refine (exam_c W).mono ?_
  rintro e W1 ⟨rfl, hb⟩
  have B1 := Lib.hid hb
  clear hb
  go_wp2_with fail
  refine (on_new 100000 (by omega) W1).mono ?_
  rintro e W2 ⟨d, rfl, h1⟩
  have H2 := Lib.hid (show MendsI 0 d W W2 from ⟨_, [], h1.from B1.out, Hl.new _, rfl, Nat.le_refl _, rfl, by simp⟩)
  clear h1 B1
  go_wp2_with fail
  go_loopw [8] (fun i wr => ∃ k : Nat, i = .int .i64 k ∧ k ≤ 5 ∧ k ≤ n ∧ MendsI k d W wr) (fun i _ => 5 - (intOf i).toNat)
  case atStart => exact ⟨0, rfl, by omega, by omega, H2.out⟩
  case round =>
    obtain ⟨k, rfl, hk5, hkn, hi⟩ := hrel
    by_cases hlt : k < n ∧ k < 5
    · obtain ⟨t, ht⟩ : ∃ t, l[k]? = some t := ⟨_, List.getElem?_eq_getElem (by have := HN.out; omega)⟩
      obtain ⟨hlc, hgo⟩ := HX.out.1
      rcases hgo with hnil | ⟨g, o, rfl, hg, hcell⟩
      · rw [hnil] at ht; cases ht
      have HS := Lib.hid (fun (V : World) (hV : V.cell? ⟨g, o + k, none⟩ = some (.string (str t))) => hV)
      have H0 : wr.drew.cell? ⟨g, o + k, none⟩ = some (.string (str t)) := (World.cell?_of_block (hi.below.block g hg)).trans (hcell k t ht)
      have HQ := Lib.hid (fun (V : World) (hV : Below W.heap.size W V) => (World.cell?_of_block (hV.block g hg)).trans (hcell k t ht))
      have hlen := str_size t
      obtain ⟨mm, hmm⟩ : ∃ mm, mm = min t.length 50 := ⟨_, rfl⟩
      have hle : mm ≤ t.length := by omega
      have hst := str_take t mm
      have HM := Lib.hid hmm
      have hzl : (t.take mm).length ≤ 50 := by rw [List.length_take]; omega
      have HA := Lib.hid (hi.drew.add hlt.2 hzl)
      have hki : (k : Int) < (n : Int) := by omega
      have hk5i : (k : Int) < 5 := by omega
      have hci : (n : Int) ≤ (c : Int) := by have := HN.out; omega
      have hw : IntKind.i64.wrap ((k : Int) + 1) = (k : Int) + 1 := IntWalk.i64_in _ (by omega)
      clear hmm hi hcell ht hlc hg hzl H2
      generalize t.take mm = z at *
      go_wp2_with fail
      refine Drawn.start (fun V => V.cell? ⟨g, o + k, none⟩ = some (.string (str t))) (fun _ => false) (by kernel_rfl) ?_
      refine Drawn.take 0 (some 42) (v := ?_) rfl rfl (by kernel_rfl) (by kernel_rfl) (by kernel_rfl) (by kernel_rfl) (by kernel_rfl) rfl (fun _ _ _ h => h) (Or.inl ⟨rfl, ?_⟩) H0 ?_
      rotate_left
      · intro W hW; have hW := HS.out W hW; go_simp; try with_reducible rfl
      simp only [put_list, List.set]
      refine Drawn.take 1 (some 43) (v := ?_) rfl rfl (by kernel_rfl) (by kernel_rfl) (by kernel_rfl) (by kernel_rfl) (by kernel_rfl) rfl (fun _ _ _ h => h) (Or.inl ⟨rfl, ?_⟩) H0 ?_
      rotate_left
      · intro W hW; have hW := HS.out W hW; go_simp; try with_reducible rfl
      simp only [put_list, List.set]
      refine Drawn.take 2 (some 44) (v := ?_) rfl rfl (by kernel_rfl) (by kernel_rfl) (by kernel_rfl) (by kernel_rfl) (by kernel_rfl) rfl (fun _ _ _ h => h) (Or.inl ⟨rfl, ?_⟩) H0 ?_
      rotate_left
      · intro W hW; have hW := HS.out W hW; go_simp; try with_reducible rfl
      simp only [put_list, List.set]
      refine Drawn.take 3 (some 45) (v := ?_) rfl rfl (by kernel_rfl) (by kernel_rfl) (by kernel_rfl) (by kernel_rfl) (by kernel_rfl) rfl (fun _ _ _ h => h) (Or.inl ⟨rfl, ?_⟩) H0 ?_
      rotate_left
      · intro W hW; have hW := HS.out W hW; go_simp; try with_reducible rfl
      simp only [put_list, List.set]
      refine Drawn.take 4 (some 46) (v := ?_) rfl rfl (by kernel_rfl) (by kernel_rfl) (by kernel_rfl) (by kernel_rfl) (by kernel_rfl) rfl (fun _ _ _ h => h) (Or.inl ⟨rfl, ?_⟩) H0 ?_
      rotate_left
      · intro W hW; have hW := HS.out W hW; go_simp; try with_reducible rfl
      simp only [put_list, List.set]
      refine Drawn.take 5 (some 47) (v := ?_) rfl rfl (by kernel_rfl) (by kernel_rfl) (by kernel_rfl) (by kernel_rfl) (by kernel_rfl) rfl (fun _ _ _ h => h) (Or.inl ⟨rfl, ?_⟩) H0 ?_
      rotate_left
      · intro W hW; have hW := HS.out W hW; go_simp; try with_reducible rfl
      simp only [put_list, List.set]
      refine Drawn.take 6 (some 48) (v := ?_) rfl rfl (by kernel_rfl) (by kernel_rfl) (by kernel_rfl) (by kernel_rfl) (by kernel_rfl) rfl (fun _ _ _ h => h) (Or.inl ⟨rfl, ?_⟩) H0 ?_
      rotate_left
      · intro W hW; have hW := HS.out W hW; go_simp; try with_reducible rfl
      simp only [put_list, List.set]
      refine Drawn.take 7 (some 49) (v := ?_) rfl rfl (by kernel_rfl) (by kernel_rfl) (by kernel_rfl) (by kernel_rfl) (by kernel_rfl) rfl (fun _ _ _ h => h) (Or.inl ⟨rfl, ?_⟩) H0 ?_
      rotate_left
      · intro W hW; have hW := HS.out W hW; go_simp; try with_reducible rfl
      simp only [put_list, List.set]
      refine Drawn.take 8 (some 50) (v := ?_) rfl rfl (by kernel_rfl) (by kernel_rfl) (by kernel_rfl) (by kernel_rfl) (by kernel_rfl) rfl (fun _ _ _ h => h) (Or.inl ⟨rfl, ?_⟩) H0 ?_
      rotate_left
      · intro W hW; have hW := HS.out W hW; go_simp; try with_reducible rfl
      simp only [put_list, List.set]
      refine Drawn.take 9 (some 51) (v := ?_) rfl rfl (by kernel_rfl) (by kernel_rfl) (by kernel_rfl) (by kernel_rfl) (by kernel_rfl) rfl (fun _ _ _ h => h) (Or.inl ⟨rfl, ?_⟩) H0 ?_
      rotate_left
      · intro W hW; have hW := HS.out W hW; go_simp; try with_reducible rfl
      simp only [put_list, List.set]
      refine Drawn.take 10 (some 52) (v := .int .i64 (mm : Nat)) rfl rfl (by kernel_rfl) (by kernel_rfl) (by kernel_rfl) (by kernel_rfl) (by kernel_rfl) rfl (fun _ _ _ h => h) (Or.inl ⟨rfl, ?_⟩) H0 ?_
      · intro V hV; have hV := HS.out V hV; go_simp; have := HM.out; omega
      simp only [put_list, List.set]
      refine Drawn.take 11 (some 53) (v := ?_) rfl rfl (by kernel_rfl) (by kernel_rfl) (by kernel_rfl) (by kernel_rfl) (by kernel_rfl) rfl (fun _ _ _ h => h) (Or.inl ⟨rfl, ?_⟩) H0 ?_
      rotate_left
      · intro W hW; have hW := HS.out W hW; go_simp; try with_reducible rfl
      simp only [put_list, List.set]
      refine Drawn.only 12 (by kernel_rfl) rfl rfl (fun K hK => ?_)
      go_simp
      refine HA.out.mono ?_
      rintro e w7 ⟨rfl, hq⟩
      have H1 := HQ.out w7 hq.below
      refine hK _ _ (fun _ _ => H1) ?_
      clear hK K
      have HI := Lib.hid hq
      clear hq
      refine Drawn.take 13 (some 55) (v := ?_) rfl rfl (by kernel_rfl) (by kernel_rfl) (by kernel_rfl) (by kernel_rfl) (by kernel_rfl) rfl (fun _ _ _ h => h) (Or.inl ⟨rfl, ?_⟩) H1 ?_
      rotate_left
      · intro W hW; have hW := HS.out W hW; go_simp; try with_reducible rfl
      simp only [put_list, List.set]
      refine Drawn.done (by kernel_rfl) ?_ _
      clear HS HA H0 H1
      go_wp2_with fail
      go_roundw
      case rel => exact ⟨k + 1, by go_num, by omega, by omega, HI.out⟩
      case measure => simp [intOf]; omega
    · have HI := Lib.hid hi
      clear hi H2
      have hk5 : k ≤ 5 := hk5
      by_cases hki : (k : Int) < (n : Int)
      · have hk5i : ¬ (k : Int) < 5 := by omega
        clear hlt hkn
        go_wp2_with (refine wpList_min2 (by rfl) _ _ _ (by rfl) (ls.length : Int) 100 (by rfl) (by rfl) ?_; intro q0 hq0; obtain ⟨ms, rfl, hms, hms2⟩ := min_nat (k := 100) _ hq0; have ht1 := HTS.out ms; clear hq0)
        have hl1 : (ls.take ms).length ≤ 100 := by rw [List.length_take]; omega
        clear ht1 hms hms2
        obtain ⟨p, p1, q, l1, r1, a1, a2, a3, a4, a5, a6, a7⟩ := mends_pure HI.out hk5 hl1
        generalize ls.take ms = s1 at *
        have R1 := Lib.hid (a1.on (q := p1) (M := 4 * k + 1) (r := .returned (.int .i64 0)) fun F h => by
          have := h.append (s := [102]) (xs := s1) (by omega) h102 (by omega)
          rw [a2] at this
          exact this)
        have HP := Lib.hid (And.intro a3 (And.intro a4 (And.intro a5 (And.intro a6 a7))))
        clear a1 a2 a3 a4 a5 a6 a7 HI
        refine R1.out.mono ?_
        rintro e W4 ⟨rfl, h1⟩
        have H4 := Lib.hid h1
        clear h1 R1
        go_wp2_with fail
        refine (H4.out.allS h102 HP.out.1).mono ?_
        rintro e W5 ⟨v5, rfl, h1, h2⟩
        obtain ⟨va, vc, rfl⟩ := h1.form
        have H5 := Lib.hid (And.intro (H4.out.lk.more h2 (J := fun b => (Value.slice va l1.length vc).ownBlock = some b) fun b hb => h1.lt hb) h1)
        clear h1 h2 H4
        go_wp2_with fail
        have R2 := Lib.hid (H5.out.1.on (q := q) (M := 4 * k + 5) (r := .returned (.int .i64 0)) fun F h => by
          have := h.mend (name := [102]) (by omega) (by decide) HP.out.1
          rw [HP.out.2.1 h.ok] at this
          exact this)
        refine R2.out.mono ?_
        rintro e W6 ⟨rfl, h1, h2⟩
        have H6 := Lib.hid (And.intro h1 (H5.out.2.stay h2 fun b hb => Or.inr hb))
        clear h1 h2 R2 H5
        go_wp2_with fail
        have hF2 : Fs (bsE (getE q.L [102])) l1 [] := by rw [HP.out.2.2.1]; exact Fs.own HP.out.2.2.2.1
        have HF2 := Lib.hid hF2
        refine (H6.out.1.left.allS h102 hF2).mono ?_
        clear hF2
        rintro e W7 ⟨v7, rfl, h1, h2⟩
        obtain ⟨vb, vd, rfl⟩ := h1.form
        have H7 := Lib.hid (And.intro (H6.out.1.more h2 (J := fun b => (Value.slice vb l1.length vd).ownBlock = some b) fun b hb => h1.lt hb) (And.intro (H6.out.2.keep h2) h1))
        clear h1 h2 H6
        go_wp2_with fail
        have hr := H7.out.1.left.read h102
        rw [readV_eq, HP.out.2.2.1] at hr
        generalize Option.isSome _ = ok at hr
        refine hr.mono ?_
        clear hr
        rintro e W8 ⟨rfl, rfl⟩
        go_wp2_with fail
        have hls1 : (frs l1).length ≤ 1048576 := by
          have h1 := bs_le H7.out.1.left.ok [102]
          rw [HP.out.2.2.1] at h1
          have := HP.out.2.2.2.2
          omega
        refine (frames_c (frs l1) (by omega) _).mono ?_
        rintro e W9 ⟨l9, r9, v9, rfl, h1, h2, h3⟩
        obtain ⟨rfl, rfl⟩ := h1.inj (Fs.own HP.out.2.2.2.1)
        obtain ⟨vf, vg, rfl⟩ := h2.form
        have H9 := Lib.hid (And.intro (H7.out.1.fresh h3) (And.intro (H7.out.2.1.keep h3) (H7.out.2.2.keep h3)))
        clear h1 h2 h3 H7
        go_wp2_with fail
        have R3 := Lib.hid (H9.out.1.on (q := q) (M := 4 * k + 9) (r := .returned (.int .i64 0)) fun F h => by
          have := h.mend (name := [102]) (by omega) (by decide) HF2.out
          rw [show q.mendW [102] (frs l9) = (0, q) from if_pos (by rw [HP.out.2.2.1])] at this
          exact this)
        refine R3.out.mono ?_
        rintro e W10 ⟨rfl, h1, h2⟩
        have H10 := Lib.hid (And.intro h1 (And.intro (H9.out.2.1.stay h2 fun b hb => Or.inl (Or.inr hb)) (H9.out.2.2.stay h2 fun b hb => Or.inr hb)))
        clear h1 h2 R3 H9
        go_wp2_with fail
        have hr := H10.out.1.left.read h102
        rw [readV_eq, HP.out.2.2.1] at hr
        generalize Option.isSome _ = ok2 at hr
        refine hr.mono ?_
        clear hr
        rintro e W11 ⟨rfl, rfl⟩
        go_wp2_with fail
        have hs := same_c H10.out.2.1 H10.out.2.2 (by have := HP.out.2.2.2.2; omega)
        rw [show decide (l9 = l9) = true from decide_eq_true rfl] at hs
        refine hs.mono ?_
        clear hs
        rintro e W12 ⟨rfl, h1⟩
        have HB := Lib.hid ((H10.out.1.left.fresh h1).below)
        clear h1 H10 HP HF2
        have hzz := str_size (frs l9)
        have hqq : ((str (frs l9)).toList == (str (frs l9)).toList) = true := by simp
        generalize str (frs l9) = zz at *
        generalize (frs l9).length = nn at *
        go_wp2_with fail
        go_ret
        exact ⟨rfl, HB.out⟩
      · clear hlt hkn
        go_wp2_with (refine wpList_min2 (by rfl) _ _ _ (by rfl) (ls.length : Int) 100 (by rfl) (by rfl) ?_; intro q0 hq0; obtain ⟨ms, rfl, hms, hms2⟩ := min_nat (k := 100) _ hq0; have ht1 := HTS.out ms; clear hq0)
        have hl1 : (ls.take ms).length ≤ 100 := by rw [List.length_take]; omega
        clear ht1 hms hms2
        obtain ⟨p, p1, q, l1, r1, a1, a2, a3, a4, a5, a6, a7⟩ := mends_pure HI.out hk5 hl1
        generalize ls.take ms = s1 at *
        have R1 := Lib.hid (a1.on (q := p1) (M := 4 * k + 1) (r := .returned (.int .i64 0)) fun F h => by
          have := h.append (s := [102]) (xs := s1) (by omega) h102 (by omega)
          rw [a2] at this
          exact this)
        have HP := Lib.hid (And.intro a3 (And.intro a4 (And.intro a5 (And.intro a6 a7))))
        clear a1 a2 a3 a4 a5 a6 a7 HI
        refine R1.out.mono ?_
        rintro e W4 ⟨rfl, h1⟩
        have H4 := Lib.hid h1
        clear h1 R1
        go_wp2_with fail
        refine (H4.out.allS h102 HP.out.1).mono ?_
        rintro e W5 ⟨v5, rfl, h1, h2⟩
        obtain ⟨va, vc, rfl⟩ := h1.form
        have H5 := Lib.hid (And.intro (H4.out.lk.more h2 (J := fun b => (Value.slice va l1.length vc).ownBlock = some b) fun b hb => h1.lt hb) h1)
        clear h1 h2 H4
        go_wp2_with fail
        have R2 := Lib.hid (H5.out.1.on (q := q) (M := 4 * k + 5) (r := .returned (.int .i64 0)) fun F h => by
          have := h.mend (name := [102]) (by omega) (by decide) HP.out.1
          rw [HP.out.2.1 h.ok] at this
          exact this)
        refine R2.out.mono ?_
        rintro e W6 ⟨rfl, h1, h2⟩
        have H6 := Lib.hid (And.intro h1 (H5.out.2.stay h2 fun b hb => Or.inr hb))
        clear h1 h2 R2 H5
        go_wp2_with fail
        have hF2 : Fs (bsE (getE q.L [102])) l1 [] := by rw [HP.out.2.2.1]; exact Fs.own HP.out.2.2.2.1
        have HF2 := Lib.hid hF2
        refine (H6.out.1.left.allS h102 hF2).mono ?_
        clear hF2
        rintro e W7 ⟨v7, rfl, h1, h2⟩
        obtain ⟨vb, vd, rfl⟩ := h1.form
        have H7 := Lib.hid (And.intro (H6.out.1.more h2 (J := fun b => (Value.slice vb l1.length vd).ownBlock = some b) fun b hb => h1.lt hb) (And.intro (H6.out.2.keep h2) h1))
        clear h1 h2 H6
        go_wp2_with fail
        have hr := H7.out.1.left.read h102
        rw [readV_eq, HP.out.2.2.1] at hr
        generalize Option.isSome _ = ok at hr
        refine hr.mono ?_
        clear hr
        rintro e W8 ⟨rfl, rfl⟩
        go_wp2_with fail
        have hls1 : (frs l1).length ≤ 1048576 := by
          have h1 := bs_le H7.out.1.left.ok [102]
          rw [HP.out.2.2.1] at h1
          have := HP.out.2.2.2.2
          omega
        refine (frames_c (frs l1) (by omega) _).mono ?_
        rintro e W9 ⟨l9, r9, v9, rfl, h1, h2, h3⟩
        obtain ⟨rfl, rfl⟩ := h1.inj (Fs.own HP.out.2.2.2.1)
        obtain ⟨vf, vg, rfl⟩ := h2.form
        have H9 := Lib.hid (And.intro (H7.out.1.fresh h3) (And.intro (H7.out.2.1.keep h3) (H7.out.2.2.keep h3)))
        clear h1 h2 h3 H7
        go_wp2_with fail
        have R3 := Lib.hid (H9.out.1.on (q := q) (M := 4 * k + 9) (r := .returned (.int .i64 0)) fun F h => by
          have := h.mend (name := [102]) (by omega) (by decide) HF2.out
          rw [show q.mendW [102] (frs l9) = (0, q) from if_pos (by rw [HP.out.2.2.1])] at this
          exact this)
        refine R3.out.mono ?_
        rintro e W10 ⟨rfl, h1, h2⟩
        have H10 := Lib.hid (And.intro h1 (And.intro (H9.out.2.1.stay h2 fun b hb => Or.inl (Or.inr hb)) (H9.out.2.2.stay h2 fun b hb => Or.inr hb)))
        clear h1 h2 R3 H9
        go_wp2_with fail
        have hr := H10.out.1.left.read h102
        rw [readV_eq, HP.out.2.2.1] at hr
        generalize Option.isSome _ = ok2 at hr
        refine hr.mono ?_
        clear hr
        rintro e W11 ⟨rfl, rfl⟩
        go_wp2_with fail
        have hs := same_c H10.out.2.1 H10.out.2.2 (by have := HP.out.2.2.2.2; omega)
        rw [show decide (l9 = l9) = true from decide_eq_true rfl] at hs
        refine hs.mono ?_
        clear hs
        rintro e W12 ⟨rfl, h1⟩
        have HB := Lib.hid ((H10.out.1.left.fresh h1).below)
        clear h1 H10 HP HF2
        have hzz := str_size (frs l9)
        have hqq : ((str (frs l9)).toList == (str (frs l9)).toList) = true := by simp
        generalize str (frs l9) = zz at *
        generalize (frs l9).length = nn at *
        go_wp2_with fail
        go_ret
        exact ⟨rfl, HB.out⟩
end Go.Proofs.Ytoiooohdenfpmaa
