/- RecordAdds. -/
import Derived.Test.YtoiooohdenfpmaaQp
namespace Go.Proofs.Ytoiooohdenfpmaa
open Go.RowKit

section
variable {p q : Pd} {d N M : Nat} {K J : Nat → Prop} {W0 W W' : World}
theorem OwnS.drewS {B : Nat} {l : List Nm} {v : Value} {W : World} (h : OwnS B l v W) : OwnS B l v W.drew := own_keep h fun _ _ => rfl
theorem Lk.grown (h : Lk p d N K W0 W) {row : Option Nat} (hg : W.grownBy W' row) (hrow : ∀ k, row = some k → K k) (hB : ∀ k, row = some k → W0.heap.size ≤ k) : Lk p d N (fun k => K k ∨ (W.heap.size ≤ k ∧ k < W'.heap.size)) W0 W' := by
  obtain ⟨F, h1, h2, h3⟩ := h
  have hk : ∀ k, F k → W'.heap[k]? = W.heap[k]? := fun k hf => hg.block k (h1.lt hf) (fun e => (h3 k (hrow k e.symm)).1 hf)
  refine ⟨F, h1.kept hk, ⟨hg.os.trans h2.os, hg.tape.trans h2.tape, hg.output.trans h2.output, Nat.le_trans h2.size hg.size, fun k hk1 _ => (hg.block k (Nat.lt_of_lt_of_le hk1 h2.size) (fun e => by have := hB k e.symm; omega)).trans (h2.block k hk1 (fun h => h)), h2.new⟩, fun k hk2 => ?_⟩
  rcases hk2 with hk2 | hk2
  · exact ⟨(h3 k hk2).1, Nat.lt_of_lt_of_le (h3 k hk2).2 hg.size⟩
  · exact ⟨fun hf => by have := h1.lt hf; omega, hk2.2⟩
theorem Lk.onlyK (h : Lk p d N K W0 W) (hJ : ∀ k, J k → K k) : Lk p d N J W0 W := by
  obtain ⟨F, h1, h2, h3⟩ := h
  exact ⟨F, h1, h2, fun k hk => h3 k (hJ k hk)⟩
theorem Lk.mono (h : Lk p d N K W0 W) (hM : N ≤ M) : Lk p d M K W0 W := by
  obtain ⟨F, h1, h2, h3⟩ := h
  exact ⟨F, h1.mono hM, h2, h3⟩
end
theorem make_zeros (W : World) : (Instr.makeSlice 26 (.int .i64 65537) (.int .i64 65537)).run Try.prog W = .ok (.slice (some ⟨W.heap.size, 0, none⟩) 65537 65537) (W.alloc (.cells (madeCells #[.int .u8 0] 65537) 5)) := by
  obtain ⟨i0, hi, hz0, hz1, hz2⟩ := info_parts infoByte
  have h := run_makeSlice (P := Try.prog) W 26 5 i0 _ Try.underlying26 hi hz0 .i64 .i64 65537 65537 (by omega) (by omega) (by rw [hz1]; decide) (by rw [hz2]; decide) (by decide)
  rw [hz1] at h
  exact h
/-- The loop of RecordAdds: k texts are added. -/
def AddsI (k d : Nat) (ts : List Nm) (p : Pd) (v : Value) (W wr : World) : Prop :=
  ts.length = k ∧ OwnS W.heap.size ts v wr ∧ Lk p d (4 * k) (fun b => v.ownBlock = some b) W wr ∧ Hl p ∧ p.room = 100000 ∧ usedE p.L ≤ 68 * k ∧ bsE (getE p.L [102]) = frs ts ∧ (∀ t ∈ ts, t.length ≤ 60) ∧ ∀ t, t ≠ [102] → getE p.L t = none
theorem AddsI.next {k d : Nat} {ts : List Nm} {p : Pd} {v : Value} {W wr : World} (h : AddsI k d ts p v W wr) (hk : k < 8) {z : Nm} (hz : z.length ≤ 60) : ∃ q, p.add [102] z = (0, q) ∧ Hl q ∧ q.room = 100000 ∧ usedE q.L ≤ 68 * k + 68 ∧ bsE (getE q.L [102]) = frs (ts ++ [z]) ∧ (∀ t ∈ ts ++ [z], t.length ≤ 65536) ∧ (∀ t ∈ ts ++ [z], t.length ≤ 60) ∧ ∀ t, t ≠ [102] → getE q.L t = none := by
  obtain ⟨h1, h2, h3, h4, h5, h6, h7, h8, h9⟩ := h
  obtain ⟨q, k1, k2, k3, k4, k5, k6⟩ := h4.add (name := [102]) (xs := z) h3.left.ok (by omega) (by omega)
  have hall : ∀ t ∈ ts ++ [z], t.length ≤ 60 := fun t ht => by
    rcases List.mem_append.1 ht with ht | ht
    · exact h8 t ht
    · rw [List.mem_singleton.1 ht]; exact hz
  exact ⟨q, k1, k2, k3.trans h5, by omega, by rw [k5, h7, frs_append, frs_one]; rfl, fun t ht => Nat.le_trans (hall t ht) (by omega), hall, fun t ht => (k6 t ht).trans (h9 t ht)⟩
set_option maxRecDepth 100000 in
set_option maxHeartbeats 2000000 in
theorem adds_c {a : Option Addr} {c : Nat} {l : List Nm} {W : World} (hT : Txts W a c l) (hlen : l.length ≤ maxLen) : Calls Try.prog 7 #[.slice a l.length c] W fun e W' => e = .returned (.bool true) ∧ Below W.heap.size W W' := by
  have HX := Lib.hid (And.intro hT hlen)
  obtain ⟨n, hn⟩ : ∃ n, n = l.length := ⟨_, rfl⟩
  have HN := Lib.hid hn
  rw [← hn]
  have hnm : (n : Int) ≤ 9223372036854775807 := by rw [hn]; unfold maxLen at hlen; omega
  clear hT hlen hn
  go_enter Try.func7, Try.ntmps7
  go_wp2_with fail
  refine (exam_c W).mono ?_
  rintro e W1 ⟨rfl, hb⟩
  have B1 := Lib.hid hb
  clear hb
  go_wp2_with fail
  refine (on_new 100000 (by omega) W1).mono ?_
  rintro e W2 ⟨d, rfl, h1⟩
  have H2 := Lib.hid (show AddsI 0 d [] (Pd.new 100000) (.slice none 0 0) W W2 from ⟨rfl, World.ownsRow_nil _ _ _ _, (h1.from B1.out).lk.onlyK (fun b hb => by cases hb), Hl.new _, rfl, Nat.le_refl _, rfl, by simp, fun _ _ => rfl⟩)
  clear h1 B1
  go_wp2_with fail
  go_loopw [6, 7] (fun v i wr => ∃ (k : Nat) (ts : List Nm) (p : Pd), i = .int .i64 k ∧ k ≤ 8 ∧ k ≤ n ∧ AddsI k d ts p v W wr) (fun _ i _ => 8 - (intOf i).toNat)
  case atStart => exact ⟨0, [], _, rfl, by omega, by omega, H2.out⟩
  case round =>
    obtain ⟨k, ts, p, rfl, hk8, hkn, hi⟩ := hrel
    obtain ⟨va, vc, rfl⟩ := hi.2.1.form
    by_cases hlt : k < n ∧ k < 8
    · obtain ⟨t, ht⟩ : ∃ t, l[k]? = some t := ⟨_, List.getElem?_eq_getElem (by have := HN.out; omega)⟩
      obtain ⟨hlc, hgo⟩ := HX.out.1
      rcases hgo with hnil | ⟨g, o, rfl, hg, hcell⟩
      · rw [hnil] at ht; cases ht
      have HS := Lib.hid (fun (V : World) (hV : V.cell? ⟨g, o + k, none⟩ = some (.string (str t))) => hV)
      have H0 : wr.drew.cell? ⟨g, o + k, none⟩ = some (.string (str t)) := (World.cell?_of_block (hi.2.2.1.left.below.block g hg)).trans (hcell k t ht)
      have hlen := str_size t
      obtain ⟨mm, hmm⟩ : ∃ mm, mm = min t.length 60 := ⟨_, rfl⟩
      have hle : mm ≤ t.length := by omega
      have hst := str_take t mm
      have HM := Lib.hid hmm
      have hzl : (t.take mm).length ≤ 60 := by rw [List.length_take]; omega
      obtain ⟨q, k1, k2, k3, k4, k5, k6, k7, k8⟩ := hi.next hlt.2 hzl
      have hki : (k : Int) < (n : Int) := by omega
      have hk8i : (k : Int) < 8 := by omega
      have hci : (n : Int) ≤ (c : Int) := by have := HN.out; omega
      have hw : IntKind.i64.wrap ((k : Int) + 1) = (k : Int) + 1 := IntWalk.i64_in _ (by omega)
      have HI := Lib.hid hi
      obtain ⟨ts', hts⟩ : ∃ ts', ts' = ts ++ [t.take mm] := ⟨_, rfl⟩
      rw [← hts] at k5 k6 k7
      have HTS := Lib.hid hts
      clear hts
      have HP := Lib.hid (And.intro k2 (And.intro k3 (And.intro k4 (And.intro k5 (And.intro k6 (And.intro k7 k8))))))
      have R1 := Lib.hid ((hi.2.2.1.fresh (Below.refl _ _).drew).on (q := q) (M := 4 * k + 4) (r := .returned (.int .i64 0)) fun F h => by
        have := h.add (name := [102]) (xs := t.take mm) (by omega) (by decide)
        rw [k1] at this
        exact this)
      clear hmm hi hcell ht hlc hg H2 k1 k2 k3 k4 k5 k6 k7 k8
      generalize t.take mm = z at *
      go_wp2_with fail
      refine Drawn.start (fun V => V.cell? ⟨g, o + k, none⟩ = some (.string (str t))) (fun _ => false) (by kernel_rfl) ?_
      refine Drawn.take 0 (some 38) (v := ?_) rfl rfl (by kernel_rfl) (by kernel_rfl) (by kernel_rfl) (by kernel_rfl) (by kernel_rfl) rfl (fun _ _ _ h => h) (Or.inl ⟨rfl, ?_⟩) H0 ?_
      rotate_left
      · intro W hW; have hW := HS.out W hW; go_simp; try with_reducible rfl
      simp only [put_list, List.set]
      refine Drawn.take 1 (some 39) (v := ?_) rfl rfl (by kernel_rfl) (by kernel_rfl) (by kernel_rfl) (by kernel_rfl) (by kernel_rfl) rfl (fun _ _ _ h => h) (Or.inl ⟨rfl, ?_⟩) H0 ?_
      rotate_left
      · intro W hW; have hW := HS.out W hW; go_simp; try with_reducible rfl
      simp only [put_list, List.set]
      refine Drawn.take 2 (some 40) (v := ?_) rfl rfl (by kernel_rfl) (by kernel_rfl) (by kernel_rfl) (by kernel_rfl) (by kernel_rfl) rfl (fun _ _ _ h => h) (Or.inl ⟨rfl, ?_⟩) H0 ?_
      rotate_left
      · intro W hW; have hW := HS.out W hW; go_simp; try with_reducible rfl
      simp only [put_list, List.set]
      refine Drawn.take 3 (some 41) (v := ?_) rfl rfl (by kernel_rfl) (by kernel_rfl) (by kernel_rfl) (by kernel_rfl) (by kernel_rfl) rfl (fun _ _ _ h => h) (Or.inl ⟨rfl, ?_⟩) H0 ?_
      rotate_left
      · intro W hW; have hW := HS.out W hW; go_simp; try with_reducible rfl
      simp only [put_list, List.set]
      refine Drawn.take 4 (some 42) (v := ?_) rfl rfl (by kernel_rfl) (by kernel_rfl) (by kernel_rfl) (by kernel_rfl) (by kernel_rfl) rfl (fun _ _ _ h => h) (Or.inl ⟨rfl, ?_⟩) H0 ?_
      rotate_left
      · intro W hW; have hW := HS.out W hW; go_simp; try with_reducible rfl
      simp only [put_list, List.set]
      refine Drawn.take 5 (some 43) (v := ?_) rfl rfl (by kernel_rfl) (by kernel_rfl) (by kernel_rfl) (by kernel_rfl) (by kernel_rfl) rfl (fun _ _ _ h => h) (Or.inl ⟨rfl, ?_⟩) H0 ?_
      rotate_left
      · intro W hW; have hW := HS.out W hW; go_simp; try with_reducible rfl
      simp only [put_list, List.set]
      refine Drawn.take 6 (some 44) (v := ?_) rfl rfl (by kernel_rfl) (by kernel_rfl) (by kernel_rfl) (by kernel_rfl) (by kernel_rfl) rfl (fun _ _ _ h => h) (Or.inl ⟨rfl, ?_⟩) H0 ?_
      rotate_left
      · intro W hW; have hW := HS.out W hW; go_simp; try with_reducible rfl
      simp only [put_list, List.set]
      refine Drawn.take 7 (some 45) (v := ?_) rfl rfl (by kernel_rfl) (by kernel_rfl) (by kernel_rfl) (by kernel_rfl) (by kernel_rfl) rfl (fun _ _ _ h => h) (Or.inl ⟨rfl, ?_⟩) H0 ?_
      rotate_left
      · intro W hW; have hW := HS.out W hW; go_simp; try with_reducible rfl
      simp only [put_list, List.set]
      refine Drawn.take 8 (some 46) (v := ?_) rfl rfl (by kernel_rfl) (by kernel_rfl) (by kernel_rfl) (by kernel_rfl) (by kernel_rfl) rfl (fun _ _ _ h => h) (Or.inl ⟨rfl, ?_⟩) H0 ?_
      rotate_left
      · intro W hW; have hW := HS.out W hW; go_simp; try with_reducible rfl
      simp only [put_list, List.set]
      refine Drawn.take 9 (some 47) (v := .int .i64 (mm : Nat)) rfl rfl (by kernel_rfl) (by kernel_rfl) (by kernel_rfl) (by kernel_rfl) (by kernel_rfl) rfl (fun _ _ _ h => h) (Or.inl ⟨rfl, ?_⟩) H0 ?_
      · intro V hV; have hV := HS.out V hV; go_simp; have := HM.out; omega
      simp only [put_list, List.set]
      refine Drawn.take 10 (some 48) (v := ?_) rfl rfl (by kernel_rfl) (by kernel_rfl) (by kernel_rfl) (by kernel_rfl) (by kernel_rfl) rfl (fun _ _ _ h => h) (Or.inl ⟨rfl, ?_⟩) H0 ?_
      rotate_left
      · intro W hW; have hW := HS.out W hW; go_simp; try with_reducible rfl
      simp only [put_list, List.set]
      refine Drawn.take 11 (some 8) (v := ?_) rfl rfl (by kernel_rfl) (by kernel_rfl) (by kernel_rfl) (by kernel_rfl) (by kernel_rfl) rfl (fun _ _ _ h => h) (Or.inl ⟨rfl, ?_⟩) H0 ?_
      rotate_left
      · intro W hW; have hW := HS.out W hW; go_simp; try with_reducible rfl
      simp only [put_list, List.set]
      refine Drawn.done (by kernel_rfl) ?_ _
      clear HS H0 hlen hst hle
      by_cases h0 : k = 0
      · subst h0
        go_wp2_with fail
        refine R1.out.mono ?_
        rintro e W3 ⟨rfl, h1, h2⟩
        have HO := Lib.hid (((HI.out.2.1.drewS).stay h2 fun b hb => hb).keep ((Below.refl _ _).alloc (Nat.le_refl _) (.cells #[.string (str z)] 9)))
        have H3 := Lib.hid (And.intro (h1.fresh ((Below.refl _ _).alloc (Nat.le_refl _) (.cells #[.string (str z)] 9))) HO.out)
        have HW := Lib.hid (show W.heap.size ≤ (W3.alloc (.cells #[.string (str z)] 9)).heap.size by have := h1.left.below.size; rw [alloc_size]; omega)
        have HZ := Lib.hid (heap_alloc_new W3 (.cells #[.string (str z)] 9))
        clear h1 h2 R1
        go_wp2_with (at_builtin; refine wpList_append_one rfl _ _ 22 9 rfl Try.underlying22 _ 16 infoS rfl (by omega) W.heap.size (.slice va ts.length vc) ts.length (ts.map encS) (by rfl) HO.out W3.heap.size (.string (str z)) rfl (by rfl) HZ.out HW.out (by have := HI.out.1; omega) ?_; intro v2 W4 hown2 hgr hbl; have HV := Lib.hid (And.intro hown2 (And.intro hgr hbl)); clear hown2 hgr hbl)
        have H4 := Lib.hid (H3.out.1.grown HV.out.2.1 (fun k hk => hk) (fun k hk => (HO.out.lt hk).1))
        have HO4 := Lib.hid (show OwnS W.heap.size ts' v2 W4 by
          have := HV.out.1
          rw [HTS.out]
          unfold OwnS
          rw [List.length_append, List.map_append]
          exact this)
        have HK4 := Lib.hid (show ∀ b, v2.ownBlock = some b → ((Value.slice va ts.length vc).ownBlock = some b ∨ ((W3.alloc (.cells #[.string (str z)] 9)).heap.size ≤ b ∧ b < W4.heap.size)) from fun b hb => by
          rcases HV.out.2.2 with h | h
          · exact Or.inl (h ▸ hb)
          · have hlt := (HO4.out.lt hb).2
            rw [h] at hb
            injection hb with hb
            exact Or.inr ⟨by omega, hlt⟩)
        obtain ⟨vb, vd, rfl⟩ := HO4.out.form
        clear HV HO HZ HW H3
        go_wp2_with fail
        have hF := HP.out.2.2.2.2.1
        refine (H4.out.left.allS h102 (l := ts') (r := []) (by rw [HP.out.2.2.2.1]; exact Fs.own hF)).mono ?_
        rintro e W5 ⟨v5, rfl, h1, h2⟩
        obtain ⟨vf, vg, rfl⟩ := h1.form
        have H5 := Lib.hid (And.intro (H4.out.fresh h2) (And.intro (HO4.out.keep h2) h1))
        clear h1 h2 H4 HO4 hF
        go_wp2_with fail
        have hs := same_c H5.out.2.2 H5.out.2.1 (by have := HI.out.1; rw [HTS.out, List.length_append]; simp; omega)
        rw [show decide (ts' = ts') = true from decide_eq_true rfl] at hs
        refine hs.mono ?_
        clear hs
        rintro e W6 ⟨rfl, h1⟩
        have H6 := Lib.hid (And.intro (H5.out.1.fresh h1) (H5.out.2.1.keep h1))
        clear h1 H5
        go_wp2_with fail
        have hw := H6.out.1.left.whole h102
        rw [HP.out.2.2.2.1] at hw
        rw [HTS.out, show ts = [] from List.eq_nil_of_length_eq_zero HI.out.1, List.nil_append, frs_one, whole_one (by omega), firstV] at hw
        refine hw.mono ?_
        clear hw
        rintro e W7 ⟨rfl, h1⟩
        have H7 := Lib.hid (And.intro (H6.out.1.fresh h1) (H6.out.2.keep h1))
        clear h1 H6
        have hqq : ((str z).toList == (str z).toList) = true := by simp
        generalize str z = zz at *
        go_wp2_with fail
        go_roundw
        case rel => exact ⟨1, ts', q, rfl, by omega, by omega, by rw [HTS.out, List.length_append, HI.out.1]; rfl, H7.out.2, H7.out.1.onlyK HK4.out, HP.out.1, HP.out.2.1, by have := HP.out.2.2.1; omega, HP.out.2.2.2.1, HP.out.2.2.2.2.2.1, HP.out.2.2.2.2.2.2⟩
        case measure => simp [intOf]
      · obtain ⟨t0, tl, htl⟩ : ∃ t0 tl, ts = t0 :: tl := by
          cases hts : ts with
          | nil => have := HI.out.1; rw [hts] at this; exact absurd this.symm h0
          | cons x y => exact ⟨x, y, rfl⟩
        have HU := Lib.hid (show wholeP (frs (ts ++ [z])) = none by
          have h8 := HI.out.2.2.2.2.2.2.2.1 t0 (by rw [htl]; simp)
          rw [htl]
          cases tl with
          | nil => exact whole_two (by omega)
          | cons u w => exact whole_two (by omega))
        clear htl
        have h0i : ((k : Int) == 0) = false := by rw [beq_eq_false_iff_ne]; omega
        go_wp2_with fail
        refine R1.out.mono ?_
        rintro e W3 ⟨rfl, h1, h2⟩
        have HO := Lib.hid (((HI.out.2.1.drewS).stay h2 fun b hb => hb).keep ((Below.refl _ _).alloc (Nat.le_refl _) (.cells #[.string (str z)] 9)))
        have H3 := Lib.hid (And.intro (h1.fresh ((Below.refl _ _).alloc (Nat.le_refl _) (.cells #[.string (str z)] 9))) HO.out)
        have HW := Lib.hid (show W.heap.size ≤ (W3.alloc (.cells #[.string (str z)] 9)).heap.size by have := h1.left.below.size; rw [alloc_size]; omega)
        have HZ := Lib.hid (heap_alloc_new W3 (.cells #[.string (str z)] 9))
        clear h1 h2 R1
        go_wp2_with (at_builtin; refine wpList_append_one rfl _ _ 22 9 rfl Try.underlying22 _ 16 infoS rfl (by omega) W.heap.size (.slice va ts.length vc) ts.length (ts.map encS) (by rfl) HO.out W3.heap.size (.string (str z)) rfl (by rfl) HZ.out HW.out (by have := HI.out.1; omega) ?_; intro v2 W4 hown2 hgr hbl; have HV := Lib.hid (And.intro hown2 (And.intro hgr hbl)); clear hown2 hgr hbl)
        have H4 := Lib.hid (H3.out.1.grown HV.out.2.1 (fun k hk => hk) (fun k hk => (HO.out.lt hk).1))
        have HO4 := Lib.hid (show OwnS W.heap.size ts' v2 W4 by
          have := HV.out.1
          rw [HTS.out]
          unfold OwnS
          rw [List.length_append, List.map_append]
          exact this)
        have HK4 := Lib.hid (show ∀ b, v2.ownBlock = some b → ((Value.slice va ts.length vc).ownBlock = some b ∨ ((W3.alloc (.cells #[.string (str z)] 9)).heap.size ≤ b ∧ b < W4.heap.size)) from fun b hb => by
          rcases HV.out.2.2 with h | h
          · exact Or.inl (h ▸ hb)
          · have hlt := (HO4.out.lt hb).2
            rw [h] at hb
            injection hb with hb
            exact Or.inr ⟨by omega, hlt⟩)
        obtain ⟨vb, vd, rfl⟩ := HO4.out.form
        clear HV HO HZ HW H3
        go_wp2_with fail
        have hF := HP.out.2.2.2.2.1
        refine (H4.out.left.allS h102 (l := ts') (r := []) (by rw [HP.out.2.2.2.1]; exact Fs.own hF)).mono ?_
        rintro e W5 ⟨v5, rfl, h1, h2⟩
        obtain ⟨vf, vg, rfl⟩ := h1.form
        have H5 := Lib.hid (And.intro (H4.out.fresh h2) (And.intro (HO4.out.keep h2) h1))
        clear h1 h2 H4 HO4 hF
        go_wp2_with fail
        have hs := same_c H5.out.2.2 H5.out.2.1 (by have := HI.out.1; rw [HTS.out, List.length_append]; simp; omega)
        rw [show decide (ts' = ts') = true from decide_eq_true rfl] at hs
        refine hs.mono ?_
        clear hs
        rintro e W6 ⟨rfl, h1⟩
        have H6 := Lib.hid (And.intro (H5.out.1.fresh h1) (H5.out.2.1.keep h1))
        clear h1 H5
        go_wp2_with fail
        have hw := H6.out.1.left.whole h102
        rw [HP.out.2.2.2.1] at hw
        rw [HTS.out, HU.out, firstV] at hw
        refine hw.mono ?_
        clear hw
        rintro e W7 ⟨rfl, h1⟩
        have H7 := Lib.hid (And.intro (H6.out.1.fresh h1) (H6.out.2.keep h1))
        clear h1 H6
        have hqq : ((str z).toList == (str z).toList) = true := by simp
        generalize str z = zz at *
        go_wp2_with fail
        go_roundw
        case rel => exact ⟨k + 1, ts', q, by go_num, by omega, by omega, by rw [HTS.out, List.length_append, HI.out.1]; rfl, H7.out.2, H7.out.1.onlyK HK4.out, HP.out.1, HP.out.2.1, by have := HP.out.2.2.1; omega, HP.out.2.2.2.1, HP.out.2.2.2.2.2.1, HP.out.2.2.2.2.2.2⟩
        case measure => simp [intOf]; omega
    · have HI := Lib.hid hi
      clear hi H2
      have HF := Lib.hid (And.intro HI.out.2.2.1 HI.out.2.1)
      obtain ⟨Zc, hZc⟩ : ∃ Zc : Array Value, Zc = madeCells #[.int .u8 0] 65537 := ⟨_, rfl⟩
      obtain ⟨Zs, hZs⟩ : ∃ Zs : List UInt8, Zs = List.replicate 65537 0 := ⟨_, rfl⟩
      have hZl : Zs.length = 65537 := by rw [hZs, List.length_replicate]
      have HL3 := Lib.hid (show p.add [102] Zs = (3, p) ∧ p.replace [102] Zs = (3, p) from ⟨if_neg (by rw [hZl]; omega), if_neg (by rw [hZl]; omega)⟩)
      have hz0 : ∀ W : World, (convert 26 9 (.slice (some ⟨W.heap.size, 0, none⟩) 65537 65537)).run Try.prog (W.alloc (.cells Zc 5)) = .ok (.string (str Zs)) (W.alloc (.cells Zc 5)) := by rw [hZc, hZs]; exact zeros_of 65537
      have hmk : ∀ W : World, (Instr.makeSlice 26 (.int .i64 65537) (.int .i64 65537)).run Try.prog W = .ok (.slice (some ⟨W.heap.size, 0, none⟩) 65537 65537) (W.alloc (.cells Zc 5)) := by rw [hZc]; exact make_zeros
      clear hZc hZs hZl
      by_cases hki : (k : Int) < (n : Int)
      · have hk8i : ¬ (k : Int) < 8 := by omega
        clear hlt hkn
        go_wp2_with fail
        have R1 := Lib.hid ((HF.out.1.fresh ((Below.refl _ _).alloc (Nat.le_refl _) (.cells Zc 5))).on (q := p) (M := 4 * k + 4) (r := .returned (.int .i64 3)) fun F h => by
          have := h.add (name := [102]) (xs := Zs) (by omega) (by decide)
          rw [HL3.out.1] at this
          exact this)
        refine R1.out.mono ?_
        rintro e W3 ⟨rfl, h1, h2⟩
        have H3 := Lib.hid h1
        clear h1 h2 R1
        go_wp2_with fail
        have R2 := Lib.hid ((H3.out.fresh ((Below.refl _ _).alloc (Nat.le_refl _) (.cells Zc 5))).on (q := p) (M := 4 * k + 8) (r := .returned (.int .i64 3)) fun F h => by
          have := h.replace (name := [102]) (xs := Zs) (by omega) (by decide)
          rw [HL3.out.2] at this
          exact this)
        refine R2.out.mono ?_
        rintro e W4 ⟨rfl, h1, h2⟩
        have H4 := Lib.hid h1
        clear h1 h2 R2 H3
        go_wp2_with fail
        refine (H4.out.left.allS (name := [103]) (by unfold maxLen; decide) (l := []) (r := []) (by rw [HI.out.2.2.2.2.2.2.2.2 [103] (by decide)]; exact Fs.nil)).mono ?_
        rintro e W5 ⟨v5, rfl, h1, h2⟩
        obtain ⟨vf, vg, rfl⟩ := h1.form
        have H5 := Lib.hid (H4.out.fresh h2)
        clear h1 h2 H4
        go_wp2_with fail
        refine (H5.out.left.allS h102 (l := ts) (r := []) (by rw [HI.out.2.2.2.2.2.2.1]; exact Fs.own (fun t ht => Nat.le_trans (HI.out.2.2.2.2.2.2.2.1 t ht) (by omega)))).mono ?_
        rintro e W6 ⟨v6, rfl, h1, h2⟩
        obtain ⟨vi, vj, rfl⟩ := h1.form
        have HB := Lib.hid (H5.out.fresh h2).left.below
        clear h1 h2 H5
        go_wp2_with fail
        go_ret
        exact ⟨rfl, HB.out⟩

      · clear hlt hkn
        go_wp2_with fail
        have R1 := Lib.hid ((HF.out.1.fresh ((Below.refl _ _).alloc (Nat.le_refl _) (.cells Zc 5))).on (q := p) (M := 4 * k + 4) (r := .returned (.int .i64 3)) fun F h => by
          have := h.add (name := [102]) (xs := Zs) (by omega) (by decide)
          rw [HL3.out.1] at this
          exact this)
        refine R1.out.mono ?_
        rintro e W3 ⟨rfl, h1, h2⟩
        have H3 := Lib.hid h1
        clear h1 h2 R1
        go_wp2_with fail
        have R2 := Lib.hid ((H3.out.fresh ((Below.refl _ _).alloc (Nat.le_refl _) (.cells Zc 5))).on (q := p) (M := 4 * k + 8) (r := .returned (.int .i64 3)) fun F h => by
          have := h.replace (name := [102]) (xs := Zs) (by omega) (by decide)
          rw [HL3.out.2] at this
          exact this)
        refine R2.out.mono ?_
        rintro e W4 ⟨rfl, h1, h2⟩
        have H4 := Lib.hid h1
        clear h1 h2 R2 H3
        go_wp2_with fail
        refine (H4.out.left.allS (name := [103]) (by unfold maxLen; decide) (l := []) (r := []) (by rw [HI.out.2.2.2.2.2.2.2.2 [103] (by decide)]; exact Fs.nil)).mono ?_
        rintro e W5 ⟨v5, rfl, h1, h2⟩
        obtain ⟨vf, vg, rfl⟩ := h1.form
        have H5 := Lib.hid (H4.out.fresh h2)
        clear h1 h2 H4
        go_wp2_with fail
        refine (H5.out.left.allS h102 (l := ts) (r := []) (by rw [HI.out.2.2.2.2.2.2.1]; exact Fs.own (fun t ht => Nat.le_trans (HI.out.2.2.2.2.2.2.2.1 t ht) (by omega)))).mono ?_
        rintro e W6 ⟨v6, rfl, h1, h2⟩
        obtain ⟨vi, vj, rfl⟩ := h1.form
        have HB := Lib.hid (H5.out.fresh h2).left.below
        clear h1 h2 H5
        go_wp2_with fail
        go_ret
        exact ⟨rfl, HB.out⟩

end Go.Proofs.Ytoiooohdenfpmaa
