/- The reference's Replace, Mend, All, Whole. -/
import Derived.Test.YtialfpkmcafkmaaGreatP16
namespace Go.Proofs.YtialfpkmcafkmaaGreat
open Go.RowKit

section
variable {p : Pd} {b B : Nat} {v : Value} {W : World}
theorem OwnS.from {B B' : Nat} {l : List Nm} {v : Value} {W : World} (h : OwnS B l v W) (hB : B' ≤ B) : OwnS B' l v W := by
  refine ⟨h.1, ?_⟩
  rcases h.2 with h0 | ⟨g, cap, cur, h1, h2, h3⟩
  · exact Or.inl h0
  · exact Or.inr ⟨g, cap, cur, h1, by omega, h3⟩
theorem fr_ne (s : Nm) : fr s ≠ [] := fun h => by have := fr_len s; rw [h] at this; simp at this
theorem pswap_c (h : Rk p b v B W) (hp : p.Ok) (name g : Nm) (hname : name.length ≤ 1000000) (hgl : g.length ≤ 1000000000) (hB : B ≤ W.heap.size) (hlen : p.L.length < 900000) : Calls Tryz.prog 45 #[.pointer (some ⟨b, 0, none⟩), .string (str name), .string (str g)] W fun e W' => Stp (p.swap name g) b B v W e W' := by
  by_cases hg : g = []
  · exact pswap_nil h hp name g hg hname hgl hB hlen
  · exact pswap_txt h hp name g hg hname hgl hB hlen
set_option maxRecDepth 100000 in
theorem preplace_c (h : Rk p b v B W) (hp : p.Ok) (name s : Nm) (hname : name.length ≤ 1000000) (hB : B ≤ W.heap.size) (hlen : p.L.length < 900000) : Calls Tryz.prog 21 #[.pointer (some ⟨b, 0, none⟩), .string (str name), .string (str s)] W fun e W' => Stp (p.replace name s) b B v W e W' := by
  by_cases hl : s.length ≤ 65536
  · have hadd : p.replace name s = p.swap name (fr s) := by unfold Pd.replace Pd.swap; rw [if_pos hl, if_neg (by rw [fr_len]; omega)]
    have F := Lib.hid (rframe_c s hl W)
    have A := Lib.hid (fun V (hV : Below W.heap.size W V) => pswap_c (h.below hV) hp name (fr s) hname (by rw [fr_len]; omega) (Nat.le_trans hB hV.size) hlen)
    have HA := Lib.hid hadd
    clear h hp hl hB hlen hadd hname
    go_enter Tryz.func21, Tryz.ntmps21
    go_wp2_with fail
    refine F.out.mono ?_
    rintro e w1 ⟨rfl, h1⟩
    have A1 := Lib.hid (A.out w1 h1)
    have H1 := Lib.hid h1
    clear h1 A F
    go_wp2_with fail
    refine A1.out.mono ?_
    rintro e w2 ⟨rfl, v2, k1, k2⟩
    have K := Lib.hid (And.intro k1 ((Chg.of_below (F := Rk.ft b v) H1.out).trans k2))
    clear k1 k2 A1
    generalize hc : (p.swap name (fr s)).1 = c at *
    have HC := Lib.hid hc
    clear hc
    go_wp2_with fail
    go_ret
    exact Stp.by HA.out HC.out rfl K.out
  · have hadd : p.replace name s = (3, p) := if_neg hl
    have F := Lib.hid (rframe_long (str s) (by rw [str_size]; omega) W)
    have HA := Lib.hid hadd
    have H := Lib.hid h
    clear h hp hl hB hlen hadd
    generalize str s = y at *
    go_enter Tryz.func21, Tryz.ntmps21
    go_wp2_with fail
    refine F.out.mono ?_
    rintro e w1 ⟨rfl, rfl⟩
    clear F
    go_wp2_with fail
    go_ret
    exact Stp.by HA.out rfl rfl ⟨H.out, Chg.refl _ _⟩
set_option maxRecDepth 100000 in
set_option maxHeartbeats 1000000 in
theorem pmend_c (h : Rk p b v B W) (hp : p.Ok) (name : Nm) (hname : name.length ≤ 1000000) (hB : B ≤ W.heap.size) (hlen : p.L.length < 900000) {l : List Nm} {r : Nm} (hF : Fs (bsE (getE p.L name)) l r) : Calls Tryz.prog 19 #[.pointer (some ⟨b, 0, none⟩), .string (str name)] W fun e W' => Stp (p.mendW name (frs l)) b B v W e W' := by
  have hb := bs_le hp name
  have R := Lib.hid (pread_c h hp.up name)
  rw [readV_eq] at R
  have F := Lib.hid (fun V => rframes_c (bsE (getE p.L name)) (by omega) V)
  have hm : p.mendW name (frs l) = if (frs l).length = (bsE (getE p.L name)).length then (0, p) else p.swap name (frs l) := by unfold Pd.mendW Pd.swap; rfl
  have hz := str_size (bsE (getE p.L name))
  have hnone : (getE p.L name).isSome = false → (frs l).length = (bsE (getE p.L name)).length := fun hn => by
    have e : bsE (getE p.L name) = [] := by cases hg : getE p.L name with
      | none => rfl
      | some e => rw [hg] at hn; cases hn
    have := hF.eq
    rw [e] at this ⊢
    rw [(List.append_eq_nil_iff.1 this.symm).1]
  have hcut := cut_to (bsE (getE p.L name)) (frs l).length (by rw [hF.eq]; simp)
  rw [show (bsE (getE p.L name)).take (frs l).length = frs l by rw [hF.eq]; simp] at hcut
  have hle : (frs l).length ≤ (bsE (getE p.L name)).length := by rw [hF.eq]; simp
  have hfr9 : (frs l).length ≤ 1000000000 := Nat.le_trans hle (Nat.le_trans hb (by decide))
  have A := Lib.hid (fun V (hV : Below W.heap.size W V) => pswap_c (h.below hV) hp name (frs l) hname hfr9 (Nat.le_trans hB hV.size) hlen)
  have H := Lib.hid (And.intro h (And.intro hF hm))
  clear h hp hB hlen hname hm
  generalize hs : bsE (getE p.L name) = s at *
  generalize (getE p.L name).isSome = ok at *
  clear hs
  have hl8 : ((frs l).length : Int) ≤ (s.length : Int) := by omega
  by_cases heq : (frs l).length = s.length
  · have HM := Lib.hid (H.out.2.2.trans (if_pos heq))
    go_enter Tryz.func19, Tryz.ntmps19
    go_wp2_with fail
    refine R.out.mono ?_
    rintro e w1 ⟨rfl, h1⟩
    have B1 := Lib.hid h1
    clear h1 R hnone hcut A
    go_wp2_with fail
    refine (F.out _).mono ?_
    rintro e w2 ⟨l2, r2, v2, rfl, k1, k2, k3⟩
    obtain ⟨rfl, rfl⟩ := k1.inj H.out.2.1
    obtain ⟨a2, c2, rfl⟩ := k2.form
    have B2 := Lib.hid (B1.out.trans (k3.mono B1.out.size))
    clear k1 k2 k3 F B1
    rw [heq]
    cases ok
    · go_wp2_with fail
      go_ret
      exact Stp.by HM.out rfl rfl ⟨H.out.1.below B2.out, Chg.of_below B2.out⟩
    · go_wp2_with fail
      go_ret
      exact Stp.by HM.out rfl rfl ⟨H.out.1.below B2.out, Chg.of_below B2.out⟩
  · have HM := Lib.hid (H.out.2.2.trans (if_neg heq))
    obtain rfl : ok = true := by
      cases ok
      · exact absurd (hnone rfl) heq
      · rfl
    have hne : ¬ ((frs l).length : Int) = (s.length : Int) := by omega
    clear hnone heq
    go_enter Tryz.func19, Tryz.ntmps19
    go_wp2_with fail
    refine R.out.mono ?_
    rintro e w1 ⟨rfl, h1⟩
    have B1 := Lib.hid h1
    clear h1 R
    go_wp2_with fail
    refine (F.out _).mono ?_
    rintro e w2 ⟨l2, r2, v2, rfl, k1, k2, k3⟩
    obtain ⟨rfl, rfl⟩ := k1.inj H.out.2.1
    obtain ⟨a2, c2, rfl⟩ := k2.form
    have B2 := Lib.hid (B1.out.trans (k3.mono B1.out.size))
    have A2 := Lib.hid (A.out w2 B2.out)
    clear k1 k2 k3 F B1 A
    go_wp2_with fail
    refine A2.out.mono ?_
    rintro e w3 ⟨rfl, v3, q1, q2⟩
    have K := Lib.hid (And.intro q1 ((Chg.of_below (F := Rk.ft b v) B2.out).trans q2))
    clear q1 q2 A2
    generalize hc : (p.swap name (frs l2)).1 = c at *
    have HC := Lib.hid hc
    clear hc
    go_wp2_with fail
    go_ret
    exact Stp.by HM.out HC.out rfl K.out
set_option maxRecDepth 100000 in
theorem pall_c (h : Rk p b v B W) (hp : p.Ok) (name : Nm) {l : List Nm} {r : Nm} (hF : Fs (bsE (getE p.L name)) l r) : Calls Tryz.prog 14 #[.pointer (some ⟨b, 0, none⟩), .string (str name)] W fun e W' => ∃ v, e = .returned v ∧ OwnS W.heap.size l v W' ∧ Below W.heap.size W W' := by
  have hb := bs_le hp name
  have R := Lib.hid (pread_c h hp.up name)
  rw [readV_eq] at R
  have F := Lib.hid (fun V => rframes_c (bsE (getE p.L name)) (by omega) V)
  have H := Lib.hid hF
  clear h hp hb hF
  generalize str (bsE (getE p.L name)) = y at *
  generalize (getE p.L name).isSome = ok at *
  go_enter Tryz.func14, Tryz.ntmps14
  go_wp2_with fail
  refine R.out.mono ?_
  rintro e w1 ⟨rfl, h1⟩
  have B1 := Lib.hid h1
  clear h1 R
  go_wp2_with fail
  refine (F.out _).mono ?_
  rintro e w2 ⟨l2, r2, v2, rfl, k1, k2, k3⟩
  obtain ⟨rfl, rfl⟩ := k1.inj H.out
  have K := Lib.hid (And.intro k2 k3)
  clear k1 k2 k3 F
  go_wp2_with fail
  go_ret
  exact ⟨_, rfl, K.out.1.from B1.out.size, B1.out.trans (K.out.2.mono B1.out.size)⟩
theorem wholeP_fs {s : Nm} {l : List Nm} {r : Nm} (h : Fs s l r) : (∀ t, l = [t] → (frs l).length = s.length → wholeP s = some t) ∧ ((l.length ≠ 1 ∨ (frs l).length ≠ s.length) → wholeP s = none) := by
  refine ⟨?_, fun hn => ?_⟩
  · rintro t rfl hl
    have hr : r = [] := by
      have := congrArg List.length h.eq
      rw [List.length_append] at this
      exact List.eq_nil_of_length_eq_zero (by omega)
    refine wholeP_some.2 ⟨h.all t (by simp), ?_⟩
    have := h.eq
    rw [hr, List.append_nil, frs_one] at this
    exact this
  · cases hw : wholeP s with
    | none => rfl
    | some t =>
      exfalso
      obtain ⟨h1, h2⟩ := wholeP_some.1 hw
      have hf : Fs s [t] [] := ⟨by rw [frs_one, List.append_nil]; exact h2, fun u hu => by rw [List.mem_singleton] at hu; rw [hu]; exact h1, firstP_nil⟩
      obtain ⟨rfl, rfl⟩ := h.inj hf
      rcases hn with hn | hn
      · exact hn rfl
      · exact hn (by rw [frs_one, h2])
set_option maxRecDepth 100000 in
set_option maxHeartbeats 1000000 in
theorem pwhole_c (h : Rk p b v B W) (hp : p.Ok) (name : Nm) : Calls Tryz.prog 11 #[.pointer (some ⟨b, 0, none⟩), .string (str name)] W fun e W' => e = .returned (firstV (wholeP (bsE (getE p.L name)))) ∧ Below W.heap.size W W' := by
  have hb := bs_le hp name
  have R := Lib.hid (pread_c h hp.up name)
  rw [readV_eq] at R
  have F := Lib.hid (fun V => rframes_c (bsE (getE p.L name)) (by omega) V)
  have hz := str_size (bsE (getE p.L name))
  obtain ⟨l, r, hF⟩ := Fs.exist (bsE (getE p.L name))
  have HW := Lib.hid (wholeP_fs hF)
  have H := Lib.hid hF
  clear h hp hb hF
  generalize bsE (getE p.L name) = s at *
  generalize (getE p.L name).isSome = ok at *
  go_enter Tryz.func11, Tryz.ntmps11
  go_wp2_with fail
  refine R.out.mono ?_
  rintro e w1 ⟨rfl, h1⟩
  have B1 := Lib.hid h1
  clear h1 R
  go_wp2_with fail
  refine (F.out _).mono ?_
  rintro e w2 ⟨l2, r2, v2, rfl, k1, k2, k3⟩
  obtain ⟨rfl, rfl⟩ := k1.inj H.out
  have B2 := Lib.hid (B1.out.trans (k3.mono B1.out.size))
  by_cases hl1 : l2.length = 1
  · obtain ⟨g, c, rfl, _, _, hc⟩ := k2.ptr (n := 0) hl1
    obtain ⟨t, ht⟩ := List.length_eq_one_iff.1 hl1
    have d0 := k2.cell hl1 (k := 0) (t := t) (by rw [ht]; rfl)
    clear k1 k2 k3 F B1 H
    by_cases heq : (frs l2).length = s.length
    · have HE := Lib.hid (HW.out.1 t ht heq)
      rw [heq]
      clear heq ht hl1 HW
      go_wp2_with fail
      go_ret2
      exact ⟨by rw [HE.out]; rfl, B2.out⟩
    · have HE := Lib.hid (HW.out.2 (Or.inr heq))
      have hne : ¬ ((frs l2).length : Int) = (s.length : Int) := by omega
      clear heq ht hl1 HW
      generalize (frs l2).length = n2 at *
      go_wp2_with fail
      go_ret2
      exact ⟨by rw [HE.out]; rfl, B2.out⟩
  · have HE := Lib.hid (HW.out.2 (Or.inl hl1))
    obtain ⟨a2, c2, rfl⟩ := k2.form
    have hne : ¬ (l2.length : Int) = 1 := by omega
    clear k1 k2 k3 F B1 H HW hl1
    generalize l2.length = n2 at *
    generalize (frs l2).length = n3 at *
    go_wp2_with fail
    go_ret2
    exact ⟨by rw [HE.out]; rfl, B2.out⟩
end
end Go.Proofs.YtialfpkmcafkmaaGreat
