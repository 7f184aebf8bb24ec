/- The reference's Add, swap, Replace, Mend. -/
import Derived.Test.YtialfpkmcafkmaaGreatP15
import Derived.Test.YtialfpkmcafkmaaGreatQz
namespace Go.Proofs.YtialfpkmcafkmaaGreat
open Go.RowKit

section
variable {p : Pd} {b B : Nat} {v : Value} {W : World}
theorem runP_one (p : Pd) (f : Pd → Int × Pd) : runP p [f] = f p := by
  show (if (f p).1 = 0 then ((0 : Int), (f p).2) else f p) = f p
  split
  · rename_i h; rw [← h]
  · rfl
theorem runP_stop {p : Pd} {f : Pd → Int × Pd} {r : List (Pd → Int × Pd)} (h : ¬ (f p).1 = 0) : runP p (f :: r) = f p := by rw [runP, if_neg h]
theorem runP_on {p : Pd} {f : Pd → Int × Pd} {r : List (Pd → Int × Pd)} (h : (f p).1 = 0) : runP p (f :: r) = runP (f p).2 r := by rw [runP, if_pos h]
theorem Stp.by {r r' : Int × Pd} {c : Int} {v' : Value} {e : Ending} {W' : World} (hr : r = r') (hc : r'.1 = c) (he : e = .returned (.int .i64 c)) (h : Rk r'.2 b v' B W' ∧ Chg (Rk.ft b v) (Rk.ft b v') W W') : Stp r b B v W e W' := by subst hr; subst hc; exact ⟨he, v', h⟩
set_option maxRecDepth 100000 in
set_option maxHeartbeats 1000000 in
theorem padd_c (h : Rk p b v B W) (hp : p.Ok) (name s : Nm) (hB : B ≤ W.heap.size) (hlen : p.L.length < 1000000) : Calls Tryz.prog 29 #[.pointer (some ⟨b, 0, none⟩), .string (str name), .string (str s)] W fun e W' => Stp (p.add name s) b B v W e W' := by
  by_cases hl : s.length ≤ 65536
  · have hadd : p.add name s = runP p [(·.append name (fr s)), (·.sync name)] := if_pos hl
    have F := Lib.hid (rframe_c s hl W)
    have hfl : (fr s).length ≤ 1000000000 := by rw [fr_len]; omega
    have A := Lib.hid (fun V (hV : Below W.heap.size W V) => pappend_c (h.below hV) hp name (fr s) hfl (Nat.le_trans hB hV.size) hlen)
    have HG := Lib.hid (gr_append hp name (fr s))
    have HA := Lib.hid hadd
    clear h hp hl hB hlen hadd hfl
    go_enter Tryz.func29, Tryz.ntmps29
    go_wp2_with fail
    refine F.out.mono ?_
    rintro e w1 ⟨rfl, h1⟩
    have A1 := Lib.hid (A.out w1 h1)
    have H1 := Lib.hid h1
    clear h1 A F
    go_wp2_with fail
    refine A1.out.mono ?_
    rintro e w2 ⟨rfl, v2, k1, k2⟩
    have S2 := Lib.hid (psync_c k1 HG.out.ok name)
    have K := Lib.hid (And.intro k1 ((Chg.of_below (F := Rk.ft b v) H1.out).trans k2))
    clear k1 k2 A1
    by_cases h0 : (p.append name (fr s)).1 = 0
    · have HR := Lib.hid ((HA.out.trans (runP_on (f := (·.append name (fr s))) h0)).trans (runP_one _ _))
      clear HA
      rw [h0]
      clear h0
      go_wp2_with fail
      refine S2.out.mono ?_
      rintro e w3 ⟨rfl, v3, k1, k2⟩
      have K3 := Lib.hid (And.intro k1 (K.out.2.trans k2))
      clear k1 k2 S2
      generalize hc : ((p.append name (fr s)).2.sync name).1 = c at *
      have HC := Lib.hid hc
      clear hc
      go_wp2_with fail
      go_ret
      exact Stp.by HR.out HC.out rfl K3.out
    · have HR := Lib.hid (HA.out.trans (runP_stop (f := (·.append name (fr s))) h0))
      clear HA S2
      generalize hc : (p.append name (fr s)).1 = c at *
      have HC := Lib.hid hc
      clear hc
      go_wp2_with fail
      go_ret
      exact Stp.by HR.out HC.out rfl K.out
  · have hadd : p.add name s = (3, p) := if_neg hl
    have F := Lib.hid (rframe_long (str s) (by rw [str_size]; omega) W)
    have HA := Lib.hid hadd
    have H := Lib.hid h
    clear h hp hl hB hlen hadd
    generalize str s = y at *
    go_enter Tryz.func29, Tryz.ntmps29
    go_wp2_with fail
    refine F.out.mono ?_
    rintro e w1 ⟨rfl, rfl⟩
    clear F
    go_wp2_with fail
    go_ret
    exact Stp.by HA.out rfl rfl ⟨H.out, Chg.refl _ _⟩
/-- What swap does. -/
def Pd.swap (p : Pd) (name g : Nm) : Int × Pd := if g.length = 0 then runP p [(·.discard (fresh name)), (·.delete name)] else p.exchange name g
theorem empty_str (g : Nm) : ((str g).toList == ([] : List UInt8)) = decide (g.length = 0) := by
  rw [ByteArray.toList_eq]
  cases g <;> simp [str]
set_option maxRecDepth 100000 in
set_option maxHeartbeats 2000000 in
theorem pswap_nil (h : Rk p b v B W) (hp : p.Ok) (name g : Nm) (hg0 : g = []) (hname : name.length ≤ 1000000) (hgl : g.length ≤ 1000000000) (hB : B ≤ W.heap.size) (hlen : p.L.length < 900000) : Calls Tryz.prog 45 #[.pointer (some ⟨b, 0, none⟩), .string (str name), .string (str g)] W fun e W' => Stp (p.swap name g) b B v W e W' := by
  have hF : str name ++ (⟨#[46, 110, 101, 119]⟩ : ByteArray) = str (fresh name) := by rw [fresh, ← str_app]; rfl
  have hz := str_size name
  have hzi : ((str name).size : Int) ≤ 1000000 := by omega
  have hsw : p.swap name g = runP p [(·.discard (fresh name)), (·.delete name)] := by
    unfold Pd.swap
    rw [hg0]; rfl
  have R := Lib.hid (pread_c h hp.up (fresh name))
  have H := Lib.hid (And.intro h hp)
  have HB := Lib.hid hB
  have HL := Lib.hid (And.intro hgl hlen)
  have HS := Lib.hid hsw
  clear h hp hB hgl hlen hsw hname hz
  have hE : (str g).toList.isEmpty = true := by rw [ByteArray.toList_eq, hg0]; rfl
  cases hg : getE p.L (fresh name) with
  | none =>
    rw [hg, readV] at R
    have HX := Lib.hid ((HS.out.trans (runP_on (f := (·.discard (fresh name))) (show (p.discard (fresh name)).1 = 0 by unfold Pd.discard; rw [hg]))).trans (runP_one _ _))
    rw [show (p.discard (fresh name)).2 = p by unfold Pd.discard; rw [hg]] at HX
    clear hg0 hg HS
    go_enter Tryz.func45, Tryz.ntmps45
    go_wp2_with fail
    refine R.out.mono ?_
    rintro e w1 ⟨rfl, h1⟩
    have K := Lib.hid (And.intro (H.out.1.below h1) (Chg.of_below (F := Rk.ft b v) h1))
    have HOK := Lib.hid (Gr.refl H.out.2)
    clear h1 R
    have D := Lib.hid (pdelete_c K.out.1 HOK.out.ok name)
    go_wp2_with fail
    refine D.out.mono ?_
    rintro e w4 ⟨rfl, v4, k1, k2⟩
    have K4 := Lib.hid (And.intro k1 (K.out.2.trans k2))
    clear k1 k2 D
    generalize hc : (p.delete name).1 = c at *
    have HC := Lib.hid hc
    clear hc
    go_wp2_with fail
    go_ret
    exact Stp.by HX.out HC.out rfl K4.out
  | some e0 =>
    rw [hg, readV] at R
    have hd : p.discard (fresh name) = p.delete (fresh name) := by unfold Pd.discard; rw [hg]
    have HD := Lib.hid hd
    clear hg0 hg hd
    generalize str e0.bs = z at *
    go_enter Tryz.func45, Tryz.ntmps45
    go_wp2_with fail
    refine R.out.mono ?_
    rintro e w1 ⟨rfl, h1⟩
    have D0 := Lib.hid (pdelete_c (H.out.1.below h1) H.out.2 (fresh name))
    have H1 := Lib.hid h1
    clear h1 R
    go_wp2_with fail
    refine D0.out.mono ?_
    rintro e w2 ⟨rfl, v2, k1, k2⟩
    have K := Lib.hid (And.intro k1 ((Chg.of_below (F := Rk.ft b v) H1.out).trans k2))
    have HOK := Lib.hid (gr_delete H.out.2 (fresh name))
    clear k1 k2 D0 H1
    by_cases h0 : (p.delete (fresh name)).1 = 0
    · have HX := Lib.hid ((HS.out.trans (runP_on (f := (·.discard (fresh name))) (show (p.discard (fresh name)).1 = 0 by rw [HD.out]; exact h0))).trans (runP_one _ _))
      rw [HD.out] at HX
      rw [h0]
      clear h0 HS HD
      have D := Lib.hid (pdelete_c K.out.1 HOK.out.ok name)
      go_wp2_with fail
      refine D.out.mono ?_
      rintro e w4 ⟨rfl, v4, k1, k2⟩
      have K4 := Lib.hid (And.intro k1 (K.out.2.trans k2))
      clear k1 k2 D
      generalize hc : ((p.delete (fresh name)).2.delete name).1 = c at *
      have HC := Lib.hid hc
      clear hc
      go_wp2_with fail
      go_ret
      exact Stp.by HX.out HC.out rfl K4.out
    · have HX := Lib.hid (HS.out.trans (runP_stop (f := (·.discard (fresh name))) (show ¬ (p.discard (fresh name)).1 = 0 by rw [HD.out]; exact h0)))
      have HC := Lib.hid HD.out
      clear HS HD
      generalize hc : (p.delete (fresh name)).1 = c at *
      have HC2 := Lib.hid hc
      clear hc
      go_wp2_with fail
      go_ret
      exact Stp.by (HX.out.trans HC.out) HC2.out rfl K.out
set_option maxRecDepth 100000 in
set_option maxHeartbeats 2000000 in
theorem pswap_txt (h : Rk p b v B W) (hp : p.Ok) (name g : Nm) (hg0 : g ≠ []) (hname : name.length ≤ 1000000) (hgl : g.length ≤ 1000000000) (hB : B ≤ W.heap.size) (hlen : p.L.length < 900000) : Calls Tryz.prog 45 #[.pointer (some ⟨b, 0, none⟩), .string (str name), .string (str g)] W fun e W' => Stp (p.swap name g) b B v W e W' := by
  have hF : str name ++ (⟨#[46, 110, 101, 119]⟩ : ByteArray) = str (fresh name) := by rw [fresh, ← str_app]; rfl
  have hz := str_size name
  have hzi : ((str name).size : Int) ≤ 1000000 := by omega
  have hsw : p.swap name g = runP p [(·.discard (fresh name)), (·.append (fresh name) g), (·.sync (fresh name)), (·.rename (fresh name) name)] := by
    unfold Pd.swap
    rw [if_neg (fun h => hg0 (List.eq_nil_of_length_eq_zero h))]; rfl
  have R := Lib.hid (pread_c h hp.up (fresh name))
  have H := Lib.hid (And.intro h hp)
  have HB := Lib.hid hB
  have HL := Lib.hid (And.intro hgl hlen)
  have HS := Lib.hid hsw
  clear h hp hB hgl hlen hsw hname hz
  have hE : (str g).toList.isEmpty = false := by rw [ByteArray.toList_eq]; cases g with
    | nil => exact absurd rfl hg0
    | cons c r => rfl
  cases hg : getE p.L (fresh name) with
  | none =>
    rw [hg, readV] at R
    have HX := Lib.hid ((HS.out.trans (runP_on (f := (·.discard (fresh name))) (show (p.discard (fresh name)).1 = 0 by unfold Pd.discard; rw [hg]))))
    rw [show (p.discard (fresh name)).2 = p by unfold Pd.discard; rw [hg]] at HX
    clear hg0 hg HS
    go_enter Tryz.func45, Tryz.ntmps45
    go_wp2_with fail
    refine R.out.mono ?_
    rintro e w1 ⟨rfl, h1⟩
    have K := Lib.hid (And.intro (H.out.1.below h1) (Chg.of_below (F := Rk.ft b v) h1))
    have HOK := Lib.hid (Gr.refl H.out.2)
    clear h1 R
    have D := Lib.hid (pappend_c K.out.1 HOK.out.ok (fresh name) g HL.out.1 (Nat.le_trans HB.out K.out.2.size) (by have := HOK.out.len; have := HL.out.2; omega))
    go_wp2_with fail
    refine D.out.mono ?_
    rintro e w4 ⟨rfl, v4, k1, k2⟩
    have G4 := Lib.hid (gr_append HOK.out.ok (fresh name) g)
    have S4 := Lib.hid (psync_c k1 G4.out.ok (fresh name))
    have K4 := Lib.hid (And.intro k1 (K.out.2.trans k2))
    clear k1 k2 D
    by_cases h1 : (p.append (fresh name) g).1 = 0
    · have HX2 := Lib.hid (HX.out.trans (runP_on (f := (·.append (fresh name) g)) h1))
      rw [h1]
      clear h1 HX
      go_wp2_with fail
      refine S4.out.mono ?_
      rintro e w5 ⟨rfl, v5, k1, k2⟩
      have G5 := Lib.hid (gr_sync G4.out.ok (fresh name))
      have K5 := Lib.hid (And.intro k1 (K4.out.2.trans k2))
      have R5 := Lib.hid (prename_c k1 G5.out.ok (fresh name) name (Nat.le_trans HB.out K5.out.2.size))
      clear k1 k2 S4 K4
      by_cases h2 : ((p.append (fresh name) g).2.sync (fresh name)).1 = 0
      · have HX3 := Lib.hid ((HX2.out.trans (runP_on (f := (·.sync (fresh name))) h2)).trans (runP_one _ _))
        rw [h2]
        clear h2 HX2
        go_wp2_with fail
        refine R5.out.mono ?_
        rintro e w6 ⟨rfl, v6, k1, k2⟩
        have K6 := Lib.hid (And.intro k1 (K5.out.2.trans k2))
        clear k1 k2 R5
        generalize hc : (((p.append (fresh name) g).2.sync (fresh name)).2.rename (fresh name) name).1 = c at *
        have HC := Lib.hid hc
        clear hc
        go_wp2_with fail
        go_ret
        exact Stp.by HX3.out HC.out rfl K6.out
      · have HX3 := Lib.hid (HX2.out.trans (runP_stop (f := (·.sync (fresh name))) h2))
        clear HX2 R5
        generalize hc : ((p.append (fresh name) g).2.sync (fresh name)).1 = c at *
        have HC := Lib.hid hc
        clear hc
        go_wp2_with fail
        go_ret
        exact Stp.by HX3.out HC.out rfl K5.out
    · have HX2 := Lib.hid (HX.out.trans (runP_stop (f := (·.append (fresh name) g)) h1))
      clear HX S4
      generalize hc : (p.append (fresh name) g).1 = c at *
      have HC := Lib.hid hc
      clear hc
      go_wp2_with fail
      go_ret
      exact Stp.by HX2.out HC.out rfl K4.out
  | some e0 =>
    rw [hg, readV] at R
    have hd : p.discard (fresh name) = p.delete (fresh name) := by unfold Pd.discard; rw [hg]
    have HD := Lib.hid hd
    clear hg0 hg hd
    generalize str e0.bs = z at *
    go_enter Tryz.func45, Tryz.ntmps45
    go_wp2_with fail
    refine R.out.mono ?_
    rintro e w1 ⟨rfl, h1⟩
    have D0 := Lib.hid (pdelete_c (H.out.1.below h1) H.out.2 (fresh name))
    have H1 := Lib.hid h1
    clear h1 R
    go_wp2_with fail
    refine D0.out.mono ?_
    rintro e w2 ⟨rfl, v2, k1, k2⟩
    have K := Lib.hid (And.intro k1 ((Chg.of_below (F := Rk.ft b v) H1.out).trans k2))
    have HOK := Lib.hid (gr_delete H.out.2 (fresh name))
    clear k1 k2 D0 H1
    by_cases h0 : (p.delete (fresh name)).1 = 0
    · have HX := Lib.hid ((HS.out.trans (runP_on (f := (·.discard (fresh name))) (show (p.discard (fresh name)).1 = 0 by rw [HD.out]; exact h0))))
      rw [HD.out] at HX
      rw [h0]
      clear h0 HS HD
      have D := Lib.hid (pappend_c K.out.1 HOK.out.ok (fresh name) g HL.out.1 (Nat.le_trans HB.out K.out.2.size) (by have := HOK.out.len; have := HL.out.2; omega))
      go_wp2_with fail
      refine D.out.mono ?_
      rintro e w4 ⟨rfl, v4, k1, k2⟩
      have G4 := Lib.hid (gr_append HOK.out.ok (fresh name) g)
      have S4 := Lib.hid (psync_c k1 G4.out.ok (fresh name))
      have K4 := Lib.hid (And.intro k1 (K.out.2.trans k2))
      clear k1 k2 D
      by_cases h1 : ((p.delete (fresh name)).2.append (fresh name) g).1 = 0
      · have HX2 := Lib.hid (HX.out.trans (runP_on (f := (·.append (fresh name) g)) h1))
        rw [h1]
        clear h1 HX
        go_wp2_with fail
        refine S4.out.mono ?_
        rintro e w5 ⟨rfl, v5, k1, k2⟩
        have G5 := Lib.hid (gr_sync G4.out.ok (fresh name))
        have K5 := Lib.hid (And.intro k1 (K4.out.2.trans k2))
        have R5 := Lib.hid (prename_c k1 G5.out.ok (fresh name) name (Nat.le_trans HB.out K5.out.2.size))
        clear k1 k2 S4 K4
        by_cases h2 : (((p.delete (fresh name)).2.append (fresh name) g).2.sync (fresh name)).1 = 0
        · have HX3 := Lib.hid ((HX2.out.trans (runP_on (f := (·.sync (fresh name))) h2)).trans (runP_one _ _))
          rw [h2]
          clear h2 HX2
          go_wp2_with fail
          refine R5.out.mono ?_
          rintro e w6 ⟨rfl, v6, k1, k2⟩
          have K6 := Lib.hid (And.intro k1 (K5.out.2.trans k2))
          clear k1 k2 R5
          generalize hc : ((((p.delete (fresh name)).2.append (fresh name) g).2.sync (fresh name)).2.rename (fresh name) name).1 = c at *
          have HC := Lib.hid hc
          clear hc
          go_wp2_with fail
          go_ret
          exact Stp.by HX3.out HC.out rfl K6.out
        · have HX3 := Lib.hid (HX2.out.trans (runP_stop (f := (·.sync (fresh name))) h2))
          clear HX2 R5
          generalize hc : (((p.delete (fresh name)).2.append (fresh name) g).2.sync (fresh name)).1 = c at *
          have HC := Lib.hid hc
          clear hc
          go_wp2_with fail
          go_ret
          exact Stp.by HX3.out HC.out rfl K5.out
      · have HX2 := Lib.hid (HX.out.trans (runP_stop (f := (·.append (fresh name) g)) h1))
        clear HX S4
        generalize hc : ((p.delete (fresh name)).2.append (fresh name) g).1 = c at *
        have HC := Lib.hid hc
        clear hc
        go_wp2_with fail
        go_ret
        exact Stp.by HX2.out HC.out rfl K4.out
    · have HX := Lib.hid (HS.out.trans (runP_stop (f := (·.discard (fresh name))) (show ¬ (p.discard (fresh name)).1 = 0 by rw [HD.out]; exact h0)))
      have HC := Lib.hid HD.out
      clear HS HD
      generalize hc : (p.delete (fresh name)).1 = c at *
      have HC2 := Lib.hid hc
      clear hc
      go_wp2_with fail
      go_ret
      exact Stp.by (HX.out.trans HC.out) HC2.out rfl K.out
end
end Go.Proofs.YtialfpkmcafkmaaGreat
