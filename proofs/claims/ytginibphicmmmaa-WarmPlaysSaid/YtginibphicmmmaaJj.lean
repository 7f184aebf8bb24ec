/- Back. -/
import Derived.Test.YtginibphicmmmaaJi
import Derived.Laws.EntriesVeiled
namespace Go.Proofs.Ytginibphicmmmaa
open Go.RowKit Go.Maps Go.Shelf Mp

def sliceLen : Option Value → Nat
  | some (.slice _ n _) => n
  | _ => 0
theorem int_lt {m j : Nat} (h : m ≤ j) : (m : Int) < (j : Int) + 1 := by omega
theorem int_le {m j : Nat} (h : m ≤ j) : (m : Int) ≤ (j : Int) := by omega
theorem le_step {k d : Nat} (h : k ≤ d) (h2 : ¬ k = d) : k + 1 ≤ d := by omega
theorem wrap_small {j : Nat} (h : j ≤ 1000000000) : wrap64 (j : Int) = (j : Int) := IntWalk.wrap64_in _ ⟨by omega, by omega⟩
section
variable {x : Sx} {b n : Nat} {L : List Cg} {W V : World}
/-- The closure is dropped. -/
theorem MidAt.shut {v : Value} (h : MidAt x b L v n W) {g cap : Nat} (hv : x.bv = .slice (some ⟨g, 0, none⟩) (L.length + 1) cap) (T : Chg (fun j => j = b ∨ j = g) (fun j => j = b ∨ j = g) W V)
    (hcell : V.heap[b]? = some (setO { x with bv := .slice (some ⟨g, 0, none⟩) L.length cap } (tot L))) (hrow : V.ownsRow 0 1 1 (.slice (some ⟨g, 0, none⟩) L.length cap) L.length x.vs.reverse) :
    WAt { x with bv := .slice (some ⟨g, 0, none⟩) L.length cap } b L n V ∧ Chg (x.ft b) (Sx.ft { x with bv := .slice (some ⟨g, 0, none⟩) L.length cap } b) W V := by
  have hgo : x.bv.ownBlock = some g := by rw [hv]; rfl
  have hmv : ∀ k, Sx.mv { x with bv := .slice (some ⟨g, 0, none⟩) L.length cap } b k → x.mv b k := fun k hk => by
    rcases hk with e | e | e | e | e | e
    · exact Or.inl e
    · exact Or.inr (Or.inl e)
    · exact Or.inr (Or.inr (Or.inl e))
    · exact Or.inr (Or.inr (Or.inr (Or.inl e)))
    · exact Or.inr (Or.inr (Or.inr (Or.inr (Or.inl e))))
    · exact Or.inr (Or.inr (Or.inr (Or.inr (Or.inr (by rw [hgo]; exact e)))))
  obtain ⟨csb, hcb⟩ := own_block h.brow hgo
  have mne : ∀ k, k = x.mw ∨ k = x.mm ∨ k = x.mg → ¬ (k = b ∨ k = g) := fun k hk e => by
    have hm : ∃ es c, W.heap[k]? = some (.map es c) := by
      rcases hk with e | e | e
      · rw [e]; exact MapFn.obj h.mw
      · rw [e]; exact MapFn.obj h.mm
      · rw [e]; exact MapFn.obj h.mg
    obtain ⟨es, c, hm⟩ := hm
    rcases e with e | e
    · rw [e, h.cell] at hm; cases hm
    · rw [e, hcb] at hm; cases hm
  have lne : ∀ k, x.lv.ownBlock = some k → ¬ (k = b ∨ k = g) := fun k hk e => by
    obtain ⟨cs, hc⟩ := own_block h.lrow hk
    rcases e with e | e
    · rw [e, h.cell] at hc; injection hc with hc; injection hc with _ hc; exact absurd hc (by decide)
    · rw [e, hcb] at hc; injection hc with hc; injection hc with _ hc; exact absurd hc (by decide)
  refine ⟨⟨hcell, h.mw.keep (T.block _ h.mw.lt (mne _ (Or.inl rfl))), h.mm.keep (T.block _ h.mm.lt (mne _ (Or.inr (Or.inl rfl)))), h.mg.keep (T.block _ h.mg.lt (mne _ (Or.inr (Or.inr rfl)))), own_keep h.lrow fun k hk => T.block k (World.ownsRow.lt h.lrow k hk).2 (lne k hk), h.tops, hrow, Clos.more (x := x) (y := { x with bv := .slice (some ⟨g, 0, none⟩) L.length cap }) ⟨rfl, rfl, rfl, fun _ hz => hz⟩ h.clo,
    fun p hp => ⟨(T.block p.1 (lt_of (h.fix p hp).1) fun e => (h.fix p hp).2 (e.elim (fun e => Or.inl e) fun e => Or.inr (Or.inr (Or.inr (Or.inr (Or.inr (by rw [e]; exact hgo))))))).trans (h.fix p hp).1, fun e => (h.fix p hp).2 (hmv _ e)⟩, h.wm, h.wg, h.mn, by have := h.few; omega, h.once⟩,
    T.os, T.tape, T.output, T.size, fun k hk hn => T.block k hk fun e => hn (Or.inl (e.elim (fun e => Or.inl e) fun e => Or.inr (Or.inr (Or.inr (Or.inr (Or.inr (by rw [e]; exact hgo))))))), fun k hk => Or.inl ?_⟩
  rcases hk with e | e
  · exact Or.inl (hmv k e)
  · exact Or.inr e
set_option maxRecDepth 100000 in
set_option maxHeartbeats 4000000 in
theorem back_c (h : WAt x b L n W) (hn : n < 1000000000) (m : Nat) (hm : m ≤ L.length) :
    Calls Try.prog 26 #[ptr b, .int .i64 (m : Nat)] W fun e W' => e = .returned (.bool true) ∧ Step x b (L.drop (L.length - m)) n W W' := by
  have hc := h.cells.1.2.2.2.2.2
  obtain ⟨a0, c0, hv0⟩ := own_any h.brow
  rw [hv0] at hc
  have hm1 : ¬ ((m : Int) < 0) := by omega
  have hm2 : ¬ ((L.length : Int) < (m : Int)) := by omega
  have HH := Lib.hid (And.intro h (And.intro hn hm))
  have hlen : (L.length : Int) ≤ 1000000000 := by have := h.few; omega
  have HL := Lib.hid hlen
  unfold ptr at *
  clear h hn hm hv0
  obtain ⟨l, hl⟩ : ∃ l, l = L.length := ⟨_, rfl⟩
  rw [← hl] at hc hm2 HL ⊢
  have HLL := Lib.hid hl
  clear hl hlen
  go_enter Try.func26, Try.ntmps26
  go_wp2_with fail
  go_loopw [5] (fun _ wr => ∃ k : Nat, k ≤ l - m ∧ Step x b (L.drop k) n W wr) (fun _ wr => sliceLen (wr.cell? ⟨b, 5, none⟩))
  case atStart => exact ⟨0, by omega, x, HH.out.1, Chg.refl _ _, rfl⟩
  case round =>
    obtain ⟨k, hk, x', h1, h2, h3⟩ := hrel
    have hll := HLL.out
    by_cases hd : k = l - m
    · subst hd
      have hbv := h1.cells.1.2.2.2.2.2
      obtain ⟨a1, c1, hv1⟩ := own_any h1.brow
      have hlen : (L.drop (l - m)).length = m := by rw [List.length_drop]; have := HH.out.2.2; omega
      rw [hlen] at hv1
      rw [hv1] at hbv
      have HX := Lib.hid (And.intro h1 (And.intro h2 h3))
      have hmm : ¬ ((m : Int) < (m : Int)) := by omega
      clear h1 h2 h3 hv1 hlen hk hll hc
      go_wp2_with fail
      go_ret
      exact ⟨rfl, x', HX.out.1, HX.out.2.1, HX.out.2.2⟩
    · have hlt : k < L.length := by omega
      obtain ⟨c, hcons⟩ : ∃ c, L.drop k = c :: L.drop (k + 1) := ⟨L[k], List.drop_eq_getElem_cons hlt⟩
      rw [hcons] at h1
      have hj : (L.drop (k + 1)).length = l - k - 1 := by rw [List.length_drop]; omega
      obtain ⟨g, ba, ca, ⟨vs', hvs⟩, hbc, hen, hU⟩ := undo_top h1 HH.out.2.1
      have hrow := h1.brow
      have hll2 : (c :: L.drop (k + 1)).length = (L.drop (k + 1)).length + 1 := rfl
      rw [hll2] at hrow
      obtain ⟨q, cap, cur, hv1, _, hg, hkc, hcm, hsz, hx⟩ := row_form hrow
      have hbv := h1.cells.1.2.2.2.2.2
      rw [hv1] at hbv
      have hvl : vs'.length = (L.drop (k + 1)).length := by
        have := Clos.len h1.clo
        rw [hvs] at this
        simpa using this
      have hcur : wr.cell? ⟨q, (L.drop (k + 1)).length, none⟩ = some (.func (.func g) ba ca) := by
        rw [cell_of hg]
        rw [hvs, List.reverse_cons] at hx
        have e1 : cur[(L.drop (k + 1)).length]? = (cur.toList.take (((L.drop (k + 1)).length + 1) * 1))[(L.drop (k + 1)).length]? := by
          rw [List.getElem?_take_of_lt (by omega)]; simp
        rw [e1, hx, List.getElem?_append_right (by rw [List.length_reverse, hvl]; exact Nat.le_refl _), List.length_reverse, hvl, Nat.sub_self]
        rfl
      obtain ⟨j, hjj⟩ : ∃ j, j = (L.drop (k + 1)).length := ⟨_, rfl⟩
      rw [← hjj] at hbv hcur
      have HR := Lib.hid (And.intro hg (And.intro hkc (And.intro hcm (And.intro hsz hx))))
      clear hg hkc hcm hsz hx
      have hjb : j ≤ 1000000000 := by have := HL.out; omega
      have hjm : m ≤ j := by omega
      have hmj : (m : Int) < (j : Int) + 1 := int_lt hjm
      have hji : (j : Int) < (j : Int) + 1 := int_lt (Nat.le_refl j)
      have hw : wrap64 (j : Int) = (j : Int) := wrap_small hjb
      have HW := Lib.hid hbv
      have HK := Lib.hid (And.intro hk hd)
      have HX := Lib.hid (And.intro h1 (And.intro h2 (And.intro h3 (And.intro hv1 (And.intro hvs (And.intro hjj hbc))))))
      have HC := Lib.hid hU
      clear hjb hjm h1 h2 h3 hv1 hvs hjj hU hrow hll2 hvl hcons hlt hj hd hk hll hc hbc
      go_wp2_with fail
      refine HC.out.mono ?_
      rintro e V ⟨rfl, lv', ts', vs2, hvs2, hM, hC⟩
      have hv1 := HX.out.2.2.2.1
      have hjj := HX.out.2.2.2.2.2.1
      have hbw := cell_of hM.cell 5
      have hbf := free_of hM.cell 5
      simp only [setC, List.getElem?_toArray, List.getElem?_cons_zero, List.getElem?_cons_succ] at hbw
      rw [hv1, ← hjj] at hbw
      have hr := hM.brow
      rw [show (Sx.bv ⟨x'.mw, x'.mm, x'.mg, lv', ts', x'.bv, vs2, x'.fix⟩) = x'.bv from rfl, hv1] at hr
      obtain ⟨q2, cap2, cur2, e9, _, hgq, hkc, hcm, hsz, hx⟩ := row_form hr
      cases e9
      have hqb : q ≠ b := fun e => by
        have hb := hM.cell
        rw [← e, hgq] at hb; injection hb with hb; injection hb with _ hb; exact absurd hb (by decide)
      have hbq : b ≠ q := Ne.symm hqb
      rw [← hjj] at hkc hx
      have hjc : j < cur2.size := by rw [hsz]; omega
      have hcw := cell_of hgq j
      rw [Array.getElem?_eq_getElem hjc] at hcw
      generalize cur2[j] = vo at hcw
      have hcf := free_of hgq j
      have hcap : (j : Int) ≤ (cap : Int) := int_le (by omega)
      have HV := Lib.hid (And.intro hM (And.intro hC (And.intro hgq (And.intro hkc (And.intro hcm (And.intro hsz hx))))))
      clear hM hC hgq hkc hcm hsz hx hr hjc hv1 hjj hvs2 hcur hbv
      go_wp2_with fail

      go_roundw
      case rel =>
        obtain ⟨hM, hC, hgq, hkc, hcm, hsz, hx⟩ := HV.out
        have hjj := HX.out.2.2.2.2.2.1
        have hlen : vs2.length = j := by rw [hjj]; exact Clos.len hM.clo
        have S := hM.shut (g := q) (cap := cap) (V := (V.setCell ⟨q, j, none⟩ .nilFunc).setCell ⟨b, 5, none⟩ (.slice (some ⟨q, 0, none⟩) j cap)) HX.out.2.2.2.1
          (chg_set (chg_set (F := fun j => j = b ∨ j = q) (F' := fun j => j = b ∨ j = q) (Chg.refl _ V) (Or.inl (Or.inr rfl)) j _) (Or.inl (Or.inl rfl)) 5 _) (by
            have h2 := heap_setCell_same _ _ 5 _ _ (.slice (some ⟨q, 0, none⟩) j cap) ((heap_setCell_other V ⟨q, j, none⟩ _ .nilFunc (by simpa using hbq)).trans hM.cell)
            rw [← hjj]
            simpa [setO, setC] using h2) (by
            rw [← hjj]
            have h3 := heap_setCell_same _ _ j _ _ .nilFunc hgq
            have h4 := row_less (V := (V.setCell ⟨q, j, none⟩ .nilFunc).setCell ⟨b, 5, none⟩ (.slice (some ⟨q, 0, none⟩) j cap)) (B := 0) (z := 1) (k' := j) (cur' := cur2.setIfInBounds j .nilFunc) (e := 1) (Nat.zero_le _) hx (Nat.le_succ j) hkc hcm hsz (by simp) (fun i hi => by rw [Array.getElem?_setIfInBounds_ne (by omega)]) ((heap_setCell_other _ _ _ _ (by simpa using hqb)).trans h3)
            rw [List.take_append_of_le_length (by rw [List.length_reverse, hlen]; omega), List.take_of_length_le (by rw [List.length_reverse, hlen]; omega)] at h4
            exact h4)
        rw [← hjj] at S
        refine ⟨k + 1, ?_, _, S.1, (HX.out.2.1.trans hC).trans S.2, HX.out.2.2.1⟩
        exact le_step HK.out.1 HK.out.2
      case measure =>
        have h2 : ((V.setCell ⟨q, j, none⟩ .nilFunc).setCell ⟨b, 5, none⟩ (.slice (some ⟨q, 0, none⟩) j cap)).cell? ⟨b, 5, none⟩ = some (.slice (some ⟨q, 0, none⟩) j cap) := by
          have h3 := cell_of (heap_setCell_same _ _ 5 _ _ (.slice (some ⟨q, 0, none⟩) j cap) ((heap_setCell_other V ⟨q, j, none⟩ _ .nilFunc (by simpa using hbq)).trans HV.out.1.cell)) 5
          rw [h3]; simp [setC]
        rw [h2, HW.out]
        exact Nat.lt_succ_self j
end
end Go.Proofs.Ytginibphicmmmaa
