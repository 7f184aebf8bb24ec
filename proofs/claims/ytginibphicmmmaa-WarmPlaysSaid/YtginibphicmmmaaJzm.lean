/- The reference's Leaving: its walk. -/
import Derived.Test.YtginibphicmmmaaJzl
namespace Go.Proofs.Ytginibphicmmmaa
open Go.RowKit Go.Maps Go.Sort Go.Shelf Mp
/-- A row of texts that has been made since W. -/
structure Pt (W V : World) (v : Value) (l : List Nm) : Prop where
  row : V.ownsRow W.heap.size 9 1 v l.length (txts l)
  below : Below W.heap.size W V
theorem Pt.start (W : World) : Pt W W (.slice none 0 0) [] := ⟨World.ownsRow_nil _ _ _ _, Below.refl _ _⟩
theorem Pt.on {W V V' : World} {v : Value} {l : List Nm} (h : Pt W V v l) (b : Below V.heap.size V V') : Pt W V' v l :=
  ⟨own_keep h.row fun k hk => b.block k (World.ownsRow.lt h.row k hk).2, h.below.trans (b.mono h.below.size)⟩
theorem Pt.add {W V V' : World} {v t : Value} {l m : List Nm} (h : Pt W V v l) (r : V'.ownsRow W.heap.size 9 1 t (l.length + m.length) (txts l ++ txts m)) (g : V.grownBy V' v.ownBlock) : Pt W V' t (l ++ m) :=
  ⟨by rw [List.length_append]; unfold txts at *; rw [List.map_append]; exact r, ⟨g.os.trans h.below.os, g.tape.trans h.below.tape, g.output.trans h.below.output, Nat.le_trans h.below.size g.size, fun k hk => (g.block k (Nat.lt_of_lt_of_le hk h.below.size) fun e1 => by have := (World.ownsRow.lt h.row k e1.symm).1; omega).trans (h.below.block k hk)⟩⟩
theorem Pt.back {W V V' : World} {v : Value} {l : List Nm} (h : Pt V V' v l) (b : Below W.heap.size W V) : Pt W V' v l := ⟨own_base h.row b.size, b.trans (h.below.mono b.size)⟩
theorem take_txt {V : World} {g k c : Nat} {l : List Nm} (h : ∀ j s, l[j]? = some s → V.cell? ⟨g, j, none⟩ = some (.string (str s))) (hk : k ≤ l.length) : TxtAt V (.slice (some ⟨g, 0, none⟩) k c) (l.take k) :=
  ⟨_, c, by rw [List.length_take, Nat.min_eq_left hk], fun e => (by cases e), fun ad e j s hs => by
    cases e
    have hj : j < k := by have := (List.getElem?_eq_some_iff.1 hs).1; rw [List.length_take] at this; omega
    rw [List.getElem?_take_of_lt hj] at hs
    have h1 := h j s hs
    have e1 : (⟨g, 0, none⟩ : Addr).add j = ⟨g, j, none⟩ := by unfold Addr.add; by_cases hj : j = 0 <;> simp [hj]
    rw [e1]; exact h1⟩
theorem drop_txt {V : World} {g k c n : Nat} {l : List Nm} (h : ∀ j s, l[j]? = some s → V.cell? ⟨g, j, none⟩ = some (.string (str s))) (hn : n = l.length - k) : TxtAt V (.slice (some ⟨g, k, none⟩) n c) (l.drop k) :=
  ⟨_, c, by rw [List.length_drop, hn], fun e => (by cases e), fun ad e j s hs => by
    cases e
    rw [List.getElem?_drop] at hs
    have h1 := h (k + j) s hs
    have e1 : (⟨g, k, none⟩ : Addr).add j = ⟨g, k + j, none⟩ := by unfold Addr.add; by_cases hj : j = 0 <;> simp [hj]
    rw [e1]; exact h1⟩
theorem one_txt (V : World) (a : Nm) : TxtAt (V.alloc (.cells #[.string (str a)] 9 (0, 0))) (.slice (some ⟨V.heap.size, 0, none⟩) 1 1) [a] :=
  ⟨_, 1, rfl, fun e => (by cases e), fun ad e j s hs => by
    cases e
    match j, hs with
    | 0, hs => cases hs; exact cell_of (heap_alloc_new V _) 0⟩
theorem nil_txt (V : World) : TxtAt V (.slice none 0 0) [] := ⟨none, 0, rfl, fun _ => ⟨rfl, rfl⟩, fun _ e => (by cases e)⟩
theorem str_lss (l m : Nm) : Op.bytesLess (str l).toList (str m).toList = decide (l < m) := by rw [bytesLess_eq, ByteArray.toList_eq, ByteArray.toList_eq, str_list, str_list]
section
variable {e : Nat} {rv : Value} {ts : List Value} {fx : List (Nat × Obj)} {M : List Cg} {W : World}
theorem txt_cell {V : World} {B n g c : Nat} {l : List Nm} (h : V.ownsRow B 9 1 (.slice (some ⟨g, 0, none⟩) n c) l.length (txts l)) (j : Nat) (s : Nm) (hs : l[j]? = some s) : V.cell? ⟨g, j, none⟩ = some (.string (str s)) := by
  rcases txt_row h with ⟨e1, _⟩ | ⟨g1, e1, _, _, _, h1⟩
  · cases e1
  · injection e1 with e1
    injection e1 with e1
    subst e1
    exact h1 j s hs
theorem RAt.adr {gg nn cc : Nat} (h : RAt e (.slice (some ⟨gg, 0, none⟩) nn cc) ts fx M W) {i : Nat} {c : Cg} (hc : M[i]? = some c) : W.cell? ⟨gg, i * 10 + 1, none⟩ = some (.string (str c.adr)) := by
  obtain ⟨g1, cap1, t1, e1, _, _, hcell⟩ := h.at hc
  injection e1 with e1 e2 e3
  injection e1 with e1
  injection e1 with e1
  subst e1
  have x1 := hcell 1 (by omega)
  simpa only [chE, List.getElem?_cons_zero, List.getElem?_cons_succ] using x1
theorem len_a {l : List Nm} {k : Nat} (h : l.length < 900001) : ([] : List Nm).length + (l.take k).length ≤ 1000000 := by simp; omega
theorem len_b {l : List Nm} {k : Nat} {a : Nm} (h : l.length < 900001) : ([] ++ l.take k).length + [a].length ≤ 1000000 := by simp; omega
theorem len_c {l : List Nm} {k : Nat} {a : Nm} (h : l.length < 900001) : ([] ++ l.take k ++ [a]).length + (l.drop k).length ≤ 1000000 := by simp; omega
set_option maxRecDepth 100000 in
set_option maxHeartbeats 8000000 in
theorem rleaving_c (h : RAt e rv ts fx M W) (hM : M.length < 900000) : Calls Try.prog 12 #[ptr e] W fun r W' => ∃ v, r = .returned v ∧ Pt W W' v (leavO M) := by
  obtain ⟨ra, rc, hrv⟩ := own_any h.row
  obtain ⟨nM, hnM⟩ : ∃ nM, nM = M.length := ⟨_, rfl⟩
  rw [← hnM] at hrv hM
  subst hrv
  have HH := Lib.hid (And.intro h (And.intro hnM hM))
  obtain ⟨P, hP⟩ : ∃ P : Ending → World → Prop, P = fun r W' => ∃ v, r = .returned v ∧ Pt W W' v (leavO M) := ⟨_, rfl⟩
  rw [← hP]
  have HP := Lib.hid hP
  clear h hnM hM hP
  unfold ptr
  go_enter Try.func12, Try.ntmps12
  go_wp2_with fail
  go_loopw [3, 4] (fun ov iv wr => ∃ i : Nat, i ≤ nM ∧ iv = .int .i64 (i : Nat) ∧ Pt W wr ov (leavO (M.take i))) (fun _ iv _ => nM - (intOf iv).toNat)
  case atStart => exact ⟨0, Nat.zero_le _, rfl, Pt.start W⟩
  case round =>
    obtain ⟨i, hi, rfl, hL⟩ := hrel
    have hR := (HH.out.1.ob.below hL.below).it
    have d0 := cell_of hR.cell 0
    simp only [List.getElem?_toArray, List.getElem?_cons_zero] at d0
    by_cases hlt : i < nM
    · obtain ⟨c, hc⟩ : ∃ c, M[i]? = some c := ⟨_, List.getElem?_eq_getElem (by rw [← HH.out.2.1]; exact hlt)⟩
      obtain ⟨g, cap, t, e1, _, htop, hcell⟩ := hR.at hc
      injection e1 with e1 e2 e3
      subst e1 e3
      have x0 := hcell 0 (by omega)
      simp only [chE, List.getElem?_cons_zero, Nat.add_zero] at x0
      have hli : (i : Int) < (nM : Int) := int_lt' hlt
      have hwi : wrap64 ((i : Int) + 1) = (i : Int) + 1 := wrap_big (Nat.lt_trans hlt (Nat.lt_trans HH.out.2.2 (by decide)))
      by_cases ck : c.kind = 6
      · have hkk : (c.kind : Int) = 6 := by omega
        rw [hkk] at x0
        have HX := Lib.hid (And.intro hlt (And.intro hL (And.intro hc (leav_gone hc ck))))
        clear hL hc hlt hR hcell e2 hi htop ck hkk
        obtain ⟨l, hl⟩ : ∃ l, l = leavO (M.take i) := ⟨_, rfl⟩
        have hL := HX.out.2.1
        rw [← hl] at hL
        obtain ⟨av, cv, hov⟩ := own_any hL.row
        obtain ⟨nl, hnl⟩ : ∃ nl, nl = l.length := ⟨_, rfl⟩
        rw [← hnl] at hov
        subst hov
        have HL := Lib.hid (And.intro hl (And.intro hnl hL))
        clear hl hnl hL
        have HBIG := Lib.hid (show nl < 1000000000 by have h1 := leav_few (M.take i); rw [← HL.out.1, ← HL.out.2.1, List.length_take, ← HH.out.2.1] at h1; have := HH.out.2.2; omega)
        go_upto_region 7 with fail
        go_loopw [5] (fun kv V => ∃ k : Nat, k ≤ nl ∧ kv = .int .i64 (k : Nat) ∧ (∀ j s, j < k → l[j]? = some s → s < c.adr) ∧ Below wr.heap.size wr V) (fun kv _ => nl - (intOf kv).toNat)
        case atStart => exact ⟨0, Nat.zero_le _, rfl, fun _ _ h => absurd h (Nat.not_lt_zero _), Below.refl _ _⟩
        case round =>
          obtain ⟨k, hk, rfl, hno, hb⟩ := hrel
          have hL := HL.out.2.2.on hb
          have hlen := HL.out.2.1
          have hB := HL.out.2.2.below.trans (hb.mono HL.out.2.2.below.size)
          have hR := (HH.out.1.ob.below hB).it
          have d0 := cell_of hR.cell 0
          simp only [List.getElem?_toArray, List.getElem?_cons_zero] at d0
          obtain ⟨g1, cap1, t1, e1, _, _, hcell⟩ := hR.at HX.out.2.2.1
          injection e1 with e1 e2 e3
          injection e1 with e1
          injection e1 with e1
          subst e1 e3
          have x1 := hcell 1 (by omega)
          simp only [chE, List.getElem?_cons_zero, List.getElem?_cons_succ] at x1
          have HY := Lib.hid (And.intro hk (And.intro hno (And.intro hb hL)))
          clear hno hb hcell hR hB e2
          rcases txt_row hL.row with ⟨rfl, rfl, rfl, rfl⟩ | ⟨g2, rfl, -, hcp, hg2, ocell⟩
          · obtain rfl : k = 0 := Nat.le_zero.1 hk
            clear hk hlen hL
            go_wp2_with fail
            go_quiet (fail)
            obtain ⟨V, hV⟩ : ∃ V, V = wr.drewN nq := ⟨_, rfl⟩
            rw [← hV]
            have hbV : Below wr.heap.size wr V := by rw [hV]; exact bel_drewN _ _
            clear hV d0 x1
            have HV := Lib.hid (HL.out.2.2.on (HY.out.2.2.1.trans (hbV.mono HY.out.2.2.1.size)))
            clear hbV
            have HTK := Lib.hid (nil_txt V)
            have HDR := Lib.hid (fun (V2 : World) (_ : Below V.heap.size V V2) => nil_txt V2)
            have HLEN := Lib.hid (show ([] : List Nm).length < 900001 by decide)
            go_upto_region 11 with (at_builtin; refine wpList_append_txt (by rfl) _ _ (by rfl) (dv := .slice none 0 0) (tv := .slice none 0 0) (xs := txts []) (n := ([] : List Nm).length) (B := V.heap.size) (l := ([] : List Nm)) (by rfl) (by rfl) (Pt.start V).row HTK.out (by decide) (Nat.le_refl _) ?_; intro t1 V1 r1 g1 o1; have HA := Lib.hid (Pt.add (Pt.start V) r1 g1); have hR := (HH.out.1.ob.below (HV.out.below.trans (HA.out.below.mono HV.out.below.size))).it; have d0 := cell_of hR.cell 0; have x1 := hR.adr HX.out.2.2.1; simp only [List.getElem?_toArray, List.getElem?_cons_zero] at d0; clear hR r1 g1 o1)
            go_upto_region 12 with (at_builtin; refine wpList_append_txt (by rfl) _ _ (by rfl) (dv := t1) (tv := .slice (some ⟨V1.heap.size, 0, none⟩) 1 1) (xs := txts ([] ++ ([] : List Nm))) (n := ([] ++ ([] : List Nm)).length) (B := V.heap.size) (l := [c.adr]) (by rfl) (by rfl) (HA.out.on (below_new V1 _)).row (one_txt V1 c.adr) (by simp) (Nat.le_trans HA.out.below.size (below_new V1 (.cells #[.string (str c.adr)] 9 (0, 0))).size) ?_; intro t2 V2 r2 g2 o2; have HA2 := Lib.hid (Pt.add (HA.out.on (below_new V1 _)) r2 g2); clear r2 g2 o2 d0 x1)
            go_wp2_with (at_builtin; refine wpList_append_txt (by rfl) _ _ (by rfl) (dv := t2) (tv := .slice none 0 0) (xs := txts ([] ++ ([] : List Nm) ++ [c.adr])) (n := ([] ++ ([] : List Nm) ++ [c.adr]).length) (B := V.heap.size) (l := ([] : List Nm)) (by rfl) (by rfl) HA2.out.row (HDR.out V2 HA2.out.below) (by simp) HA2.out.below.size ?_; intro t3 V3 r3 g3 o3; have HA3 := Lib.hid (Pt.add HA2.out r3 g3); clear r3 g3 o3)
            go_roundw
            case rel => exact ⟨i + 1, HX.out.1, by go_num, by rw [HX.out.2.2.2, ← HL.out.1, show ins c.adr [] = [] ++ [] ++ [c.adr] ++ [] from rfl]; exact (by simpa using HA3.out.back HV.out.below)⟩
            case measure => first | exact meas2 HX.out.1 | (rw [hwi]; exact meas2 HX.out.1)
          · by_cases hkn : k < nl
            · obtain ⟨s, hs⟩ : ∃ s, l[k]? = some s := ⟨_, List.getElem?_eq_getElem (by omega)⟩
              have oc := ocell k s hs
              have hki : (k : Int) < (nl : Int) := int_lt' hkn
              have hss := str_lss s c.adr
              by_cases hsa : s < c.adr
              · rw [decide_eq_true hsa] at hss
                have HZ := Lib.hid (And.intro hkn (And.intro hs hsa))
                clear hk hkn hs hsa ocell hL hlen hcp hg2
                have hwk : wrap64 ((k : Int) + 1) = (k : Int) + 1 := wrap_big (Nat.lt_trans HZ.out.1 (HBIG.out))
                go_wp2_with fail
                go_quiet (fail)
                go_wp2_with fail
                go_roundw
                case rel => exact ⟨k + 1, HZ.out.1, by go_num, fun j s' hj hs' => by
                  by_cases e1 : j = k
                  · subst e1; rw [HZ.out.2.1] at hs'; cases hs'; exact HZ.out.2.2
                  · exact HY.out.2.1 j s' (by omega) hs', HY.out.2.2.1.trans ((bel_drewN _ _).mono HY.out.2.2.1.size)⟩
                case measure => first | exact meas2 HZ.out.1 | (rw [hwk]; exact meas2 HZ.out.1)
              · rw [decide_eq_false hsa] at hss
                have HKL := Lib.hid (show k ≤ l.length by omega)
                have HIN := Lib.hid (fun s' (h' : l[k]? = some s') => show ¬ s' < c.adr by rw [hs] at h'; cases h'; exact hsa)
                have hkc : (k : Int) ≤ (cv : Int) := by omega
                have hkl : (k : Int) ≤ (nl : Int) := by omega
                have hkx : ¬ k = cv := by omega
                have hky : ¬ cv = k := by omega
                have hkz : ¬ cv ≤ k := by omega
                clear hk hkn hs hsa ocell hL hlen hcp hg2
                go_wp2_with fail
                go_quiet (fail)
                obtain ⟨V, hV⟩ : ∃ V, V = wr.drewN nq := ⟨_, rfl⟩
                rw [← hV]
                have hbV : Below wr.heap.size wr V := by rw [hV]; exact bel_drewN _ _
                clear hV d0 x1
                have HV := Lib.hid (HL.out.2.2.on (HY.out.2.2.1.trans (hbV.mono HY.out.2.2.1.size)))
                clear hbV
                have HTK := Lib.hid (take_txt (c := cv) (k := k) (fun j s hs => txt_cell HV.out.row j s hs) HKL.out)
                have HDR := Lib.hid (fun (V2 : World) (hb2 : Below V.heap.size V V2) => drop_txt (c := cv - k) (k := k) (n := nl - k) (fun j s hs => txt_cell (HV.out.on hb2).row j s hs) (by rw [HL.out.2.1]))
                have HLEN := Lib.hid (show l.length < 900001 by have h1 := leav_few (M.take i); rw [← HL.out.1, List.length_take, ← HH.out.2.1] at h1; have := HH.out.2.2; omega)
                go_upto_region 11 with (at_builtin; refine wpList_append_txt (by rfl) _ _ (by rfl) (dv := .slice none 0 0) (tv := .slice (some ⟨g2, 0, none⟩) k cv) (xs := txts []) (n := ([] : List Nm).length) (B := V.heap.size) (l := (l.take k)) (by rfl) (by rfl) (Pt.start V).row HTK.out (len_a HLEN.out) (Nat.le_refl _) ?_; intro t1 V1 r1 g1 o1; have HA := Lib.hid (Pt.add (Pt.start V) r1 g1); have hR := (HH.out.1.ob.below (HV.out.below.trans (HA.out.below.mono HV.out.below.size))).it; have d0 := cell_of hR.cell 0; have x1 := hR.adr HX.out.2.2.1; simp only [List.getElem?_toArray, List.getElem?_cons_zero] at d0; clear hR r1 g1 o1)
                go_upto_region 12 with (at_builtin; refine wpList_append_txt (by rfl) _ _ (by rfl) (dv := t1) (tv := .slice (some ⟨V1.heap.size, 0, none⟩) 1 1) (xs := txts ([] ++ (l.take k))) (n := ([] ++ (l.take k)).length) (B := V.heap.size) (l := [c.adr]) (by rfl) (by rfl) (HA.out.on (below_new V1 _)).row (one_txt V1 c.adr) (len_b HLEN.out) (Nat.le_trans HA.out.below.size (below_new V1 (.cells #[.string (str c.adr)] 9 (0, 0))).size) ?_; intro t2 V2 r2 g2 o2; have HA2 := Lib.hid (Pt.add (HA.out.on (below_new V1 _)) r2 g2); clear r2 g2 o2 d0 x1)
                go_wp2_with (at_builtin; refine wpList_append_txt (by rfl) _ _ (by rfl) (dv := t2) (tv := .slice (some ⟨g2, k, none⟩) (nl - k) (cv - k)) (xs := txts ([] ++ (l.take k) ++ [c.adr])) (n := ([] ++ (l.take k) ++ [c.adr]).length) (B := V.heap.size) (l := (l.drop k)) (by rfl) (by rfl) HA2.out.row (HDR.out V2 HA2.out.below) (len_c HLEN.out) HA2.out.below.size ?_; intro t3 V3 r3 g3 o3; have HA3 := Lib.hid (Pt.add HA2.out r3 g3); clear r3 g3 o3)
                go_roundw
                case rel => exact ⟨i + 1, HX.out.1, by go_num, by rw [HX.out.2.2.2, ← HL.out.1, ins_at c.adr l k HKL.out HY.out.2.1 HIN.out]; exact (by simpa using HA3.out.back HV.out.below)⟩
                case measure => first | exact meas2 HX.out.1 | (rw [hwi]; exact meas2 HX.out.1)
            · have HKL := Lib.hid (show k ≤ l.length by omega)
              have HIN := Lib.hid (fun s' (h' : l[k]? = some s') => show ¬ s' < c.adr by have := (List.getElem?_eq_some_iff.1 h').1; omega)
              have hkc : (k : Int) ≤ (cv : Int) := by omega
              have hkl : (k : Int) ≤ (nl : Int) := by omega
              have hki : decide (k < nl) = false := decide_eq_false hkn
              by_cases hky : cv = k
              · have HEND := Lib.hid (show l.length ≤ k by omega)
                clear hk hkn ocell hL hlen hcp hg2 hkc
                subst hky
                go_wp2_with fail
                go_quiet (fail)
                obtain ⟨V, hV⟩ : ∃ V, V = wr.drewN nq := ⟨_, rfl⟩
                rw [← hV]
                have hbV : Below wr.heap.size wr V := by rw [hV]; exact bel_drewN _ _
                clear hV d0 x1
                have HV := Lib.hid (HL.out.2.2.on (HY.out.2.2.1.trans (hbV.mono HY.out.2.2.1.size)))
                clear hbV
                have HTK := Lib.hid (take_txt (c := cv) (k := cv) (fun j s hs => txt_cell HV.out.row j s hs) HKL.out)
                have HDR := Lib.hid (fun (V2 : World) (_ : Below V.heap.size V V2) => (⟨_, 0, by rw [List.length_drop, HL.out.2.1], fun e => (by cases e), fun ad e j s hs => by rw [List.drop_eq_nil_of_le HEND.out] at hs; simp at hs⟩ : TxtAt V2 (.slice (some ⟨g2, 0, none⟩) (nl - cv) 0) (l.drop cv)))
                have HLEN := Lib.hid (show l.length < 900001 by have h1 := leav_few (M.take i); rw [← HL.out.1, List.length_take, ← HH.out.2.1] at h1; have := HH.out.2.2; omega)
                go_upto_region 11 with (at_builtin; refine wpList_append_txt (by rfl) _ _ (by rfl) (dv := .slice none 0 0) (tv := .slice (some ⟨g2, 0, none⟩) cv cv) (xs := txts []) (n := ([] : List Nm).length) (B := V.heap.size) (l := (l.take cv)) (by rfl) (by rfl) (Pt.start V).row HTK.out (len_a HLEN.out) (Nat.le_refl _) ?_; intro t1 V1 r1 g1 o1; have HA := Lib.hid (Pt.add (Pt.start V) r1 g1); have hR := (HH.out.1.ob.below (HV.out.below.trans (HA.out.below.mono HV.out.below.size))).it; have d0 := cell_of hR.cell 0; have x1 := hR.adr HX.out.2.2.1; simp only [List.getElem?_toArray, List.getElem?_cons_zero] at d0; clear hR r1 g1 o1)
                go_upto_region 12 with (at_builtin; refine wpList_append_txt (by rfl) _ _ (by rfl) (dv := t1) (tv := .slice (some ⟨V1.heap.size, 0, none⟩) 1 1) (xs := txts ([] ++ (l.take cv))) (n := ([] ++ (l.take cv)).length) (B := V.heap.size) (l := [c.adr]) (by rfl) (by rfl) (HA.out.on (below_new V1 _)).row (one_txt V1 c.adr) (len_b HLEN.out) (Nat.le_trans HA.out.below.size (below_new V1 (.cells #[.string (str c.adr)] 9 (0, 0))).size) ?_; intro t2 V2 r2 g2 o2; have HA2 := Lib.hid (Pt.add (HA.out.on (below_new V1 _)) r2 g2); clear r2 g2 o2 d0 x1)
                go_wp2_with (at_builtin; refine wpList_append_txt (by rfl) _ _ (by rfl) (dv := t2) (tv := .slice (some ⟨g2, 0, none⟩) (nl - cv) 0) (xs := txts ([] ++ (l.take cv) ++ [c.adr])) (n := ([] ++ (l.take cv) ++ [c.adr]).length) (B := V.heap.size) (l := (l.drop cv)) (by rfl) (by rfl) HA2.out.row (HDR.out V2 HA2.out.below) (len_c HLEN.out) HA2.out.below.size ?_; intro t3 V3 r3 g3 o3; have HA3 := Lib.hid (Pt.add HA2.out r3 g3); clear r3 g3 o3)
                go_roundw
                case rel => exact ⟨i + 1, HX.out.1, by go_num, by rw [HX.out.2.2.2, ← HL.out.1, ins_at c.adr l cv HKL.out HY.out.2.1 HIN.out]; exact (by simpa using HA3.out.back HV.out.below)⟩
                case measure => first | exact meas2 HX.out.1 | (rw [hwi]; exact meas2 HX.out.1)
              · have hkx : ¬ k = cv := fun e1 => hky e1.symm
                have hkz : ¬ cv ≤ k := by omega
                clear hk hkn ocell hL hlen hcp hg2
                go_wp2_with fail
                go_quiet (fail)
                obtain ⟨V, hV⟩ : ∃ V, V = wr.drewN nq := ⟨_, rfl⟩
                rw [← hV]
                have hbV : Below wr.heap.size wr V := by rw [hV]; exact bel_drewN _ _
                clear hV d0 x1
                have HV := Lib.hid (HL.out.2.2.on (HY.out.2.2.1.trans (hbV.mono HY.out.2.2.1.size)))
                clear hbV
                have HTK := Lib.hid (take_txt (c := cv) (k := k) (fun j s hs => txt_cell HV.out.row j s hs) HKL.out)
                have HDR := Lib.hid (fun (V2 : World) (hb2 : Below V.heap.size V V2) => drop_txt (c := cv - k) (k := k) (n := nl - k) (fun j s hs => txt_cell (HV.out.on hb2).row j s hs) (by rw [HL.out.2.1]))
                have HLEN := Lib.hid (show l.length < 900001 by have h1 := leav_few (M.take i); rw [← HL.out.1, List.length_take, ← HH.out.2.1] at h1; have := HH.out.2.2; omega)
                go_upto_region 11 with (at_builtin; refine wpList_append_txt (by rfl) _ _ (by rfl) (dv := .slice none 0 0) (tv := .slice (some ⟨g2, 0, none⟩) k cv) (xs := txts []) (n := ([] : List Nm).length) (B := V.heap.size) (l := (l.take k)) (by rfl) (by rfl) (Pt.start V).row HTK.out (len_a HLEN.out) (Nat.le_refl _) ?_; intro t1 V1 r1 g1 o1; have HA := Lib.hid (Pt.add (Pt.start V) r1 g1); have hR := (HH.out.1.ob.below (HV.out.below.trans (HA.out.below.mono HV.out.below.size))).it; have d0 := cell_of hR.cell 0; have x1 := hR.adr HX.out.2.2.1; simp only [List.getElem?_toArray, List.getElem?_cons_zero] at d0; clear hR r1 g1 o1)
                go_upto_region 12 with (at_builtin; refine wpList_append_txt (by rfl) _ _ (by rfl) (dv := t1) (tv := .slice (some ⟨V1.heap.size, 0, none⟩) 1 1) (xs := txts ([] ++ (l.take k))) (n := ([] ++ (l.take k)).length) (B := V.heap.size) (l := [c.adr]) (by rfl) (by rfl) (HA.out.on (below_new V1 _)).row (one_txt V1 c.adr) (len_b HLEN.out) (Nat.le_trans HA.out.below.size (below_new V1 (.cells #[.string (str c.adr)] 9 (0, 0))).size) ?_; intro t2 V2 r2 g2 o2; have HA2 := Lib.hid (Pt.add (HA.out.on (below_new V1 _)) r2 g2); clear r2 g2 o2 d0 x1)
                go_wp2_with (at_builtin; refine wpList_append_txt (by rfl) _ _ (by rfl) (dv := t2) (tv := .slice (some ⟨g2, k, none⟩) (nl - k) (cv - k)) (xs := txts ([] ++ (l.take k) ++ [c.adr])) (n := ([] ++ (l.take k) ++ [c.adr]).length) (B := V.heap.size) (l := (l.drop k)) (by rfl) (by rfl) HA2.out.row (HDR.out V2 HA2.out.below) (len_c HLEN.out) HA2.out.below.size ?_; intro t3 V3 r3 g3 o3; have HA3 := Lib.hid (Pt.add HA2.out r3 g3); clear r3 g3 o3)
                go_roundw
                case rel => exact ⟨i + 1, HX.out.1, by go_num, by rw [HX.out.2.2.2, ← HL.out.1, ins_at c.adr l k HKL.out HY.out.2.1 HIN.out]; exact (by simpa using HA3.out.back HV.out.below)⟩
                case measure => first | exact meas2 HX.out.1 | (rw [hwi]; exact meas2 HX.out.1)
      · have hkk : ((c.kind : Int) == 6) = false := by simp; omega
        have HX := Lib.hid (And.intro hlt (And.intro hL (leav_none hc ck)))
        clear hL hc hlt hR hcell e2 hi htop ck
        go_wp2_with fail
        go_roundw
        case rel => exact ⟨i + 1, HX.out.1, by go_num, by rw [HX.out.2.2]; exact HX.out.2.1⟩
        case measure => first | exact meas2 HX.out.1 | (rw [hwi]; exact meas2 HX.out.1)
    · obtain rfl : i = nM := Nat.le_antisymm hi (Nat.le_of_not_lt hlt)
      have hni : ¬ ((i : Int) < (i : Int)) := Int.lt_irrefl _
      have HX := Lib.hid hL
      clear hL hR hi hlt
      go_wp2_with fail
      have ha := HX.out
      rw [show M.take i = M by rw [HH.out.2.1]; exact List.take_length] at ha
      rw [HP.out]
      exact ⟨_, rfl, ha⟩
end
end Go.Proofs.Ytginibphicmmmaa
