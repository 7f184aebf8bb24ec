/- Merged: Hfc. -/
import Derived.Test.YtekoaheiapddiaaGreatU36
section
namespace Go.Proofs.YtekoaheiapddiaaGreat.Dz.Wo
open Go.RowKit Go.Maps Mp

theorem Sf.new {p : Pd} {c : Cl} {d N bc m : Nat} {F : Nat → Prop} {sv av : Value} {W V : World} {L : List (Nat × Obj)} (M : Am p c nmC d N F bc m sv av W (fun _ => False) L V) :
    Calls Tryz.prog 26 #[.pointer (some ⟨bc, 0, none⟩)] V fun e V' => e = .returned (.pointer (some ⟨V.heap.size + 2, 0, none⟩)) ∧ Sf (Wd.new (.yes p c)) (V.heap.size + 2) d bc 0 N L W V' := by
  refine (wnew_c (d := d) (bc := bc) (N := N) (z := .yes p c) (ff := ftB F bc m sv av) (W := V) ⟨F, m, sv, av, M.bo, rfl⟩).mono ?_
  rintro e V1 ⟨rfl, h1, h2⟩
  refine ⟨rfl, _, _, h1.ob, M.chg.trans h2, fun x hx => ?_⟩
  obtain ⟨h3, h4, h5⟩ := M.box x hx
  have h6 := lt_of h3
  refine ⟨(h2.block x.1 h6 h5).trans h3, h4, fun e => ?_⟩
  rcases h2.new _ e with e | e
  · exact h5 e
  · omega
theorem Wd.acct_set (w : Wd) {a : Nm} (ha : a.length = 20) (y : AccP) : (w.setAcc a y).acct a = ((y, 0), w.setAcc a y) := by
  have e : (w.setAcc a y).ent a = ⟨true, y, (w.ent a).wi, (w.ent a).sl⟩ := by unfold Wd.setAcc Wd.set; simp [Wd.ent, upf_same]
  unfold Wd.acct
  rw [if_neg (by omega), e, if_pos rfl]
theorem Wd.slot_wiped (w : Wd) {a : Nm} (ha : a.length = 20) (k : Nat) : (w.wiped a).slot a k = ((0, 0), w.wiped a) := by
  have e : (w.wiped a).ent a = ⟨true, AccP.zero, true, fun _ => none⟩ := by unfold Wd.wiped Wd.set; simp [Wd.ent, upf_same]
  unfold Wd.slot
  rw [if_neg (by omega), e]
  rfl
def wF (z : Fz) : Wd := ⟨fun _ => none, [], z⟩
theorem wF_acct {z z' : Fz} {a : Nm} (ha : a.length = 20) {y : AccP} (h : z.acct a = ((y, 0), z')) : (wF z).acct a = ((y, 0), wF z') := by
  unfold Wd.acct
  rw [if_neg (by omega), if_neg (by show ¬ (false = true); decide), show (wF z).far = z from rfl, h]; rfl
theorem wF_slot {z z' : Fz} {a : Nm} (ha : a.length = 20) {k v : Nat} (h : z.slot a k = ((v, 0), z')) : (wF z).slot a k = ((v, 0), wF z') := by
  unfold Wd.slot
  rw [if_neg (by omega)]
  show (if false = true then ((0, 0), wF z) else ((z.slot a k).1, (⟨_, _, (z.slot a k).2⟩ : Wd))) = _
  rw [if_neg (by decide), h]; rfl
theorem wF_slot2 {z : Fz} {a : Nm} (ha : a.length = 20) {k v : Nat} (y : AccP) (h : z.slot a k = ((v, 0), z)) : ((wF z).setAcc a y).slot a k = ((v, 0), (wF z).setAcc a y) := by
  have e : ((wF z).setAcc a y).ent a = ⟨true, y, false, fun _ => none⟩ := by unfold Wd.setAcc Wd.set; simp [Wd.ent, upf_same, wF, Ent.zero]
  unfold Wd.slot
  rw [if_neg (by omega), e]
  show (if false = true then ((0, 0), (wF z).setAcc a y) else ((z.slot a k).1, (⟨_, _, (z.slot a k).2⟩ : Wd))) = _
  rw [if_neg (by decide), h]; rfl
def tA (k bal : Nat) : ToldP := ⟨0, k, bal, [], 0, 1, false, []⟩
def tV (v : Nat) : ToldP := ⟨0, 0, 0, [], v, 0, false, []⟩
theorem tellAV (k bal v : Nat) : scriptP [tA k bal, tV v] = [(rC 1 k bal []).enc 1, (rV 2 v).enc 2] := rfl
theorem toldAV (k bal v : Nat) : (#[.int .u64 0, .int .u64 k, .int .u64 (l3 bal : Nat), .int .u64 (l2 bal : Nat), .int .u64 (l1 bal : Nat), .int .u64 (l0 bal : Nat), .string ⟨#[]⟩, .int .u64 0, .int .u64 0, .int .u64 0, .int .u64 0, .int .u8 1, .bool false, .string ⟨#[]⟩,
    .int .u64 0, .int .u64 0, .int .u64 0, .int .u64 0, .int .u64 0, .int .u64 0, .string ⟨#[]⟩, .int .u64 (l3 v : Nat), .int .u64 (l2 v : Nat), .int .u64 (l1 v : Nat), .int .u64 (l0 v : Nat), .int .u8 0, .bool false, .string ⟨#[]⟩] : Array Value) = toldCells (tA k bal) ++ toldCells (tV v) := by
  simp [toldCells, tA, tV, lim_zero, str]
theorem tolds_two (t u : ToldP) (ht : t.Ok) (hu : u.Ok) (W : World) (T : TypeId) : Tolds (W.alloc (.cells (toldCells t ++ toldCells u) T (0, 0))) (some ⟨W.heap.size, 0, none⟩) [t, u] := by
  have hc : ∀ j, (W.alloc (.cells (toldCells t ++ toldCells u) T (0, 0))).cell? ⟨W.heap.size, j, none⟩ = (toldCells t ++ toldCells u)[j]? := fun j => cell_of (heap_alloc_new W _) j
  have hs : (toldCells t).size = 14 := rfl
  refine Or.inr ⟨W.heap.size, 0, rfl, by simp, fun i x hi => ?_⟩
  match i, hi with
  | 0, hi =>
    simp at hi; subst hi
    exact ⟨ht, fun j hj => by rw [hc, Array.getElem?_append_left (by rw [hs]; omega)]; congr 1; omega⟩
  | 1, hi =>
    simp at hi; subst hi
    exact ⟨hu, fun j hj => by rw [hc, Array.getElem?_append_right (by rw [hs]; omega), hs]; congr 1; omega⟩
  | i + 2, hi => simp at hi
set_option maxRecDepth 100000 in
set_option maxHeartbeats 32000000 in
theorem far_c {k bal v m : Nat} (hk : k < M64) (hbal : bal < W256) (hv : v < W256) (cs : Nm) (W : World) :
    Calls Tryz.prog 10 #[.agg #[.int .u64 k, .int .u64 (l3 bal : Nat), .int .u64 (l2 bal : Nat), .int .u64 (l1 bal : Nat), .int .u64 (l0 bal : Nat), .string (str cs)], .agg #[.int .u64 (l3 v : Nat), .int .u64 (l2 v : Nat), .int .u64 (l1 v : Nat), .int .u64 (l0 v : Nat)], .int .u64 m] W fun e W' => e = .returned (.bool true) ∧ Below W.heap.size W W' := by
  obtain ⟨p1, p2, c1, c2, f1, f2, f3, f4, f5, f6⟩ := far_pure (v := v) hk hbal hv
  have AD := Lib.hid (fun V => address_c 0 (by omega) V)
  rw [show ((0 : Nat) : Int) = 0 from rfl] at AD
  have ha := addr_len (n := 0) (by omega)
  generalize addrP 0 = a at AD ha f1 f2 f3 f4
  have HA := Lib.hid ha
  have HF := Lib.hid (And.intro f1 (And.intro f2 (And.intro f3 (And.intro f4 (And.intro f5 f6)))))
  have HT1 := Lib.hid (show (tA k bal).Ok from ⟨by show 0 < M64; unfold M64; decide, hk, hbal, by show ([] : Nm).length ≤ _; simp, by show 0 < W256; unfold W256; decide, by show 1 < 256; omega⟩)
  have HT2 := Lib.hid (show (tV v).Ok from ⟨by show 0 < M64; unfold M64; decide, by show 0 < M64; unfold M64; decide, by show 0 < W256; unfold W256; decide, by show ([] : Nm).length ≤ _; simp, hv, by show 0 < 256; omega⟩)
  clear ha hk hbal hv f1 f2 f3 f4 f5 f6
  go_enter Tryz.func10, Tryz.ntmps10
  go_wp2_with fail
  refine (exam_c _).mono ?_
  rintro e V0 ⟨rfl, hb⟩
  have M0 := (((An.start (ob0 W)).alloc (.cells #[.int .u64 k, .int .u64 (l3 bal : Nat), .int .u64 (l2 bal : Nat), .int .u64 (l1 bal : Nat), .int .u64 (l0 bal : Nat), .string (str cs)] 82 (0, 0))).alloc (.cells #[.int .u64 (l3 v : Nat), .int .u64 (l2 v : Nat), .int .u64 (l1 v : Nat), .int .u64 (l0 v : Nat)] 61 (0, 0))).call hb
  rw [alloc_size] at M0
  have M1 := M0.sub (L' := [(W.heap.size, .cells #[.int .u64 k, .int .u64 (l3 bal : Nat), .int .u64 (l2 bal : Nat), .int .u64 (l1 bal : Nat), .int .u64 (l0 bal : Nat), .string (str cs)] 82 (0, 0)), (W.heap.size + 1, .cells #[.int .u64 (l3 v : Nat), .int .u64 (l2 v : Nat), .int .u64 (l1 v : Nat), .int .u64 (l0 v : Nat)] 61 (0, 0))]) (by simp)
  have k1 := M1.at (q := W.heap.size) (List.mem_cons_self ..)
  have k2 := heap_setCell_same V0 W.heap.size 5 _ _ (.string ⟨#[]⟩) k1
  have M2 := M1.put (chg_set (F := fun k => k = W.heap.size) (F' := fun k => k = W.heap.size) (Chg.refl _ V0) (Or.inl rfl) 5 (.string ⟨#[]⟩)) (o' := .cells #[.int .u64 k, .int .u64 (l3 bal : Nat), .int .u64 (l2 bal : Nat), .int .u64 (l1 bal : Nat), .int .u64 (l0 bal : Nat), .string ⟨#[]⟩] 82 (0, 0)) (by rw [k2]; rfl) (by simp)
  obtain ⟨⟨_, _, _, _, _, c5⟩, _, _, _, _, _, d5⟩ := cells6 k1
  have H0 := Lib.hid M2
  clear M0 M1 M2 k1 k2 hb
  go_wp2_with fail
  refine (on_new 100000 (by omega) _).mono ?_
  rintro e V1 ⟨d, rfl, F1, h5, h6⟩
  have HN := Lib.hid (cnew_c (name := nmC) h5 (by show (1 : Nat) ≤ maxLen; unfold maxLen; omega) (l := []) (r := []) Fs.nil)
  have H1 := Lib.hid (And.intro h5 h6)
  clear h5 h6 c5 d5
  go_wp2_with fail
  refine HN.out.mono ?_
  rintro e V2 ⟨rfl, h5, h6⟩
  have hM2 := H0.out.chg
  have M2 := Am.new2 (name := nmC) (l := []) ⟨hM2.os, hM2.tape, hM2.output, hM2.size, fun k hk => hM2.block k hk fun e => e⟩ H1.out.1 H1.out.2 h5 h6 (L := [(W.heap.size, .cells #[.int .u64 k, .int .u64 (l3 bal : Nat), .int .u64 (l2 bal : Nat), .int .u64 (l1 bal : Nat), .int .u64 (l0 bal : Nat), .string ⟨#[]⟩] 82 (0, 0)), (W.heap.size + 1, .cells #[.int .u64 (l3 v : Nat), .int .u64 (l2 v : Nat), .int .u64 (l1 v : Nat), .int .u64 (l0 v : Nat)] 61 (0, 0))]) (fun x hx => ⟨(H0.out.box x hx).1, (H0.out.box x hx).2.1⟩)
  clear HN h5 h6 H0 H1 hM2
  generalize V1.heap.size + 1 = bc at *
  generalize V1.heap.size = mm at *
  have C := Lib.hid (Sf.new M2)
  clear M2
  go_wp2_with fail
  refine C.out.mono ?_
  rintro e V3 ⟨rfl, h9⟩
  obtain ⟨b, hb⟩ : ∃ b, b = V2.heap.size + 2 := ⟨_, rfl⟩
  rw [← hb] at h9 ⊢
  have H0 := Lib.hid h9
  clear C h9 hb
  obtain ⟨⟨c1_0, c1_1, c1_2, c1_3, c1_4, c1_5⟩, _⟩ := cells6 (H0.out.at (q := W.heap.size) (o := .cells #[.int .u64 k, .int .u64 (l3 bal : Nat), .int .u64 (l2 bal : Nat), .int .u64 (l1 bal : Nat), .int .u64 (l0 bal : Nat), .string ⟨#[]⟩] 82 (0, 0)) (List.mem_cons_self ..))
  obtain ⟨⟨c2_0, c2_1, c2_2, c2_3⟩, _⟩ := cells4 (H0.out.at (q := W.heap.size + 1) (o := .cells #[.int .u64 (l3 v : Nat), .int .u64 (l2 v : Nat), .int .u64 (l1 v : Nat), .int .u64 (l0 v : Nat)] 61 (0, 0)) (List.mem_cons_of_mem _ (List.mem_cons_self ..)))
  have hT := tolds_two (tA k bal) (tV v) HT1.out HT2.out V3 102
  rw [← toldAV] at hT
  have C := Lib.hid (script10_c [tA k bal, tV v] (some ⟨V3.heap.size, 0, none⟩) 2 _ hT (by simp))
  rw [tellAV, show (List.length [tA k bal, tV v]) = 2 from rfl] at C
  clear hT HT1 HT2
  go_wp2_with fail
  refine C.out.mono ?_
  rintro e V4 ⟨v9, rfl, ho, h9⟩
  have H1 := Lib.hid ((H0.out.alloc _).call h9)
  obtain ⟨a9, c9, hf9⟩ := ho.form
  subst hf9
  have C2 := Lib.hid (Sf.script (G := fun _ => none) (old := []) (p := Pd.new 100000) (c := ⟨[], [], []⟩) H1.out [(rC 1 k bal []).enc 1, (rV 2 v).enc 2] a9 c9 (src_own ho) (by show 0 + 2 ≤ _; omega))
  rw [show (List.length [(rC 1 k bal []).enc 1, (rV 2 v).enc 2]) = 2 from rfl] at C2
  clear C ho h9 H0
  clear c1_0 c1_1 c1_2 c1_3 c1_4 c1_5 c2_0 c2_1 c2_2 c2_3
  go_wp2_with fail
  refine C2.out.mono ?_
  rintro e V5 ⟨rfl, h9⟩
  replace h9 : Sf (wF (.yes (Pd.new 100000) ⟨[], [(rC 1 k bal []).enc 1, (rV 2 v).enc 2], []⟩)) b d bc 0 0 _ W V5 := h9
  have H2 := Lib.hid h9
  clear C2 h9 H1
  go_wp2_with fail
  refine (AD.out _).mono ?_
  rintro e V6 ⟨rfl, h9⟩
  have H3 := Lib.hid (H2.out.call h9)
  clear H2 h9
  have C := Lib.hid (H3.out.acct ⟨askOk, by show 0 ≤ _; omega, by omega⟩ a)
  rw [wF_acct HA.out HF.out.1] at C
  simp only at C
  unfold accCells at C
  rw [show str [] = ⟨#[]⟩ from rfl] at C
  go_wp2_with fail
  refine C.out.mono ?_
  rintro e V7 ⟨rfl, h9⟩
  have H4 := Lib.hid (h9.alloc (.cells #[.int .u64 k, .int .u64 (l3 bal : Nat), .int .u64 (l2 bal : Nat), .int .u64 (l1 bal : Nat), .int .u64 (l0 bal : Nat), .string ⟨#[]⟩] 82 (0, 0)))
  clear H3 h9
  clear C
  go_wp2_with fail
  refine (AD.out _).mono ?_
  rintro e V8 ⟨rfl, h9⟩
  have H5 := Lib.hid (H4.out.call h9)
  clear H4 h9
  have C := Lib.hid (H5.out.slot ⟨askOk, by have := HF.out.2.2.2.2.1; omega, by omega⟩ a (k := 0) (by unfold W256; decide))
  rw [wF_slot HA.out HF.out.2.1] at C
  simp only at C
  rw [wordC_zero] at C
  unfold wordC at C
  go_wp2_with fail
  refine C.out.mono ?_
  rintro e V9 ⟨rfl, h9⟩
  have H6 := Lib.hid (h9.alloc (.cells #[.int .u64 (l3 v : Nat), .int .u64 (l2 v : Nat), .int .u64 (l1 v : Nat), .int .u64 (l0 v : Nat)] 61 (0, 0)))
  clear H5 h9
  clear C
  go_wp2_with fail
  refine (AD.out _).mono ?_
  rintro e V10 ⟨rfl, h9⟩
  have H7 := Lib.hid (H6.out.call h9)
  clear H6 h9
  have C := Lib.hid (H7.out.nonce ⟨askOk, by have := HF.out.2.2.2.2.2; omega, by omega⟩ (by omega) a m)
  rw [show (wF (.yes p2 c2)).alter a (fun y => ⟨m, y.bal, y.code⟩) = (0, (wF (.yes p2 c2)).setAcc a ⟨m, bal, []⟩) by unfold Wd.alter; rw [wF_acct HA.out HF.out.2.2.1]; rfl] at C
  simp only at C
  go_wp2_with fail
  refine C.out.mono ?_
  rintro e V11 ⟨rfl, h9⟩
  have H8 := Lib.hid h9
  clear H7 h9
  clear C
  go_wp2_with fail
  refine (AD.out _).mono ?_
  rintro e V12 ⟨rfl, h9⟩
  have H9 := Lib.hid (H8.out.call h9)
  clear H8 h9
  have C := Lib.hid (H9.out.acct ⟨askOk, by have := HF.out.2.2.2.2.2; omega, by omega⟩ a)
  rw [Wd.acct_set _ HA.out] at C
  simp only at C
  unfold accCells at C
  rw [show str [] = ⟨#[]⟩ from rfl] at C
  go_wp2_with fail
  refine C.out.mono ?_
  rintro e V13 ⟨rfl, h9⟩
  have H10 := Lib.hid (h9.alloc (.cells #[.int .u64 m, .int .u64 (l3 bal : Nat), .int .u64 (l2 bal : Nat), .int .u64 (l1 bal : Nat), .int .u64 (l0 bal : Nat), .string ⟨#[]⟩] 82 (0, 0)))
  clear H9 h9
  clear C
  obtain ⟨w3, hw3⟩ : ∃ w3, w3 = (wF (.yes p2 c2)).setAcc a ⟨m, bal, []⟩ := ⟨_, rfl⟩
  rw [← hw3] at H10
  have HF3 := Lib.hid (show w3.far = .yes p2 c2 by rw [hw3]; rfl)
  have HO3 := Lib.hid (show w3.old.length = 1 by rw [hw3]; rfl)
  have HS3 := Lib.hid (show w3.slot a 0 = ((v, 0), w3) by rw [hw3]; exact wF_slot2 HA.out _ HF.out.2.2.2.1)
  clear hw3
  have C := Lib.hid (H10.out.mark)
  rw [HO3.out, show ((1 : Nat) : Int) = 1 from rfl] at C
  go_wp2_with fail
  refine C.out.mono ?_
  rintro e V14 ⟨rfl, rfl⟩
  clear C
  go_wp2_with fail
  refine (AD.out _).mono ?_
  rintro e V15 ⟨rfl, h9⟩
  have H11 := Lib.hid (H10.out.call h9)
  clear H10 h9
  have C := Lib.hid (H11.out.delete (by omega) HA.out)
  go_wp2_with fail
  refine C.out.mono ?_
  rintro e V16 ⟨rfl, h9⟩
  have H12 := Lib.hid h9
  clear H11 h9
  clear C
  go_wp2_with fail
  refine (AD.out _).mono ?_
  rintro e V17 ⟨rfl, h9⟩
  have H13 := Lib.hid (H12.out.call h9)
  clear H12 h9
  have C := Lib.hid (H13.out.slot (by rw [show (w3.wiped a).far = w3.far from rfl, HF3.out]; exact ⟨askOk, by have := HF.out.2.2.2.2.2; omega, by omega⟩) a (k := 0) (by unfold W256; decide))
  rw [Wd.slot_wiped _ HA.out] at C
  simp only at C
  rw [wordC_zero] at C
  go_wp2_with fail
  refine C.out.mono ?_
  rintro e V18 ⟨rfl, h9⟩
  have H14 := Lib.hid (h9.alloc (.cells #[.int .u64 0, .int .u64 0, .int .u64 0, .int .u64 0] 61 (0, 0)))
  clear H13 h9
  clear C
  go_wp2_with fail
  refine (AD.out _).mono ?_
  rintro e V19 ⟨rfl, h9⟩
  have H15 := Lib.hid (H14.out.call h9)
  clear H14 h9
  have C := Lib.hid (fun V => wFrom (x := 7) (by unfold M64; omega) V)
  rw [show ((7 : Nat) : Int) = 7 from rfl] at C
  go_wp2_with fail
  refine (C.out _).mono ?_
  rintro e V20 ⟨rfl, h9⟩
  have H16 := Lib.hid (H15.out.call h9)
  clear H15 h9
  clear C
  have C := Lib.hid (H16.out.slot (by rw [show (w3.wiped a).far = w3.far from rfl, HF3.out]; exact ⟨askOk, by have := HF.out.2.2.2.2.2; omega, by omega⟩) a (k := 7) (by unfold W256; decide))
  rw [Wd.slot_wiped _ HA.out] at C
  simp only at C
  rw [wordC_zero] at C
  go_wp2_with fail
  refine C.out.mono ?_
  rintro e V21 ⟨rfl, h9⟩
  have H17 := Lib.hid (h9.alloc (.cells #[.int .u64 0, .int .u64 0, .int .u64 0, .int .u64 0] 61 (0, 0)))
  clear H16 h9
  clear C
  have C := Lib.hid (H17.out.backTo (w0 := w3) (by omega) (mk := 1) (by show 1 ≤ w3.old.length + 1; omega) rfl (by show pops (w3.old.length + 1 - 1) _ _ = _; rw [HO3.out]; rfl))
  rw [show ((1 : Nat) : Int) = 1 from rfl] at C
  go_wp2_with fail
  refine C.out.mono ?_
  rintro e V22 ⟨rfl, h9⟩
  have H18 := Lib.hid h9
  clear H17 h9
  clear C
  go_wp2_with fail
  refine (AD.out _).mono ?_
  rintro e V23 ⟨rfl, h9⟩
  have H19 := Lib.hid (H18.out.call h9)
  clear H18 h9
  have C := Lib.hid (H19.out.slot (by rw [HF3.out]; exact ⟨askOk, by have := HF.out.2.2.2.2.2; omega, by omega⟩) a (k := 0) (by unfold W256; decide))
  rw [HS3.out] at C
  simp only at C
  rw [wordC_zero] at C
  unfold wordC at C
  go_wp2_with fail
  refine C.out.mono ?_
  rintro e V24 ⟨rfl, h9⟩
  have H20 := Lib.hid (h9.alloc (.cells #[.int .u64 (l3 v : Nat), .int .u64 (l2 v : Nat), .int .u64 (l1 v : Nat), .int .u64 (l0 v : Nat)] 61 (0, 0)))
  clear H19 h9
  clear C
  obtain ⟨⟨c3_0, c3_1, c3_2, c3_3, c3_4, c3_5⟩, _⟩ := cells6 (H20.out.at (q := V7.heap.size) (o := .cells #[.int .u64 k, .int .u64 (l3 bal : Nat), .int .u64 (l2 bal : Nat), .int .u64 (l1 bal : Nat), .int .u64 (l0 bal : Nat), .string ⟨#[]⟩] 82 (0, 0)) (List.mem_cons_of_mem _ (List.mem_cons_of_mem _ (List.mem_cons_of_mem _ (List.mem_cons_of_mem _ (List.mem_cons_of_mem _ (List.mem_cons_self ..)))))))
  obtain ⟨⟨c4_0, c4_1, c4_2, c4_3, c4_4, c4_5⟩, _⟩ := cells6 (H20.out.at (q := W.heap.size) (o := .cells #[.int .u64 k, .int .u64 (l3 bal : Nat), .int .u64 (l2 bal : Nat), .int .u64 (l1 bal : Nat), .int .u64 (l0 bal : Nat), .string ⟨#[]⟩] 82 (0, 0)) (List.mem_cons_of_mem _ (List.mem_cons_of_mem _ (List.mem_cons_of_mem _ (List.mem_cons_of_mem _ (List.mem_cons_of_mem _ (List.mem_cons_of_mem _ (List.mem_cons_of_mem _ (List.mem_cons_self ..)))))))))
  obtain ⟨⟨c5_0, c5_1, c5_2, c5_3⟩, _⟩ := cells4 (H20.out.at (q := V9.heap.size) (o := .cells #[.int .u64 (l3 v : Nat), .int .u64 (l2 v : Nat), .int .u64 (l1 v : Nat), .int .u64 (l0 v : Nat)] 61 (0, 0)) (List.mem_cons_of_mem _ (List.mem_cons_of_mem _ (List.mem_cons_of_mem _ (List.mem_cons_of_mem _ (List.mem_cons_self ..))))))
  obtain ⟨⟨c6_0, c6_1, c6_2, c6_3⟩, _⟩ := cells4 (H20.out.at (q := W.heap.size + 1) (o := .cells #[.int .u64 (l3 v : Nat), .int .u64 (l2 v : Nat), .int .u64 (l1 v : Nat), .int .u64 (l0 v : Nat)] 61 (0, 0)) (List.mem_cons_of_mem _ (List.mem_cons_of_mem _ (List.mem_cons_of_mem _ (List.mem_cons_of_mem _ (List.mem_cons_of_mem _ (List.mem_cons_of_mem _ (List.mem_cons_of_mem _ (List.mem_cons_of_mem _ (List.mem_cons_self ..))))))))))
  obtain ⟨⟨c7_0, c7_1, c7_2, c7_3, c7_4, c7_5⟩, _⟩ := cells6 (H20.out.at (q := V13.heap.size) (o := .cells #[.int .u64 m, .int .u64 (l3 bal : Nat), .int .u64 (l2 bal : Nat), .int .u64 (l1 bal : Nat), .int .u64 (l0 bal : Nat), .string ⟨#[]⟩] 82 (0, 0)) (List.mem_cons_of_mem _ (List.mem_cons_of_mem _ (List.mem_cons_of_mem _ (List.mem_cons_self ..)))))
  obtain ⟨⟨c8_0, c8_1, c8_2, c8_3⟩, _⟩ := cells4 (H20.out.at (q := V18.heap.size) (o := .cells #[.int .u64 0, .int .u64 0, .int .u64 0, .int .u64 0] 61 (0, 0)) (List.mem_cons_of_mem _ (List.mem_cons_of_mem _ (List.mem_cons_self ..))))
  obtain ⟨⟨c9_0, c9_1, c9_2, c9_3⟩, _⟩ := cells4 (H20.out.at (q := V21.heap.size) (o := .cells #[.int .u64 0, .int .u64 0, .int .u64 0, .int .u64 0] 61 (0, 0)) (List.mem_cons_of_mem _ (List.mem_cons_self ..)))
  obtain ⟨⟨c10_0, c10_1, c10_2, c10_3⟩, _⟩ := cells4 (H20.out.at (q := V24.heap.size) (o := .cells #[.int .u64 (l3 v : Nat), .int .u64 (l2 v : Nat), .int .u64 (l1 v : Nat), .int .u64 (l0 v : Nat)] 61 (0, 0)) (List.mem_cons_self ..))
  have EA := eq_acc ⟨0, k, bal, [], 0⟩
  unfold accC at EA
  simp only [show str [] = ⟨#[]⟩ from rfl] at EA
  have C := Lib.hid (H20.out.asked HF3.out (by have := HF.out.2.2.2.2.2; omega))
  skip
  go_wp2_with fail
  refine C.out.mono ?_
  rintro e V25 ⟨v8, rfl, ho8, hb8⟩
  obtain ⟨a8, c8, hf8⟩ := ho8.form
  rw [HF.out.2.2.2.2.2] at hf8
  subst hf8
  have HL := Lib.hid (H20.out.call hb8).below
  go_wp2_with fail
  go_ret
  exact ⟨rfl, HL.out⟩
theorem farA_c (k bal v m : Nat) (cs : ByteArray) (hk : k < M64) (hbal : bal < W256) (hv : v < W256) (W : World) :
    Calls Tryz.prog 10 #[.agg #[.int .u64 k, .int .u64 (l3 bal : Nat), .int .u64 (l2 bal : Nat), .int .u64 (l1 bal : Nat), .int .u64 (l0 bal : Nat), .string cs], .agg #[.int .u64 (l3 v : Nat), .int .u64 (l2 v : Nat), .int .u64 (l1 v : Nat), .int .u64 (l0 v : Nat)], .int .u64 m] W fun e W' => e = .returned (.bool true) ∧ Below W.heap.size W W' := by
  have h := far_c (m := m) hk hbal hv cs.data.toList W
  rwa [str_of'] at h
end Go.Proofs.YtekoaheiapddiaaGreat.Dz.Wo
end
