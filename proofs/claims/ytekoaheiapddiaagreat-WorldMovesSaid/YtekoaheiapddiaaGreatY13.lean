/- Merged: Hk, Hl, Hm, Hn. -/
import Derived.Test.YtekoaheiapddiaaGreatY12
import Derived.Test.YtekoaheiapddiaaGreatY08
section
namespace Go.Proofs.YtekoaheiapddiaaGreat.Dz.Wo
open Go.RowKit Go.Maps Mp

section
variable {w : Wd} {b d bc n N : Nat} {x : Sx} {ff : Nat → Prop} {W : World}
theorem acct_len {w : Wd} {a : Nm} (h : (w.acct a).1.2 = 0) : a.length = 20 := by
  unfold Wd.acct at h
  by_cases h2 : a.length ≠ 20
  · rw [if_pos h2] at h; cases h
  · omega
set_option maxRecDepth 100000 in
set_option maxHeartbeats 8000000 in
theorem alter_c (h : Pw w b d bc n N x ff W) (hN : FzOk N w.far) (hn : n < 900000) (a : Nm) {g qc : Nat} {oc : Obj} (hg : ∀ args w, (callFunc g args).run Tryz.prog w = .ok (.enter g args) w) (hqc : W.heap[qc]? = some oc) (hqf : ¬ ftP x b ff qc) (f : AccP → AccP)
    (hcl : ∀ (V : World), V.heap[qc]? = some oc → ∀ y, Calls Tryz.prog g #[.agg (accCells y), .pointer (some ⟨qc, 0, none⟩)] V fun e V' => e = .returned (.agg (accCells (f y))) ∧ Below V.heap.size V V') :
    Calls Tryz.prog 78 #[.pointer (some ⟨b, 0, none⟩), .string (str a), .func (.func g) #[] #[.pointer (some ⟨qc, 0, none⟩)]] W fun e W' => e = .returned (.int .i64 (w.alter a f).1) ∧ Lv (w.alter a f).2 b d bc (n + 2) (N + 4) (ftP x b ff) W W' := by
  have C := Lib.hid (account_c h hN a)
  have hw : w.alter a f = if (w.acct a).1.2 ≠ 0 then ((w.acct a).1.2, (w.acct a).2) else (0, (w.acct a).2.setAcc a (f (w.acct a).1.1)) := rfl
  have hal := fun h => acct_len (w := w) (a := a) h
  obtain ⟨⟨⟨y, e0⟩, w1⟩, hres⟩ : ∃ res, res = w.acct a := ⟨_, rfl⟩
  rw [← hres] at C hw hal
  simp only at C hal hw
  have HH := Lib.hid (And.intro hn (And.intro hqc (And.intro hqf hal)))
  have HC := Lib.hid hcl
  have HP := Lib.hid (An.start h.ob)
  clear h hN hn hres hqc hqf hal hcl
  unfold accCells at C
  by_cases he : e0 = 0
  · rw [hw, if_neg (fun e => e he)]
    have hl := HH.out.2.2.2 he
    subst he
    clear hw
    simp only
    go_enter Tryz.func78, Tryz.ntmps78
    go_wp2_with fail
    refine C.out.mono ?_
    rintro e V1 ⟨rfl, x1, ff1, h1, h2⟩
    have M1 := (HP.out.step h1.ob h2).alloc (accO y)
    obtain ⟨q0, hq0⟩ : ∃ q0, q0 = V1.heap.size := ⟨_, rfl⟩
    have hc1 : V1.heap[qc]? = some oc := (h2.block qc (lt_of HH.out.2.1) HH.out.2.2.1).trans HH.out.2.1
    have hc2 : (V1.alloc (accO y)).heap[qc]? = some oc := (((Below.refl _ V1).alloc (Nat.le_refl _) _).block qc (lt_of hc1)).trans hc1
    have hc3 : ¬ ftP x1 b ff1 qc := fun hf => by
      rcases h2.new qc hf with e | e
      · exact HH.out.2.2.1 e
      · have := lt_of HH.out.2.1; omega
    have HM := Lib.hid (And.intro M1 (And.intro hc2 (And.intro hc3 hq0)))
    clear M1 h1 h2 hc1 hc2 hc3 C hq0
    unfold accO at HM
    unfold accCells at HM
    go_wp2_with fail
    obtain ⟨M1, hc2, hc3, hq0⟩ := HM.out
    rw [← hq0] at M1 ⊢
    have M := M1.call (Below.refl _ _).drew
    generalize World.alloc V1 _ = V2 at M hc2 ⊢
    clear M1 HM hq0
    have H0 : V2.drew.heap[q0]? = some (accO y) ∧ V2.drew.heap[qc]? = some oc := ⟨M.at (List.mem_cons_self ..), hc2⟩
    have HS := Lib.hid (fun (V : World) (hV : V.heap[q0]? = some (accO y) ∧ V.heap[qc]? = some oc) => (show V.cell? ⟨q0, 0, none⟩ = some (.int .u64 (y.nonce : Nat)) ∧ V.cell? ⟨q0, 1, none⟩ = some (.int .u64 (l3 y.bal : Nat)) ∧ V.cell? ⟨q0, 2, none⟩ = some (.int .u64 (l2 y.bal : Nat)) ∧ V.cell? ⟨q0, 3, none⟩ = some (.int .u64 (l1 y.bal : Nat)) ∧ V.cell? ⟨q0, 4, none⟩ = some (.int .u64 (l0 y.bal : Nat)) ∧ V.cell? ⟨q0, 5, none⟩ = some (.string (str y.code)) from ⟨cell_of hV.1 0, cell_of hV.1 1, cell_of hV.1 2, cell_of hV.1 3, cell_of hV.1 4, cell_of hV.1 5⟩))
    refine Drawn.start (fun V => V.heap[q0]? = some (accO y) ∧ V.heap[qc]? = some oc) (fun _ => false) (by kernel_rfl) ?_
    generalize World.drew _ = V7 at M H0 ⊢
    refine Drawn.take 0 (some 18) (v := ?_) rfl rfl (by kernel_rfl) (by kernel_rfl) (by kernel_rfl) (by kernel_rfl) (by kernel_rfl) rfl (fun _ _ _ h => h) (Or.inl ⟨rfl, ?_⟩) H0 ?_
    rotate_left
    · intro W hW; have hW := HS.out W hW; go_simp; try with_reducible rfl
    simp only [put_list, List.set]
    refine Drawn.take 1 (some 19) (v := ?_) rfl rfl (by kernel_rfl) (by kernel_rfl) (by kernel_rfl) (by kernel_rfl) (by kernel_rfl) rfl (fun _ _ _ h => h) (Or.inl ⟨rfl, ?_⟩) H0 ?_
    rotate_left
    · intro W hW; have hW := HS.out W hW; go_simp; try with_reducible rfl
    simp only [put_list, List.set]
    refine Drawn.take 2 (some 20) (v := ?_) rfl rfl (by kernel_rfl) (by kernel_rfl) (by kernel_rfl) (by kernel_rfl) (by kernel_rfl) rfl (fun _ _ _ h => h) (Or.inl ⟨rfl, ?_⟩) H0 ?_
    rotate_left
    · intro W hW; have hW := HS.out W hW; go_simp; try with_reducible rfl
    simp only [put_list, List.set]
    refine Drawn.take 3 (some 21) (v := ?_) rfl rfl (by kernel_rfl) (by kernel_rfl) (by kernel_rfl) (by kernel_rfl) (by kernel_rfl) rfl (fun _ _ _ h => h) (Or.inl ⟨rfl, ?_⟩) H0 ?_
    rotate_left
    · intro W hW; have hW := HS.out W hW; go_simp; try with_reducible rfl
    simp only [put_list, List.set]
    refine Drawn.take 4 (some 22) (v := ?_) rfl rfl (by kernel_rfl) (by kernel_rfl) (by kernel_rfl) (by kernel_rfl) (by kernel_rfl) rfl (fun _ _ _ h => h) (Or.inl ⟨rfl, ?_⟩) H0 ?_
    rotate_left
    · intro W hW; have hW := HS.out W hW; go_simp; try with_reducible rfl
    simp only [put_list, List.set]
    refine Drawn.take 5 (some 23) (v := ?_) rfl rfl (by kernel_rfl) (by kernel_rfl) (by kernel_rfl) (by kernel_rfl) (by kernel_rfl) rfl (fun _ _ _ h => h) (Or.inl ⟨rfl, ?_⟩) H0 ?_
    rotate_left
    · intro W hW; have hW := HS.out W hW; go_simp; try with_reducible rfl
    simp only [put_list, List.set]
    refine Drawn.only 6 (by kernel_rfl) rfl rfl (fun K hK => ?_)
    go_simp
    refine (HC.out V7 H0.2 y).mono ?_
    rintro e V8 ⟨rfl, hb8⟩
    have M8 := M.call hb8
    have c8 := (hb8.block qc (lt_of H0.2)).trans H0.2
    refine hK _ _ (fun _ _ => ⟨M8.at (List.mem_cons_self ..), c8⟩) ?_
    clear hK K H0 M hb8
    try simp only [put_list, List.set]
    refine Drawn.only 7 (by kernel_rfl) rfl rfl (fun K hK => ?_)
    go_simp
    have h8 := M8.ob.it
    refine (setAccount_c h8.at_ (by have := HH.out.1; omega) hl (f y)).mono ?_
    rintro e V9 ⟨rfl, hS⟩
    have hT := hS.told h8.rep (fun m hm => h8.rep.alone hm)
    have e9 : (Ch.mk true (f y) (x1.s.ch a).wi (x1.s.ch a).sl).ent x1.s.I = ⟨true, f y, (w1.ent a).wi, (w1.ent a).sl⟩ := by
      have e := h8.rep.ent a
      unfold Wd.ent
      rw [e]
      rfl
    rw [e9] at hT
    have HL := Lib.hid (hT.lv M8)
    obtain ⟨x', h1, h2, h3⟩ := hT
    have M9 := M8.step (h8.act h1 h2 h3).1.ob (h8.act h1 h2 h3).2
    refine hK _ _ (fun _ _ => ⟨M9.at (List.mem_cons_self ..), (h3.block qc (lt_of c8) (fun e => hc3 (Or.inl e))).trans c8⟩) ?_
    clear hK K HS c8 h1 h2 h3 M8 M9 h8 hS e9
    try simp only [put_list, List.set]
    refine Drawn.done (by kernel_rfl) ?_ _
    go_wp2_with fail
    go_ret
    exact ⟨rfl, HL.out.mono (by omega) (Nat.le_refl _)⟩
  · rw [hw, if_pos he]
    clear hw
    simp only
    go_enter Tryz.func78, Tryz.ntmps78
    go_wp2_with fail
    refine C.out.mono ?_
    rintro e V1 ⟨rfl, x1, ff1, h1, h2⟩
    have HM := Lib.hid ((HP.out.step h1.ob h2).alloc (accO y))
    clear h1 h2 C
    go_wp2_with fail
    go_ret
    exact ⟨rfl, (Lv.mk HM.out).mono (by omega) (Nat.le_refl _)⟩
end
end Go.Proofs.YtekoaheiapddiaaGreat.Dz.Wo
end
section
namespace Go.Proofs.YtekoaheiapddiaaGreat.Dz.Wo
open Go.RowKit Go.Maps Mp

section
variable {w : Wd} {b d bc n N : Nat} {x : Sx} {ff : Nat → Prop} {W : World}
theorem Lv.after {w' : Wd} {n' N' : Nat} {F0 : Nat → Prop} {L : List (Nat × Obj)} {V W' : World} (h : Lv w' b d bc n' N' (ftP x b ff) V W') (M : An (Pw w b d bc n N x ff) (ftP x b ff) W F0 L V) : Lv w' b d bc n' N' F0 W W' := by
  obtain ⟨x', ff', h1, h2⟩ := h
  exact Lv.mk (M.step h1.ob h2)
set_option maxRecDepth 100000 in
set_option maxHeartbeats 4000000 in
theorem nonce_cl (m : Nat) (qc : Nat) (V : World) (hq : V.heap[qc]? = some (.cells #[.int .u64 (m : Nat)] 41 (0, 0))) (y : AccP) :
    Calls Tryz.prog 79 #[.agg (accCells y), .pointer (some ⟨qc, 0, none⟩)] V fun e V' => e = .returned (.agg (accCells ⟨m, y.bal, y.code⟩)) ∧ Below V.heap.size V V' := by
  have hq2 := ((((Below.refl V.heap.size V).alloc (Nat.le_refl _) (accO y)).alloc (by simp) acc.tO).block qc (lt_of hq)).trans hq
  have c0 : ((V.alloc (accO y)).alloc acc.tO).cell? ⟨qc, 0, none⟩ = some (.int .u64 (m : Nat)) := cell_of hq2 0
  have M := ((Bl.start V).alloc (accO ⟨m, y.bal, y.code⟩)).alloc (accO ⟨m, y.bal, y.code⟩)
  have HM := Lib.hid M
  clear hq hq2 M
  unfold accO at *
  unfold accCells acc.tO at *
  go_enter Tryz.func79, Tryz.ntmps79
  go_wp2_with fail
  exact bodyPost_ret (results_cell_row Tryz.results79 _ _ _ _ _ _ _ rfl (HM.out.at (q := V.heap.size + 1) (by rw [alloc_size]; exact List.mem_cons_self ..)) Tryz.underlying82 rfl (by kernel_rfl)) rfl ⟨rfl, HM.out.below⟩
set_option maxRecDepth 100000 in
set_option maxHeartbeats 4000000 in
theorem balance_cl (v : Nat) (qc : Nat) (V : World) (hq : V.heap[qc]? = some (wordO v)) (y : AccP) :
    Calls Tryz.prog 90 #[.agg (accCells y), .pointer (some ⟨qc, 0, none⟩)] V fun e V' => e = .returned (.agg (accCells ⟨y.nonce, v, y.code⟩)) ∧ Below V.heap.size V V' := by
  have hq2 := ((((Below.refl V.heap.size V).alloc (Nat.le_refl _) (accO y)).alloc (by simp) acc.tO).block qc (lt_of hq)).trans hq
  have c0 : ((V.alloc (accO y)).alloc acc.tO).cell? ⟨qc, 0, none⟩ = some (.int .u64 (l3 v : Nat)) := cell_of hq2 0
  have c1 : ((V.alloc (accO y)).alloc acc.tO).cell? ⟨qc, 1, none⟩ = some (.int .u64 (l2 v : Nat)) := cell_of hq2 1
  have c2 : ((V.alloc (accO y)).alloc acc.tO).cell? ⟨qc, 2, none⟩ = some (.int .u64 (l1 v : Nat)) := cell_of hq2 2
  have c3 : ((V.alloc (accO y)).alloc acc.tO).cell? ⟨qc, 3, none⟩ = some (.int .u64 (l0 v : Nat)) := cell_of hq2 3
  have M := ((Bl.start V).alloc (accO ⟨y.nonce, v, y.code⟩)).alloc (accO ⟨y.nonce, v, y.code⟩)
  have HM := Lib.hid M
  clear hq hq2 M
  unfold accO at *
  unfold accCells acc.tO at *
  go_enter Tryz.func90, Tryz.ntmps90
  go_wp2_with fail
  exact bodyPost_ret (results_cell_row Tryz.results90 _ _ _ _ _ _ _ rfl (HM.out.at (q := V.heap.size + 1) (by rw [alloc_size]; exact List.mem_cons_self ..)) Tryz.underlying82 rfl (by kernel_rfl)) rfl ⟨rfl, HM.out.below⟩
end
end Go.Proofs.YtekoaheiapddiaaGreat.Dz.Wo
end
section
namespace Go.Proofs.YtekoaheiapddiaaGreat.Dz.Wo
open Go.RowKit Go.Maps Mp

section
variable {w : Wd} {b d bc n N : Nat} {x : Sx} {ff : Nat → Prop} {W : World}
set_option maxRecDepth 100000 in
set_option maxHeartbeats 4000000 in
theorem wSetNonce_c (h : Pw w b d bc n N x ff W) (hN : FzOk N w.far) (hn : n < 900000) (a : Nm) (m : Nat) :
    Calls Tryz.prog 33 #[.pointer (some ⟨b, 0, none⟩), .string (str a), .int .u64 (m : Nat)] W fun e W' => e = .returned (.int .i64 (w.alter a (fun y => ⟨m, y.bal, y.code⟩)).1) ∧ Lv (w.alter a (fun y => ⟨m, y.bal, y.code⟩)).2 b d bc (n + 2) (N + 4) (ftP x b ff) W W' := by
  have M := (An.start h.ob).alloc (.cells #[.int .u64 (m : Nat)] 41)
  have C := Lib.hid (alter_c M.ob.it hN hn a (g := 79) (enters_of Tryz.func79 (by kernel_rfl) rfl) (M.at (List.mem_cons_self ..)) (M.box _ (List.mem_cons_self ..)).2.2 (fun y => ⟨m, y.bal, y.code⟩) (fun V hV y => nonce_cl m _ V hV y))
  have HM := Lib.hid M
  clear h hN hn M
  go_enter Tryz.func33, Tryz.ntmps33
  go_wp2_with fail
  refine C.out.mono ?_
  rintro e V1 ⟨rfl, hL⟩
  have HL := Lib.hid (hL.after HM.out)
  clear hL
  go_wp2_with fail
  go_ret
  exact ⟨rfl, HL.out⟩
set_option maxRecDepth 100000 in
set_option maxHeartbeats 4000000 in
theorem wSetBalance_c (h : Pw w b d bc n N x ff W) (hN : FzOk N w.far) (hn : n < 900000) (a : Nm) (v : Nat) :
    Calls Tryz.prog 40 #[.pointer (some ⟨b, 0, none⟩), .string (str a), .agg (wordC v)] W fun e W' => e = .returned (.int .i64 (w.alter a (fun y => ⟨y.nonce, v, y.code⟩)).1) ∧ Lv (w.alter a (fun y => ⟨y.nonce, v, y.code⟩)).2 b d bc (n + 2) (N + 4) (ftP x b ff) W W' := by
  have M := (An.start h.ob).alloc (wordO v)
  have C := Lib.hid (alter_c M.ob.it hN hn a (g := 90) (enters_of Tryz.func90 (by kernel_rfl) rfl) (M.at (List.mem_cons_self ..)) (M.box _ (List.mem_cons_self ..)).2.2 (fun y => ⟨y.nonce, v, y.code⟩) (fun V hV y => balance_cl v _ V hV y))
  have HM := Lib.hid M
  clear h hN hn M
  unfold wordO at *
  unfold wordC at *
  go_enter Tryz.func40, Tryz.ntmps40
  go_wp2_with fail
  refine C.out.mono ?_
  rintro e V1 ⟨rfl, hL⟩
  have HL := Lib.hid (hL.after HM.out)
  clear hL
  go_wp2_with fail
  go_ret
  exact ⟨rfl, HL.out⟩
end
theorem wLess {x y : Nat} (hx : x < W256) (hy : y < W256) (W : World) : Calls Tryz.prog 43 #[.agg (wordC x), .agg (wordC y)] W fun e W' => e = .returned (.bool (decide (x < y))) ∧ Below W.heap.size W W' :=
  (Less_c (dig_of hx) (dig_of hy) W).mono fun _ _ h => h
theorem retD {n : Nat} {W W' : World} {e : Ending} (h : RetD n W e W') : e = .returned (.agg (wordC n)) ∧ Below W.heap.size W W' := by
  obtain ⟨s3, s2, s1, s0, rfl, hd, hb⟩ := h
  obtain ⟨rfl, rfl, rfl, rfl⟩ := dig_eq hd
  exact ⟨rfl, hb⟩
theorem wAdd {x y : Nat} (hx : x < W256) (hy : y < W256) (W : World) : Calls Tryz.prog 44 #[.agg (wordC x), .agg (wordC y)] W fun e W' => e = .returned (.agg (wordC ((x + y) % W256))) ∧ Below W.heap.size W W' :=
  (Add_d (dig_of hx) (dig_of hy) W).mono fun _ _ h => retD h
theorem wSub {x y : Nat} (hx : x < W256) (hy : y < W256) (W : World) : Calls Tryz.prog 45 #[.agg (wordC x), .agg (wordC y)] W fun e W' => e = .returned (.agg (wordC ((x + W256 - y) % W256))) ∧ Below W.heap.size W W' :=
  (Sub_d (dig_of hx) (dig_of hy) W).mono fun _ _ h => retD h
theorem wEq {x y : Nat} (hx : x < W256) (hy : y < W256) (W : World) : (binOp .eql 61 (.agg (wordC x)) (.agg (wordC y))).run Tryz.prog W = .ok (.bool (decide (x = y))) W := by
  by_cases h : x = y
  · subst h
    unfold wordC
    rw [eq_words]
    simp
  · rw [show decide (x = y) = false by simpa using h]
    exact eq_word_not (dig_of hx) (dig_of hy) h W
end Go.Proofs.YtekoaheiapddiaaGreat.Dz.Wo
end
section
namespace Go.Proofs.YtekoaheiapddiaaGreat.Dz.Wo
open Go.RowKit Go.Maps Mp

section
variable {w : Wd} {b d bc n N : Nat} {x : Sx} {ff : Nat → Prop} {W : World}
theorem setAcc_lv {w1 : Wd} {n1 N1 : Nat} {x1 : Sx} {ff1 : Nat → Prop} {V W' : World} {a : Nm} {y : AccP} (h : Pw w1 b d bc n1 N1 x1 ff1 V) (hS : SetR x1 b n1 (fvOf w1.far bc) a ⟨true, y, (x1.s.ch a).wi, (x1.s.ch a).sl⟩ V W') : Lv (w1.setAcc a y) b d bc (n1 + 1) N1 (ftP x1 b ff1) V W' := by
  have hT := hS.told h.rep (fun m hm => h.rep.alone hm)
  have e9 : (Ch.mk true y (x1.s.ch a).wi (x1.s.ch a).sl).ent x1.s.I = ⟨true, y, (w1.ent a).wi, (w1.ent a).sl⟩ := by
    have e := h.rep.ent a
    unfold Wd.ent
    rw [e]
    rfl
  rw [e9] at hT
  exact hT.lv (An.start h.ob)
theorem mem3 {α : Type} {a b c : α} {L : List α} (ha : a ∈ L) (hb : b ∈ L) (hc : c ∈ L) : ∀ z ∈ [a, b, c], z ∈ L := fun z hz => by
  rcases List.mem_cons.1 hz with rfl | hz
  · exact ha
  · rcases List.mem_cons.1 hz with rfl | hz
    · exact hb
    · rw [List.mem_singleton] at hz; rw [hz]; exact hc
theorem accBal {I : World → Prop} {ft F0 : Nat → Prop} {W V : World} {L : List (Nat × Obj)} {q : Nat} {y : AccP} (M : An I ft W F0 ((q, accO y) :: L) V) (z : Nat) (hL : ∀ x ∈ L, x.1 ≠ q) :
    An I ft W F0 ((q, accO ⟨y.nonce, z, y.code⟩) :: L) ((((V.setCell ⟨q, 1, none⟩ (.int .u64 (l3 z : Nat))).setCell ⟨q, 2, none⟩ (.int .u64 (l2 z : Nat))).setCell ⟨q, 3, none⟩ (.int .u64 (l1 z : Nat))).setCell ⟨q, 4, none⟩ (.int .u64 (l0 z : Nat))) := by
  have h := M.at (List.mem_cons_self ..)
  have s : ∀ {W1 : World}, Chg (fun k => k = q) (fun k => k = q) V W1 → ∀ j u, Chg (fun k => k = q) (fun k => k = q) V (W1.setCell ⟨q, j, none⟩ u) := fun h j u => chg_set (F := fun k => k = q) (F' := fun k => k = q) h (Or.inl rfl) j u
  refine M.put (s (s (s (s (Chg.refl _ V) 1 _) 2 _) 3 _) 4 _) ?_ hL
  unfold accO accCells at *
  simp only at *
  generalize l3 z = z3
  generalize l2 z = z2
  generalize l1 z = z1
  generalize l0 z = z0
  have e := heap_setCell_same _ _ 4 _ _ (.int .u64 (z0 : Nat)) (heap_setCell_same _ _ 3 _ _ (.int .u64 (z1 : Nat)) (heap_setCell_same _ _ 2 _ _ (.int .u64 (z2 : Nat)) (heap_setCell_same _ _ 1 _ _ (.int .u64 (z3 : Nat)) h)))
  simpa using e
theorem wpList_eqw {ops : Array Oper} {rest : List Oper} {o : Oper} {a : Act} {Q : Exit → Act → World → Prop} {V : World} (hg : o.guard = none) (s u : Operand) (ty : TypeId) (hop : o.op = Op.binOp .eql 61 s u ty) {p q : Nat} (hp : p < W256) (hq : q < W256) (hs : a.eval s = .agg (wordC p)) (hu : a.eval u = .agg (wordC q))
    (h : wpList Tryz.prog ops Q rest (a.put o.dst (.bool (decide (p = q)))) V) : wpList Tryz.prog ops Q (o :: rest) a V := by
  refine wpList_plain hg fun K hK => ?_
  unfold Oper.wp
  simp only [execOp, hop, hs, hu, Sem.run_bind, run_eqGuard_agg (P := Tryz.prog) V .eql 61 s u (wordC p) (wordC q) (by kernel_rfl), wEq hp hq V, Result.andThen]
  exact hK _ _ h
theorem str_eqb (a c : Nm) : ((str a).toList == (str c).toList) = decide (a = c) := by
  rw [ByteArray.toList_eq, ByteArray.toList_eq]
  simp only [str]
  by_cases h : a = c
  · simp [h]
  · simp [h]
set_option maxRecDepth 100000 in
set_option maxHeartbeats 8000000 in
theorem wMove_c (h : Pw w b d bc n N x ff W) (hN : FzOk N w.far) (hn : n < 900000) (a c : Nm) {v : Nat} (hv : v < W256) (hN2 : FzOk (N + 4) (w.acct a).2.far) (hb1 : (w.acct a).1.1.bal < W256) (hb2 : ((w.acct a).2.acct c).1.1.bal < W256) :
    Calls Tryz.prog 41 #[.pointer (some ⟨b, 0, none⟩), .string (str a), .string (str c), .agg (wordC v)] W fun e W' => e = .returned (.int .i64 (w.move a c v).1) ∧ Lv (w.move a c v).2 b d bc (n + 4) (N + 8) (ftP x b ff) W W' := by
  have M1 := (An.start h.ob).alloc (wordO v)
  have hsa := str_size a
  have hsc := str_size c
  by_cases hl : a.length ≠ 20 ∨ c.length ≠ 20
  · have hw : w.move a c v = (1, w) := by unfold Wd.move; rw [if_pos hl]
    rw [hw]
    have HM := Lib.hid M1
    clear h hN hn hN2 hb1 hb2 hv hw M1
    unfold wordO at *
    unfold wordC at *
    simp only
    by_cases h1 : a.length = 20
    · have h1i : (a.length : Int) = 20 := by omega
      have h2i : ¬ (c.length : Int) = 20 := by omega
      clear hl h1
      go_enter Tryz.func41, Tryz.ntmps41
      go_wp2_with fail
      go_ret
      exact ⟨rfl, (Lv.mk HM.out).mono (by omega) (by omega)⟩
    · have h1i : ¬ (a.length : Int) = 20 := by omega
      clear hl h1
      go_enter Tryz.func41, Tryz.ntmps41
      go_wp2_with fail
      go_ret
      exact ⟨rfl, (Lv.mk HM.out).mono (by omega) (by omega)⟩
  · have h1 : a.length = 20 := by omega
    have h2 : c.length = 20 := by omega
    have h1i : (a.length : Int) = 20 := by omega
    have h2i : (c.length : Int) = 20 := by omega
    have hw : w.move a c v = (if (w.acct a).1.2 ≠ 0 then ((w.acct a).1.2, (w.acct a).2) else
      if (w.acct a).1.1.bal < v then (8, (w.acct a).2) else
      if ((w.acct a).2.acct c).1.2 ≠ 0 then (((w.acct a).2.acct c).1.2, ((w.acct a).2.acct c).2) else
      if v = 0 ∨ a = c then (0, ((w.acct a).2.acct c).2) else
      (0, (((w.acct a).2.acct c).2.setAcc a ⟨(w.acct a).1.1.nonce, ((w.acct a).1.1.bal + W256 - v) % W256, (w.acct a).1.1.code⟩).setAcc c ⟨((w.acct a).2.acct c).1.1.nonce, (((w.acct a).2.acct c).1.1.bal + v) % W256, ((w.acct a).2.acct c).1.1.code⟩)) := by
      unfold Wd.move; rw [if_neg hl]
    have HW := Lib.hid hw
    have C1 := Lib.hid (account_c M1.ob.it hN a)
    obtain ⟨⟨⟨y1, e1⟩, w1⟩, hres⟩ : ∃ res, res = w.acct a := ⟨_, rfl⟩
    rw [← hres] at HW C1 hN2 hb1 hb2
    simp only at HW C1 hN2 hb1 hb2
    have C2 := Lib.hid (fun (V : World) (x1 : Sx) (ff1 : Nat → Prop) (h1 : Pw w1 b d bc n (N + 4) x1 ff1 V) => account_c h1 hN2 c)
    obtain ⟨⟨⟨y2, e2⟩, w2⟩, hres2⟩ : ∃ res, res = w1.acct c := ⟨_, rfl⟩
    rw [← hres2] at HW C2 hb2
    simp only at HW C2 hb2
    have HB := Lib.hid (And.intro hb1 (And.intro hb2 (And.intro hv (And.intro hn (And.intro h1 h2)))))
    have HM := Lib.hid M1
    clear h hN hn hN2 hb1 hb2 hv hw M1 hl h1 h2 hres hres2
    unfold wordO at HM C1
    unfold accCells at C1
    unfold accCells at C2
    unfold wordC at C1
    rw [show (Value.agg (wordC v)) = .agg #[.int .u64 (l3 v : Nat), .int .u64 (l2 v : Nat), .int .u64 (l1 v : Nat), .int .u64 (l0 v : Nat)] from rfl]
    go_enter Tryz.func41, Tryz.ntmps41
    go_wp2_with fail
    refine C1.out.mono ?_
    rintro e V1 ⟨rfl, x1, ff1, p1, p2⟩
    have M2 := (HM.out.step p1.ob p2).alloc (accO y1)
    have HL9 := Lib.hid (lt_of ((HM.out.step p1.ob p2).at (q := W.heap.size) (List.mem_cons_self ..)))
    have HM2 := Lib.hid M2
    clear p1 p2 C1 HM M2
    obtain ⟨q9, hq9⟩ : ∃ q9, q9 = V1.heap.size := ⟨_, rfl⟩
    by_cases he1 : e1 = 0
    · have g1 := cell_of (HM2.out.at (q := W.heap.size) (List.mem_cons_of_mem _ (List.mem_cons_self ..)))
      have k0 := g1 0
      have k1 := g1 1
      have k2 := g1 2
      have k3 := g1 3
      have CL := Lib.hid (fun V => wLess HB.out.1 HB.out.2.2.1 V)
      unfold accO at HM2 k0 k1 k2 k3
      unfold accCells at HM2 k0 k1 k2 k3
      unfold wordC at CL k0 k1 k2 k3
      simp only [List.getElem?_toArray, List.getElem?_cons_zero, List.getElem?_cons_succ] at k0 k1 k2 k3
      clear g1 hq9
      go_wp2_with fail
      refine (CL.out _).mono ?_
      rintro e V3 ⟨rfl, hb⟩
      have M3 := HM2.out.call hb
      clear k0 k1 k2 k3 hb HM2 CL
      by_cases hlt : y1.bal < v
      · have hw : w.move a c v = (8, w1) := by rw [HW.out, if_neg (fun e => e he1), if_pos hlt]
        have HM3 := Lib.hid M3
        simp only [hlt, decide_true]
        clear M3
        go_wp2_with fail
        go_ret
        rw [hw]
        exact ⟨rfl, (Lv.mk HM3.out).mono (by omega) (by omega)⟩
      · simp only [hlt, decide_false]
        have CC := Lib.hid (C2.out V3 x1 ff1 M3.ob.it)
        have HM3 := Lib.hid M3
        clear M3 C2
        go_wp2_with fail
        refine CC.out.mono ?_
        rintro e V4 ⟨rfl, x2, ff2, p1, p2⟩
        have M4 := (HM3.out.step p1.ob p2).alloc (accO y2)
        have HL11 := Lib.hid (lt_of ((HM3.out.step p1.ob p2).at (q := V1.heap.size) (List.mem_cons_self ..)))
        have HM4 := Lib.hid M4
        clear p1 p2 CC HM3
        by_cases he2 : e2 = 0
        · have G7 := cell_of (M4.at (q := W.heap.size) (List.mem_cons_of_mem _ (List.mem_cons_of_mem _ (List.mem_cons_self ..))))
          have a0 := G7 0
          have a1 := G7 1
          have a2 := G7 2
          have a3 := G7 3
          have HZ := Lib.hid (And.intro he1 (And.intro he2 hlt))
          have ES := str_eqb a c
          unfold accO at HM4 a0 a1 a2 a3
          unfold accCells at HM4 a0 a1 a2 a3
          unfold wordC at a0 a1 a2 a3
          simp only [List.getElem?_toArray, List.getElem?_cons_zero, List.getElem?_cons_succ] at a0 a1 a2 a3
          clear G7 M4 he1 hlt
          by_cases hv0 : v = 0
          · have hv9 := Lib.hid hv0
            go_wp2_with (refine wpList_eqw rfl _ _ _ rfl HB.out.2.2.1 (q := 0) (by decide) rfl (by rw [wordC_zero]; rfl) ?_; simp only [hv0, decide_true])
            go_ret
            have hw : w.move a c v = (0, w2) := by rw [HW.out, if_neg (fun e => e HZ.out.1), if_neg HZ.out.2.2, if_neg (fun e => e HZ.out.2.1), if_pos (Or.inl hv9.out)]
            rw [hw]
            exact ⟨rfl, (Lv.mk HM4.out).mono (by omega) (by omega)⟩
          · by_cases hac : a = c
            · rw [show decide (a = c) = true by simpa using hac] at ES
              have hac9 := Lib.hid hac
              clear hac
              go_wp2_with (refine wpList_eqw rfl _ _ _ rfl HB.out.2.2.1 (q := 0) (by decide) rfl (by rw [wordC_zero]; rfl) ?_; simp only [hv0, decide_false])
              go_ret
              have hw : w.move a c v = (0, w2) := by rw [HW.out, if_neg (fun e => e HZ.out.1), if_neg HZ.out.2.2, if_neg (fun e => e HZ.out.2.1), if_pos (Or.inr hac9.out)]
              rw [hw]
              exact ⟨rfl, (Lv.mk HM4.out).mono (by omega) (by omega)⟩
            · rw [show decide (a = c) = false by simpa using hac] at ES
              go_upto_region 13 with (refine wpList_eqw rfl _ _ _ rfl HB.out.2.2.1 (q := 0) (by decide) rfl (by rw [wordC_zero]; rfl) ?_; simp only [hv0, decide_false])
              have M := HM4.out
              generalize World.alloc V4 _ = V5 at M ⊢
              clear a0 a1 a2 a3 ES
              have hl9 := HL9.out
              have hl11 := HL11.out
              obtain ⟨q7, hq7⟩ : ∃ q7, q7 = W.heap.size := ⟨_, rfl⟩
              obtain ⟨q9, hq9⟩ : ∃ q9, q9 = V1.heap.size := ⟨_, rfl⟩
              obtain ⟨q11, hq11⟩ : ∃ q11, q11 = V4.heap.size := ⟨_, rfl⟩
              rw [← hq7, ← hq9, ← hq11] at M ⊢
              have HN := Lib.hid (show q7 ≠ q9 ∧ q7 ≠ q11 ∧ q9 ≠ q11 from ⟨by omega, by omega, by omega⟩)
              have n1 := HN.out.1
              have n2 := HN.out.2.1
              have n3 := HN.out.2.2
              have n4 := Ne.symm n1
              have n5 := Ne.symm n2
              have n6 := Ne.symm n3
              clear hl9 hl11 hq7 hq9 hq11 HL9 HL11 HM4
              replace M := M.sub (L' := [(q9, accO y1), (q11, accO y2), (q7, wordO v)]) (mem3 (List.mem_cons_of_mem _ (List.mem_cons_self ..)) (List.mem_cons_self ..) (List.mem_cons_of_mem _ (List.mem_cons_of_mem _ (List.mem_cons_self ..))))
              obtain ⟨⟨k0, k1, k2, k3, k4, k5⟩, d0, d1, d2, d3, d4, d5⟩ := cells6 (M.at (q := q9) (List.mem_cons_self ..))
              obtain ⟨⟨a0, a1, a2, a3⟩, _⟩ := cells4 (M.at (q := q7) (List.mem_cons_of_mem _ (List.mem_cons_of_mem _ (List.mem_cons_self ..))))
              have CA := Lib.hid (fun V => wSub HB.out.1 HB.out.2.2.1 V)
              have HM := Lib.hid M
              unfold wordC at CA
              clear M
              go_wp2_with fail
              refine (CA.out _).mono ?_
              rintro e V6 ⟨rfl, hb⟩
              have M := HM.out.call hb
              clear HM CA hb k0 k1 k2 k3 k4 k5 d0 d1 d2 d3 d4 d5 a0 a1 a2 a3
              obtain ⟨⟨k0, k1, k2, k3, k4, k5⟩, d0, d1, d2, d3, d4, d5⟩ := cells6 (M.at (q := q9) (List.mem_cons_self ..))
              have HM := Lib.hid M
              clear M
              go_upto_region 14 with fail
              have M := accBal HM.out ((y1.bal + W256 - v) % W256) (by intro z hz; rcases List.mem_cons.1 hz with rfl | hz; exact n6; rw [List.mem_singleton] at hz; rw [hz]; exact n1)
              clear HM k0 k1 k2 k3 k4 k5 d0 d1 d2 d3 d4 d5
              generalize World.setCell _ _ _ = V7 at M ⊢
              obtain ⟨z1, hz1⟩ : ∃ z1, z1 = AccP.mk y1.nonce ((y1.bal + W256 - v) % W256) y1.code := ⟨_, rfl⟩
              rw [← hz1] at M
              replace M := M.sub (L' := [(q11, accO y2), (q9, accO z1), (q7, wordO v)]) (mem3 (List.mem_cons_of_mem _ (List.mem_cons_self ..)) (List.mem_cons_self ..) (List.mem_cons_of_mem _ (List.mem_cons_of_mem _ (List.mem_cons_self ..))))
              obtain ⟨⟨k0, k1, k2, k3, k4, k5⟩, d0, d1, d2, d3, d4, d5⟩ := cells6 (M.at (q := q11) (List.mem_cons_self ..))
              obtain ⟨⟨a0, a1, a2, a3⟩, _⟩ := cells4 (M.at (q := q7) (List.mem_cons_of_mem _ (List.mem_cons_of_mem _ (List.mem_cons_self ..))))
              have CA := Lib.hid (fun V => wAdd HB.out.2.1 HB.out.2.2.1 V)
              have HM := Lib.hid M
              unfold wordC at CA
              clear M
              go_wp2_with fail
              refine (CA.out _).mono ?_
              rintro e V8 ⟨rfl, hb⟩
              have M := HM.out.call hb
              clear HM CA hb k0 k1 k2 k3 k4 k5 d0 d1 d2 d3 d4 d5 a0 a1 a2 a3
              obtain ⟨⟨k0, k1, k2, k3, k4, k5⟩, d0, d1, d2, d3, d4, d5⟩ := cells6 (M.at (q := q11) (List.mem_cons_self ..))
              have HM := Lib.hid M
              clear M
              go_upto_region 15 with fail
              have M := accBal HM.out ((y2.bal + v) % W256) (by intro z hz; rcases List.mem_cons.1 hz with rfl | hz; exact n3; rw [List.mem_singleton] at hz; rw [hz]; exact n2)
              clear HM k0 k1 k2 k3 k4 k5 d0 d1 d2 d3 d4 d5
              generalize World.setCell _ _ _ = V9 at M ⊢
              obtain ⟨z2, hz2⟩ : ∃ z2, z2 = AccP.mk y2.nonce ((y2.bal + v) % W256) y2.code := ⟨_, rfl⟩
              rw [← hz2] at M
              have hw : w.move a c v = (0, (w2.setAcc a z1).setAcc c z2) := by rw [HW.out, if_neg (fun e => e HZ.out.1), if_neg HZ.out.2.2, if_neg (fun e => e HZ.out.2.1), if_neg (fun e => e.elim hv0 hac), hz1, hz2]
              have HWW := Lib.hid hw
              clear hw hz1 hz2 hv0 hac
              replace M := M.call (Below.refl _ V9).drew
              have HS := Lib.hid (fun (V : World) (hV : V.heap[q9]? = some (accO z1) ∧ V.heap[q11]? = some (accO z2)) => (show V.cell? ⟨q9, 0, none⟩ = some (.int .u64 (z1.nonce : Nat)) ∧ V.cell? ⟨q9, 1, none⟩ = some (.int .u64 (l3 z1.bal : Nat)) ∧ V.cell? ⟨q9, 2, none⟩ = some (.int .u64 (l2 z1.bal : Nat)) ∧ V.cell? ⟨q9, 3, none⟩ = some (.int .u64 (l1 z1.bal : Nat)) ∧ V.cell? ⟨q9, 4, none⟩ = some (.int .u64 (l0 z1.bal : Nat)) ∧ V.cell? ⟨q9, 5, none⟩ = some (.string (str z1.code)) ∧ V.cell? ⟨q11, 0, none⟩ = some (.int .u64 (z2.nonce : Nat)) ∧ V.cell? ⟨q11, 1, none⟩ = some (.int .u64 (l3 z2.bal : Nat)) ∧ V.cell? ⟨q11, 2, none⟩ = some (.int .u64 (l2 z2.bal : Nat)) ∧ V.cell? ⟨q11, 3, none⟩ = some (.int .u64 (l1 z2.bal : Nat)) ∧ V.cell? ⟨q11, 4, none⟩ = some (.int .u64 (l0 z2.bal : Nat)) ∧ V.cell? ⟨q11, 5, none⟩ = some (.string (str z2.code)) from ⟨cell_of hV.1 0, cell_of hV.1 1, cell_of hV.1 2, cell_of hV.1 3, cell_of hV.1 4, cell_of hV.1 5, cell_of hV.2 0, cell_of hV.2 1, cell_of hV.2 2, cell_of hV.2 3, cell_of hV.2 4, cell_of hV.2 5⟩))
              have H0 : V9.drew.heap[q9]? = some (accO z1) ∧ V9.drew.heap[q11]? = some (accO z2) := ⟨M.at (List.mem_cons_of_mem _ (List.mem_cons_self ..)), M.at (List.mem_cons_self ..)⟩
              refine Drawn.start (fun V => V.heap[q9]? = some (accO z1) ∧ V.heap[q11]? = some (accO z2)) (fun _ => false) (by kernel_rfl) ?_
              generalize World.drew _ = V10 at M H0 ⊢
              refine Drawn.take 0 (some 60) (v := ?_) rfl rfl (by kernel_rfl) (by kernel_rfl) (by kernel_rfl) (by kernel_rfl) (by kernel_rfl) rfl (fun _ _ _ h => h) (Or.inl ⟨rfl, ?_⟩) H0 ?_
              rotate_left
              · intro W hW; have hW := HS.out W hW; go_simp; try with_reducible rfl
              simp only [put_list, List.set]
              refine Drawn.take 1 (some 61) (v := ?_) rfl rfl (by kernel_rfl) (by kernel_rfl) (by kernel_rfl) (by kernel_rfl) (by kernel_rfl) rfl (fun _ _ _ h => h) (Or.inl ⟨rfl, ?_⟩) H0 ?_
              rotate_left
              · intro W hW; have hW := HS.out W hW; go_simp; try with_reducible rfl
              simp only [put_list, List.set]
              refine Drawn.take 2 (some 62) (v := ?_) rfl rfl (by kernel_rfl) (by kernel_rfl) (by kernel_rfl) (by kernel_rfl) (by kernel_rfl) rfl (fun _ _ _ h => h) (Or.inl ⟨rfl, ?_⟩) H0 ?_
              rotate_left
              · intro W hW; have hW := HS.out W hW; go_simp; try with_reducible rfl
              simp only [put_list, List.set]
              refine Drawn.take 3 (some 63) (v := ?_) rfl rfl (by kernel_rfl) (by kernel_rfl) (by kernel_rfl) (by kernel_rfl) (by kernel_rfl) rfl (fun _ _ _ h => h) (Or.inl ⟨rfl, ?_⟩) H0 ?_
              rotate_left
              · intro W hW; have hW := HS.out W hW; go_simp; try with_reducible rfl
              simp only [put_list, List.set]
              refine Drawn.take 4 (some 64) (v := ?_) rfl rfl (by kernel_rfl) (by kernel_rfl) (by kernel_rfl) (by kernel_rfl) (by kernel_rfl) rfl (fun _ _ _ h => h) (Or.inl ⟨rfl, ?_⟩) H0 ?_
              rotate_left
              · intro W hW; have hW := HS.out W hW; go_simp; try with_reducible rfl
              simp only [put_list, List.set]
              refine Drawn.only 5 (by kernel_rfl) rfl rfl (fun K hK => ?_)
              go_simp
              refine (setAccount_c M.ob.it.at_ (by have := HB.out.2.2.2.1; omega) HB.out.2.2.2.2.1 z1).mono ?_
              rintro e V11 ⟨rfl, hS⟩
              obtain ⟨x3, ff3, p1, p2⟩ := setAcc_lv M.ob.it hS
              replace M := M.step p1.ob p2
              clear p1 p2 hS
              refine hK _ _ (fun _ _ => ⟨M.at (List.mem_cons_of_mem _ (List.mem_cons_self ..)), M.at (List.mem_cons_self ..)⟩) ?_
              clear hK K HS H0
              try simp only [put_list, List.set]
              refine Drawn.done (by kernel_rfl) ?_ _
              go_upto_region 16 with fail
              replace M := M.call (Below.refl _ V11).drew
              have HS := Lib.hid (fun (V : World) (hV : V.heap[q9]? = some (accO z1) ∧ V.heap[q11]? = some (accO z2)) => (show V.cell? ⟨q9, 0, none⟩ = some (.int .u64 (z1.nonce : Nat)) ∧ V.cell? ⟨q9, 1, none⟩ = some (.int .u64 (l3 z1.bal : Nat)) ∧ V.cell? ⟨q9, 2, none⟩ = some (.int .u64 (l2 z1.bal : Nat)) ∧ V.cell? ⟨q9, 3, none⟩ = some (.int .u64 (l1 z1.bal : Nat)) ∧ V.cell? ⟨q9, 4, none⟩ = some (.int .u64 (l0 z1.bal : Nat)) ∧ V.cell? ⟨q9, 5, none⟩ = some (.string (str z1.code)) ∧ V.cell? ⟨q11, 0, none⟩ = some (.int .u64 (z2.nonce : Nat)) ∧ V.cell? ⟨q11, 1, none⟩ = some (.int .u64 (l3 z2.bal : Nat)) ∧ V.cell? ⟨q11, 2, none⟩ = some (.int .u64 (l2 z2.bal : Nat)) ∧ V.cell? ⟨q11, 3, none⟩ = some (.int .u64 (l1 z2.bal : Nat)) ∧ V.cell? ⟨q11, 4, none⟩ = some (.int .u64 (l0 z2.bal : Nat)) ∧ V.cell? ⟨q11, 5, none⟩ = some (.string (str z2.code)) from ⟨cell_of hV.1 0, cell_of hV.1 1, cell_of hV.1 2, cell_of hV.1 3, cell_of hV.1 4, cell_of hV.1 5, cell_of hV.2 0, cell_of hV.2 1, cell_of hV.2 2, cell_of hV.2 3, cell_of hV.2 4, cell_of hV.2 5⟩))
              have H0 : V11.drew.heap[q9]? = some (accO z1) ∧ V11.drew.heap[q11]? = some (accO z2) := ⟨M.at (List.mem_cons_of_mem _ (List.mem_cons_self ..)), M.at (List.mem_cons_self ..)⟩
              refine Drawn.start (fun V => V.heap[q9]? = some (accO z1) ∧ V.heap[q11]? = some (accO z2)) (fun _ => false) (by kernel_rfl) ?_
              generalize World.drew _ = V12 at M H0 ⊢
              refine Drawn.take 0 (some 66) (v := ?_) rfl rfl (by kernel_rfl) (by kernel_rfl) (by kernel_rfl) (by kernel_rfl) (by kernel_rfl) rfl (fun _ _ _ h => h) (Or.inl ⟨rfl, ?_⟩) H0 ?_
              rotate_left
              · intro W hW; have hW := HS.out W hW; go_simp; try with_reducible rfl
              simp only [put_list, List.set]
              refine Drawn.take 1 (some 67) (v := ?_) rfl rfl (by kernel_rfl) (by kernel_rfl) (by kernel_rfl) (by kernel_rfl) (by kernel_rfl) rfl (fun _ _ _ h => h) (Or.inl ⟨rfl, ?_⟩) H0 ?_
              rotate_left
              · intro W hW; have hW := HS.out W hW; go_simp; try with_reducible rfl
              simp only [put_list, List.set]
              refine Drawn.take 2 (some 68) (v := ?_) rfl rfl (by kernel_rfl) (by kernel_rfl) (by kernel_rfl) (by kernel_rfl) (by kernel_rfl) rfl (fun _ _ _ h => h) (Or.inl ⟨rfl, ?_⟩) H0 ?_
              rotate_left
              · intro W hW; have hW := HS.out W hW; go_simp; try with_reducible rfl
              simp only [put_list, List.set]
              refine Drawn.take 3 (some 69) (v := ?_) rfl rfl (by kernel_rfl) (by kernel_rfl) (by kernel_rfl) (by kernel_rfl) (by kernel_rfl) rfl (fun _ _ _ h => h) (Or.inl ⟨rfl, ?_⟩) H0 ?_
              rotate_left
              · intro W hW; have hW := HS.out W hW; go_simp; try with_reducible rfl
              simp only [put_list, List.set]
              refine Drawn.take 4 (some 70) (v := ?_) rfl rfl (by kernel_rfl) (by kernel_rfl) (by kernel_rfl) (by kernel_rfl) (by kernel_rfl) rfl (fun _ _ _ h => h) (Or.inl ⟨rfl, ?_⟩) H0 ?_
              rotate_left
              · intro W hW; have hW := HS.out W hW; go_simp; try with_reducible rfl
              simp only [put_list, List.set]
              refine Drawn.only 5 (by kernel_rfl) rfl rfl (fun K hK => ?_)
              go_simp
              refine (setAccount_c M.ob.it.at_ (by have := HB.out.2.2.2.1; omega) HB.out.2.2.2.2.2 z2).mono ?_
              rintro e V13 ⟨rfl, hS⟩
              obtain ⟨x4, ff4, p1, p2⟩ := setAcc_lv M.ob.it hS
              replace M := M.step p1.ob p2
              clear p1 p2 hS
              refine hK _ _ (fun _ _ => ⟨M.at (List.mem_cons_of_mem _ (List.mem_cons_self ..)), M.at (List.mem_cons_self ..)⟩) ?_
              clear hK K HS H0
              have HM := Lib.hid M
              clear M
              try simp only [put_list, List.set]
              refine Drawn.done (by kernel_rfl) ?_ _
              go_wp2_with fail
              go_ret
              rw [HWW.out]
              exact ⟨rfl, (Lv.mk HM.out).mono (by omega) (by omega)⟩
        · have hw : w.move a c v = (e2, w2) := by rw [HW.out, if_neg (fun e => e he1), if_neg hlt, if_pos he2]
          clear M4
          go_wp2_with fail
          go_ret
          rw [hw]
          exact ⟨rfl, (Lv.mk HM4.out).mono (by omega) (by omega)⟩
    · have hw : w.move a c v = (e1, w1) := by rw [HW.out, if_pos he1]
      clear hq9
      go_wp2_with fail
      go_ret
      rw [hw]
      exact ⟨rfl, (Lv.mk HM2.out).mono (by omega) (by omega)⟩
end
end Go.Proofs.YtekoaheiapddiaaGreat.Dz.Wo
end
