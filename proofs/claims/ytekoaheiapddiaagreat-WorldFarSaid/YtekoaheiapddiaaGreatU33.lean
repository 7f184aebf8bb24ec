/- Merged: Hi, Hj, Hk, Hl, Hm, Hn, Ho. -/
import Derived.Test.YtekoaheiapddiaaGreatU32
import Derived.Test.YtekoaheiapddiaaGreatU08
section
namespace Go.Proofs.YtekoaheiapddiaaGreat.Dz.Wo
open Go.RowKit Go.Maps Mp

theorem valFin {w : Wd} {b d bc n N : Nat} {x : Sx} {ff F0 : Nat → Prop} {W V V' : World} {L : List (Nat × Obj)} {q : Nat} (M : An (Pw w b d bc n N x ff) (ftP x b ff) W F0 L V) (hm : (q, val.tO) ∈ L) (u0 u1 u2 u3 : Value)
    (hV : V' = ((((V.setCell ⟨q, 0, none⟩ u0).setCell ⟨q, 1, none⟩ u1).setCell ⟨q, 2, none⟩ u2).setCell ⟨q, 3, none⟩ u3)) : V'.heap[q]? = some (.cells #[u0, u1, u2, u3] 61 (0, 0)) ∧ Lv w b d bc n N F0 W V' := by
  subst hV
  have hs := heap_set4 (M.at hm) u0 u1 u2 u3
  have M2 := (M.sub (L' := [(q, val.tO)]) (fun x hx => by obtain rfl := List.mem_singleton.1 hx; exact hm)).put (chg_set4 V q u0 u1 u2 u3) hs (by simp)
  exact ⟨hs, Lv.mk M2⟩
theorem WAt.look2 {x : Sx} {b n : Nat} {fv : Value} {W : World} (h : WAt x b fv n W) (a : Nm) {k : Nat} (hk : k < W256) : (Instr.lookup 164 (.map (x.s.ch a).sl) (.agg (wordC k)) true).run Tryz.prog W = .ok (.tuple #[.agg (wordC ((((x.s.ch a).ent x.s.I).sl k).getD 0)), .bool (((x.s.ch a).ent x.s.I).sl k).isSome]) W := by
  unfold Ch.ent
  cases hs : (x.s.ch a).sl with
  | none => exact look_nil kitW (k := k) hk W true
  | some m =>
    have h1 := (h.inn m (h.chLive hs)).look (k := k) hk true
    simp only
    cases hf : x.s.I m k with
    | none => rw [hf] at h1; exact h1
    | some y => rw [hf] at h1; exact h1
theorem wordC_zero : wordC 0 = #[.int .u64 0, .int .u64 0, .int .u64 0, .int .u64 0] := by simp [wordC, lim_zero]
set_option maxRecDepth 100000 in
set_option maxHeartbeats 8000000 in
theorem wslot_c {w : Wd} {b d bc n N : Nat} {x : Sx} {ff : Nat → Prop} {W : World} (h : Pw w b d bc n N x ff W) (hN : FzOk N w.far) (a : Nm) {k : Nat} (hk : k < W256) :
    Calls Tryz.prog 50 #[.pointer (some ⟨b, 0, none⟩), .string (str a), .agg (wordC k)] W fun e W' => e = .returned (.tuple #[.agg (wordC (w.slot a k).1.1), .int .i64 (w.slot a k).1.2]) ∧ Lv (w.slot a k).2 b d bc n (N + 4) (ftP x b ff) W W' := by
  have M2 := ((An.start h.ob).alloc (wordO k)).alloc val.tO
  have hsz := str_size a
  by_cases hl : a.length = 20
  · have hli : (a.length : Int) = 20 := by omega
    have HL := M2.ob.it.at_.look hl
    have b0 := M2.ob.it.at_.cells.1.1
    have M3 := M2.alloc (chO (x.s.ch a))
    have HL2 := M3.ob.it.at_.look2 a hk
    have hw : w.slot a k = (match ((x.s.ch a).ent x.s.I).sl k with | some v => ((v, 0), w) | none => if (x.s.ch a).wi = true then ((0, 0), w) else ((w.far.slot a k).1, ⟨w.G, w.old, (w.far.slot a k).2⟩)) := by
      have e := h.rep.ent a
      unfold Wd.slot Wd.ent
      rw [if_neg (by omega), e]
      rfl
    generalize ((x.s.ch a).ent x.s.I).sl k = vo at HL2 hw
    cases vo with
    | some v =>
      simp only [Option.getD_some, Option.isSome_some] at HL2 hw
      have MT := Lib.hid (((((An.start h.ob).alloc (wordO k)).alloc (wordO v)).alloc (chO (x.s.ch a))).alloc (wordO v))
      simp only [alloc_size] at MT
      rw [hw]
      clear hw M2 M3 h hN
      generalize x.s.ch a = c0 at HL HL2 MT
      obtain ⟨cc, ca, cw, cs⟩ := c0
      unfold wordO at *
      unfold chO at *
      unfold chCells wordC val.tO at *
      simp only at *
      go_enter Tryz.func50, Tryz.ntmps50
      go_wp2_with fail
      exact bodyPost_ret (results_cell_slot Tryz.results50 _ _ _ _ _ _ _ _ rfl rfl (MT.out.at (q := W.heap.size + 1) (List.mem_cons_of_mem _ (List.mem_cons_of_mem _ (List.mem_cons_self ..)))) Tryz.underlying61 rfl (by kernel_rfl)) rfl ⟨rfl, (Lv.mk MT.out).mono (Nat.le_refl _) (by omega)⟩
    | none =>
      simp only [Option.getD_none, Option.isSome_none] at HL2 hw
      have M4 := M3.alloc (wordO 0)
      simp only [alloc_size] at M4
      have b2 := M4.ob.it.at_.cells.1.2.2
      have HM := Lib.hid (And.intro M4 (And.intro hN hk))
      clear M2 M3 M4 h hN hk
      generalize x.s.ch a = c0 at HL HL2 HM b2 hw
      obtain ⟨cc, ca, cw, cs⟩ := c0
      unfold wordO at *
      unfold chO at *
      rw [wordC_zero] at *
      unfold chCells val.tO at *
      simp only at *
      cases cw with
      | true =>
        rw [hw, if_pos rfl]
        clear hw
        simp only
        rw [wordC_zero]
        unfold wordC at *
        go_enter Tryz.func50, Tryz.ntmps50
        go_wp2_with fail
        exact bodyPost_ret (results_cell_slot Tryz.results50 _ _ _ _ _ _ _ _ rfl rfl (HM.out.1.at (q := W.heap.size + 1) (List.mem_cons_of_mem _ (List.mem_cons_of_mem _ (List.mem_cons_self ..)))) Tryz.underlying61 rfl (by kernel_rfl)) rfl ⟨rfl, (Lv.mk HM.out.1).mono (Nat.le_refl _) (by omega)⟩
      | false =>
        rw [hw, if_neg (by simp)]
        clear hw
        simp only
        cases hf : w.far with
        | no =>
          have hfn := far_nil
          rw [hf] at b2
          unfold fvOf at b2
          have e9 : w.far.slot a k = ((0, 0), .no) := by rw [hf]; rfl
          have hwf : (⟨w.G, w.old, .no⟩ : Wd) = w := by rw [← hf]
          rw [← hf, e9]
          simp only
          rw [hwf, wordC_zero]
          clear e9 hwf hf
          unfold wordC at *
          go_enter Tryz.func50, Tryz.ntmps50
          go_wp2_with fail
          exact bodyPost_ret (results_cell_slot Tryz.results50 _ _ _ _ _ _ _ _ rfl rfl (HM.out.1.at (q := W.heap.size + 1) (List.mem_cons_of_mem _ (List.mem_cons_of_mem _ (List.mem_cons_self ..)))) Tryz.underlying61 rfl (by kernel_rfl)) rfl ⟨rfl, (Lv.mk HM.out.1).mono (Nat.le_refl _) (by omega)⟩
        | yes p c =>
          have hfs := far_some bc
          rw [hf] at b2
          unfold fvOf at b2
          obtain ⟨M4, hN, hk⟩ := HM.out
          rw [hf] at hN
          have HN := Lib.hid (And.intro hN (And.intro hk hf))
          simp only [Fz.slot]
          obtain ⟨⟨⟨r9, e9⟩, p9, c9⟩, hres⟩ : ∃ res, res = askP nmC p c ⟨0, a, k, 2⟩ := ⟨_, rfl⟩
          rw [← hres]
          simp only
          have HRES := Lib.hid hres
          clear HM hres
          unfold wordC at *
          go_enter Tryz.func50, Tryz.ntmps50
          go_wp2_with fail
          clear hN hk hf HL HL2 b0 b2
          generalize World.alloc (World.alloc (World.alloc (World.alloc W _) _) _) _ = V6 at M4 ⊢
          obtain ⟨q0, hq0⟩ : ∃ q0, q0 = W.heap.size := ⟨_, rfl⟩
          rw [← hq0] at M4 ⊢
          obtain ⟨q1, hq1⟩ : ∃ q1, q1 = q0 + 1 := ⟨_, rfl⟩
          rw [← hq1] at M4 ⊢
          have HQ := Lib.hid (And.intro hq0 hq1)
          clear hq0 hq1
          have M := M4.call (Below.refl _ V6).drew
          clear M4
          have hcell := M.ob.it.at_.cell
          rw [HN.out.2.2] at hcell
          have H0 : V6.drew.heap[b]? = some (worldO x.mo x.sv (.pointer (some ⟨bc, 0, none⟩))) ∧ V6.drew.heap[q0]? = some (wordO k) := ⟨hcell, M.at (List.mem_cons_of_mem _ (List.mem_cons_of_mem _ (List.mem_cons_of_mem _ (List.mem_cons_self ..))))⟩
          have HS := Lib.hid (fun (V : World) (hV : V.heap[b]? = some (worldO x.mo x.sv (.pointer (some ⟨bc, 0, none⟩))) ∧ V.heap[q0]? = some (wordO k)) => (show V.cell? ⟨b, 2, none⟩ = some (.pointer (some ⟨bc, 0, none⟩)) ∧ V.cell? ⟨q0, 0, none⟩ = some (.int .u64 (l3 k : Nat)) ∧ V.cell? ⟨q0, 1, none⟩ = some (.int .u64 (l2 k : Nat)) ∧ V.cell? ⟨q0, 2, none⟩ = some (.int .u64 (l1 k : Nat)) ∧ V.cell? ⟨q0, 3, none⟩ = some (.int .u64 (l0 k : Nat)) from ⟨cell_of hV.1 2, cell_of hV.2 0, cell_of hV.2 1, cell_of hV.2 2, cell_of hV.2 3⟩))
          refine Drawn.start (fun V => V.heap[b]? = some (worldO x.mo x.sv (.pointer (some ⟨bc, 0, none⟩))) ∧ V.heap[q0]? = some (wordO k)) (fun j => j == 9) (by kernel_rfl) ?_
          generalize World.drew _ = V7 at M H0 hcell ⊢
          refine Drawn.take 0 (some 41) (v := ?_) rfl rfl (by kernel_rfl) (by kernel_rfl) (by kernel_rfl) (by kernel_rfl) (by kernel_rfl) rfl (fun _ _ _ h => h) (Or.inl ⟨rfl, ?_⟩) H0 ?_
          rotate_left
          · intro W hW; have hW := HS.out W hW; go_simp; try with_reducible rfl
          simp only [put_list, List.set]
          refine Drawn.take 1 (some 42) (v := ?_) rfl rfl (by kernel_rfl) (by kernel_rfl) (by kernel_rfl) (by kernel_rfl) (by kernel_rfl) rfl (fun _ _ _ h => h) (Or.inl ⟨rfl, ?_⟩) H0 ?_
          rotate_left
          · intro W hW; have hW := HS.out W hW; go_simp; try with_reducible rfl
          simp only [put_list, List.set]
          refine Drawn.take 2 (some 43) (v := ?_) rfl rfl (by kernel_rfl) (by kernel_rfl) (by kernel_rfl) (by kernel_rfl) (by kernel_rfl) rfl (fun _ _ _ h => h) (Or.inl ⟨rfl, ?_⟩) H0 ?_
          rotate_left
          · intro W hW; have hW := HS.out W hW; go_simp; try with_reducible rfl
          simp only [put_list, List.set]
          refine Drawn.take 3 (some 44) (v := ?_) rfl rfl (by kernel_rfl) (by kernel_rfl) (by kernel_rfl) (by kernel_rfl) (by kernel_rfl) rfl (fun _ _ _ h => h) (Or.inl ⟨rfl, ?_⟩) H0 ?_
          rotate_left
          · intro W hW; have hW := HS.out W hW; go_simp; try with_reducible rfl
          simp only [put_list, List.set]
          refine Drawn.take 4 (some 45) (v := ?_) rfl rfl (by kernel_rfl) (by kernel_rfl) (by kernel_rfl) (by kernel_rfl) (by kernel_rfl) rfl (fun _ _ _ h => h) (Or.inl ⟨rfl, ?_⟩) H0 ?_
          rotate_left
          · intro W hW; have hW := HS.out W hW; go_simp; try with_reducible rfl
          simp only [put_list, List.set]
          refine Drawn.take 5 (some 46) (v := ?_) rfl rfl (by kernel_rfl) (by kernel_rfl) (by kernel_rfl) (by kernel_rfl) (by kernel_rfl) rfl (fun _ _ _ h => h) (Or.inl ⟨rfl, ?_⟩) H0 ?_
          rotate_left
          · intro W hW; have hW := HS.out W hW; go_simp; try with_reducible rfl
          simp only [put_list, List.set]
          have hfar := M.ob.it.far
          rw [HN.out.2.2] at hfar
          obtain ⟨F, m, sv, av, hB, hff⟩ := hfar
          have C := Lib.hid (HN.out.1.1.slot hB a k HN.out.2.1 HN.out.1.2.1 HN.out.1.2.2 (by show (1 : Nat) ≤ _; omega))
          rw [← HRES.out] at C
          simp only at C
          have HX := Lib.hid hff
          have HM := Lib.hid M
          clear hB hff M hcell H0 HRES
          unfold valC wordV at C
          refine Drawn.only 6 (by kernel_rfl) rfl rfl (fun K hK => ?_)
          go_simp
          refine C.out.mono ?_
          rintro e V1 ⟨rfl, F1, sv1, av1, hB1, hC1⟩
          have g1 : FarAt d bc (N + 4) (.yes p9 c9) (ftB F1 bc m sv1 av1) V1 := ⟨F1, m, sv1, av1, hB1, rfl⟩
          rw [← HX.out] at hC1
          obtain ⟨g2, g3⟩ := HM.out.ob.it.farAct g1 hC1 (by rw [HN.out.2.2]; rfl)
          have M3 := HM.out.step g2.ob g3
          have H0 : V1.heap[b]? = some (worldO x.mo x.sv (.pointer (some ⟨bc, 0, none⟩))) ∧ V1.heap[q0]? = some (wordO k) := ⟨M3.ob.it.at_.cell, M3.at (List.mem_cons_of_mem _ (List.mem_cons_of_mem _ (List.mem_cons_of_mem _ (List.mem_cons_self ..))))⟩
          have HM3 := Lib.hid M3
          refine hK _ _ (fun _ _ => H0) ?_
          clear hK K C hB1 hC1 g1 g2 g3 HM HX
          try simp only [put_list, List.set]
          refine Drawn.take 7 (some 48) (v := ?_) rfl rfl (by kernel_rfl) (by kernel_rfl) (by kernel_rfl) (by kernel_rfl) (by kernel_rfl) rfl (fun _ _ _ h => h) (Or.inl ⟨rfl, ?_⟩) H0 ?_
          rotate_left
          · intro W hW; have hW := HS.out W hW; go_simp; try with_reducible rfl
          simp only [put_list, List.set]
          refine Drawn.take 8 (some 49) (v := ?_) rfl rfl (by kernel_rfl) (by kernel_rfl) (by kernel_rfl) (by kernel_rfl) (by kernel_rfl) rfl (fun _ _ _ h => h) (Or.inl ⟨rfl, ?_⟩) H0 ?_
          rotate_left
          · intro W hW; have hW := HS.out W hW; go_simp; try with_reducible rfl
          simp only [put_list, List.set]
          obtain ⟨⟨k0, k1, k2, k3⟩, d0, d1, d2, d3⟩ := cells4 (HM3.out.at (q := q1) (o := val.tO) (List.mem_cons_of_mem _ (List.mem_cons_of_mem _ (List.mem_cons_self ..))))
          clear M3
          refine Drawn.only 9 (by kernel_rfl) rfl rfl (fun K hK => ?_)
          go_simp
          refine hK _ _ (fun h _ => by cases h) ?_
          clear hK K
          try simp only [put_list, List.set]
          refine Drawn.only 10 (by kernel_rfl) rfl rfl (fun K hK => ?_)
          try go_simp
          refine hK _ _ (fun h h2 => by cases h2) ?_
          clear hK K HS
          try simp only [put_list, List.set]
          refine Drawn.done (by kernel_rfl) ?_ _
          go_wp2_with fail
          obtain ⟨g1, g2⟩ := valFin HM3.out (List.mem_cons_of_mem _ (List.mem_cons_of_mem _ (List.mem_cons_self ..))) _ _ _ _ rfl
          exact bodyPost_ret (results_cell_slot Tryz.results50 _ _ _ _ _ _ _ _ rfl rfl g1 Tryz.underlying61 rfl (by kernel_rfl)) rfl ⟨rfl, g2⟩
  · have hli : ¬ (a.length : Int) = 20 := by omega
    have hw : w.slot a k = ((0, 1), w) := if_pos hl
    rw [hw]
    have HH := Lib.hid M2
    simp only [alloc_size] at HH
    simp only
    rw [wordC_zero]
    unfold wordO at *
    unfold wordC val.tO at *
    clear h hN M2 hw hl
    go_enter Tryz.func50, Tryz.ntmps50
    go_wp2_with fail
    exact bodyPost_ret (results_cell_slot Tryz.results50 _ _ _ _ _ _ _ _ rfl rfl (HH.out.at (q := W.heap.size + 1) (List.mem_cons_self ..)) Tryz.underlying61 rfl (by kernel_rfl)) rfl ⟨rfl, (Lv.mk HH.out).mono (Nat.le_refl _) (by omega)⟩
end Go.Proofs.YtekoaheiapddiaaGreat.Dz.Wo
end
section
namespace Go.Proofs.YtekoaheiapddiaaGreat.Dz.Wo
open Go.RowKit Go.Maps Mp

section
variable {w : Wd} {b d bc n N : Nat} {x : Sx} {ff : Nat → Prop} {W : World}
theorem SetG.lv {a : Nm} {y : Ent} {n' : Nat} {W' : World} {F0 : Nat → Prop} {L : List (Nat × Obj)} {V : World} (h : SetG w.G w.old x b n' (fvOf w.far bc) a y V W') (M : An (Pw w b d bc n N x ff) (ftP x b ff) W F0 L V) : Lv (w.set a y) b d bc n' N F0 W W' := by
  obtain ⟨x', h1, h2, h3⟩ := h
  obtain ⟨g1, g2⟩ := M.ob.it.act h1 h2 h3
  exact ⟨x', ff, g1, (M.step g1.ob g2).chg⟩
set_option maxRecDepth 100000 in
set_option maxHeartbeats 8000000 in
theorem wDelete_c (h : Pw w b d bc n N x ff W) (hn : n < 900000) (a : Nm) :
    Calls Tryz.prog 49 #[.pointer (some ⟨b, 0, none⟩), .string (str a)] W fun e W' => e = .returned (.int .i64 (w.del a).1) ∧ Lv (w.del a).2 b d bc (n + 2) N (ftP x b ff) W W' := by
  have M2 := An.start h.ob
  have hsz := str_size a
  by_cases hl : a.length = 20
  · have hli : (a.length : Int) = 20 := by omega
    have hw : w.del a = (0, w.set a ⟨true, AccP.zero, true, fun _ => none⟩) := if_neg (by omega)
    rw [hw]
    have HH := Lib.hid (And.intro M2 (wipe_c h.at_ (by omega) hl))
    clear hw hn hl h M2
    simp only
    go_enter Tryz.func49, Tryz.ntmps49
    go_wp2_with fail
    refine HH.out.2.mono ?_
    rintro e V8 ⟨rfl, hS⟩
    have HL := Lib.hid (SetG.lv (SetR.told hS HH.out.1.ob.it.rep (fun m hm => by cases hm)) HH.out.1)
    clear hS
    go_wp2_with fail
    go_ret
    exact ⟨rfl, HL.out.mono (by omega) (Nat.le_refl _)⟩
  · have hli : ¬ (a.length : Int) = 20 := by omega
    have hw : w.del a = (1, w) := if_pos hl
    rw [hw]
    have HH := Lib.hid M2
    simp only
    clear h M2 hw hl hn
    go_enter Tryz.func49, Tryz.ntmps49
    go_wp2_with fail
    go_ret
    exact ⟨rfl, (Lv.mk HH.out).mono (by omega) (Nat.le_refl _)⟩
set_option maxRecDepth 100000 in
theorem wMark_c (h : Pw w b d bc n N x ff W) :
    Calls Tryz.prog 31 #[.pointer (some ⟨b, 0, none⟩)] W fun e W' => e = .returned (.int .i64 (w.old.length : Nat)) ∧ W' = W := by
  obtain ⟨⟨_, b1, _⟩, _⟩ := h.at_.cells
  have hlen := h.rep.hist.len
  obtain ⟨sa, sc, hsv⟩ := own_any h.at_.row
  rw [hlen] at hsv
  rw [hsv] at b1
  clear h hlen hsv
  generalize w.old.length = m at *
  go_enter Tryz.func31, Tryz.ntmps31
  go_wp2_with fail
  go_ret
  exact ⟨rfl, rfl⟩
end
end Go.Proofs.YtekoaheiapddiaaGreat.Dz.Wo
end
section
namespace Go.Proofs.YtekoaheiapddiaaGreat.Dz.Wo
open Go.RowKit Go.Maps Mp

section
variable {w : Wd} {b d bc n N : Nat} {x : Sx} {ff : Nat → Prop} {W : World}
theorem acct_len {w : Wd} {a : Nm} (h : (w.acct a).1.2 = 0) : a.length = 20 := by
  unfold Wd.acct at h
  by_cases h2 : a.length ≠ 20
  · rw [if_pos h2] at h; cases h
  · omega
set_option maxRecDepth 100000 in
set_option maxHeartbeats 8000000 in
theorem alter_c (h : Pw w b d bc n N x ff W) (hN : FzOk N w.far) (hn : n < 900000) (a : Nm) {g qc : Nat} {oc : Obj} (hg : ∀ args w, (callFunc g args).run Tryz.prog w = .ok (.enter g args) w) (hqc : W.heap[qc]? = some oc) (hqf : ¬ ftP x b ff qc) (f : AccP → AccP)
    (hcl : ∀ (V : World), V.heap[qc]? = some oc → ∀ y, Calls Tryz.prog g #[.agg (accCells y), .pointer (some ⟨qc, 0, none⟩)] V fun e V' => e = .returned (.agg (accCells (f y))) ∧ Below V.heap.size V V') :
    Calls Tryz.prog 78 #[.pointer (some ⟨b, 0, none⟩), .string (str a), .func (.func g) #[] #[.pointer (some ⟨qc, 0, none⟩)]] W fun e W' => e = .returned (.int .i64 (w.alter a f).1) ∧ Lv (w.alter a f).2 b d bc (n + 2) (N + 4) (ftP x b ff) W W' := by
  have C := Lib.hid (account_c h hN a)
  have hw : w.alter a f = if (w.acct a).1.2 ≠ 0 then ((w.acct a).1.2, (w.acct a).2) else (0, (w.acct a).2.setAcc a (f (w.acct a).1.1)) := rfl
  have hal := fun h => acct_len (w := w) (a := a) h
  obtain ⟨⟨⟨y, e0⟩, w1⟩, hres⟩ : ∃ res, res = w.acct a := ⟨_, rfl⟩
  rw [← hres] at C hw hal
  simp only at C hal hw
  have HH := Lib.hid (And.intro hn (And.intro hqc (And.intro hqf hal)))
  have HC := Lib.hid hcl
  have HP := Lib.hid (An.start h.ob)
  clear h hN hn hres hqc hqf hal hcl
  unfold accCells at C
  by_cases he : e0 = 0
  · rw [hw, if_neg (fun e => e he)]
    have hl := HH.out.2.2.2 he
    subst he
    clear hw
    simp only
    go_enter Tryz.func78, Tryz.ntmps78
    go_wp2_with fail
    refine C.out.mono ?_
    rintro e V1 ⟨rfl, x1, ff1, h1, h2⟩
    have M1 := (HP.out.step h1.ob h2).alloc (accO y)
    obtain ⟨q0, hq0⟩ : ∃ q0, q0 = V1.heap.size := ⟨_, rfl⟩
    have hc1 : V1.heap[qc]? = some oc := (h2.block qc (lt_of HH.out.2.1) HH.out.2.2.1).trans HH.out.2.1
    have hc2 : (V1.alloc (accO y)).heap[qc]? = some oc := (((Below.refl _ V1).alloc (Nat.le_refl _) _).block qc (lt_of hc1)).trans hc1
    have hc3 : ¬ ftP x1 b ff1 qc := fun hf => by
      rcases h2.new qc hf with e | e
      · exact HH.out.2.2.1 e
      · have := lt_of HH.out.2.1; omega
    have HM := Lib.hid (And.intro M1 (And.intro hc2 (And.intro hc3 hq0)))
    clear M1 h1 h2 hc1 hc2 hc3 C hq0
    unfold accO at HM
    unfold accCells at HM
    go_wp2_with fail
    obtain ⟨M1, hc2, hc3, hq0⟩ := HM.out
    rw [← hq0] at M1 ⊢
    have M := M1.call (Below.refl _ _).drew
    generalize World.alloc V1 _ = V2 at M hc2 ⊢
    clear M1 HM hq0
    have H0 : V2.drew.heap[q0]? = some (accO y) ∧ V2.drew.heap[qc]? = some oc := ⟨M.at (List.mem_cons_self ..), hc2⟩
    have HS := Lib.hid (fun (V : World) (hV : V.heap[q0]? = some (accO y) ∧ V.heap[qc]? = some oc) => (show V.cell? ⟨q0, 0, none⟩ = some (.int .u64 (y.nonce : Nat)) ∧ V.cell? ⟨q0, 1, none⟩ = some (.int .u64 (l3 y.bal : Nat)) ∧ V.cell? ⟨q0, 2, none⟩ = some (.int .u64 (l2 y.bal : Nat)) ∧ V.cell? ⟨q0, 3, none⟩ = some (.int .u64 (l1 y.bal : Nat)) ∧ V.cell? ⟨q0, 4, none⟩ = some (.int .u64 (l0 y.bal : Nat)) ∧ V.cell? ⟨q0, 5, none⟩ = some (.string (str y.code)) from ⟨cell_of hV.1 0, cell_of hV.1 1, cell_of hV.1 2, cell_of hV.1 3, cell_of hV.1 4, cell_of hV.1 5⟩))
    refine Drawn.start (fun V => V.heap[q0]? = some (accO y) ∧ V.heap[qc]? = some oc) (fun _ => false) (by kernel_rfl) ?_
    generalize World.drew _ = V7 at M H0 ⊢
    refine Drawn.take 0 (some 18) (v := ?_) rfl rfl (by kernel_rfl) (by kernel_rfl) (by kernel_rfl) (by kernel_rfl) (by kernel_rfl) rfl (fun _ _ _ h => h) (Or.inl ⟨rfl, ?_⟩) H0 ?_
    rotate_left
    · intro W hW; have hW := HS.out W hW; go_simp; try with_reducible rfl
    simp only [put_list, List.set]
    refine Drawn.take 1 (some 19) (v := ?_) rfl rfl (by kernel_rfl) (by kernel_rfl) (by kernel_rfl) (by kernel_rfl) (by kernel_rfl) rfl (fun _ _ _ h => h) (Or.inl ⟨rfl, ?_⟩) H0 ?_
    rotate_left
    · intro W hW; have hW := HS.out W hW; go_simp; try with_reducible rfl
    simp only [put_list, List.set]
    refine Drawn.take 2 (some 20) (v := ?_) rfl rfl (by kernel_rfl) (by kernel_rfl) (by kernel_rfl) (by kernel_rfl) (by kernel_rfl) rfl (fun _ _ _ h => h) (Or.inl ⟨rfl, ?_⟩) H0 ?_
    rotate_left
    · intro W hW; have hW := HS.out W hW; go_simp; try with_reducible rfl
    simp only [put_list, List.set]
    refine Drawn.take 3 (some 21) (v := ?_) rfl rfl (by kernel_rfl) (by kernel_rfl) (by kernel_rfl) (by kernel_rfl) (by kernel_rfl) rfl (fun _ _ _ h => h) (Or.inl ⟨rfl, ?_⟩) H0 ?_
    rotate_left
    · intro W hW; have hW := HS.out W hW; go_simp; try with_reducible rfl
    simp only [put_list, List.set]
    refine Drawn.take 4 (some 22) (v := ?_) rfl rfl (by kernel_rfl) (by kernel_rfl) (by kernel_rfl) (by kernel_rfl) (by kernel_rfl) rfl (fun _ _ _ h => h) (Or.inl ⟨rfl, ?_⟩) H0 ?_
    rotate_left
    · intro W hW; have hW := HS.out W hW; go_simp; try with_reducible rfl
    simp only [put_list, List.set]
    refine Drawn.take 5 (some 23) (v := ?_) rfl rfl (by kernel_rfl) (by kernel_rfl) (by kernel_rfl) (by kernel_rfl) (by kernel_rfl) rfl (fun _ _ _ h => h) (Or.inl ⟨rfl, ?_⟩) H0 ?_
    rotate_left
    · intro W hW; have hW := HS.out W hW; go_simp; try with_reducible rfl
    simp only [put_list, List.set]
    refine Drawn.only 6 (by kernel_rfl) rfl rfl (fun K hK => ?_)
    go_simp
    refine (HC.out V7 H0.2 y).mono ?_
    rintro e V8 ⟨rfl, hb8⟩
    have M8 := M.call hb8
    have c8 := (hb8.block qc (lt_of H0.2)).trans H0.2
    refine hK _ _ (fun _ _ => ⟨M8.at (List.mem_cons_self ..), c8⟩) ?_
    clear hK K H0 M hb8
    try simp only [put_list, List.set]
    refine Drawn.only 7 (by kernel_rfl) rfl rfl (fun K hK => ?_)
    go_simp
    have h8 := M8.ob.it
    refine (setAccount_c h8.at_ (by have := HH.out.1; omega) hl (f y)).mono ?_
    rintro e V9 ⟨rfl, hS⟩
    have hT := hS.told h8.rep (fun m hm => h8.rep.alone hm)
    have e9 : (Ch.mk true (f y) (x1.s.ch a).wi (x1.s.ch a).sl).ent x1.s.I = ⟨true, f y, (w1.ent a).wi, (w1.ent a).sl⟩ := by
      have e := h8.rep.ent a
      unfold Wd.ent
      rw [e]
      rfl
    rw [e9] at hT
    have HL := Lib.hid (hT.lv M8)
    obtain ⟨x', h1, h2, h3⟩ := hT
    have M9 := M8.step (h8.act h1 h2 h3).1.ob (h8.act h1 h2 h3).2
    refine hK _ _ (fun _ _ => ⟨M9.at (List.mem_cons_self ..), (h3.block qc (lt_of c8) (fun e => hc3 (Or.inl e))).trans c8⟩) ?_
    clear hK K HS c8 h1 h2 h3 M8 M9 h8 hS e9
    try simp only [put_list, List.set]
    refine Drawn.done (by kernel_rfl) ?_ _
    go_wp2_with fail
    go_ret
    exact ⟨rfl, HL.out.mono (by omega) (Nat.le_refl _)⟩
  · rw [hw, if_pos he]
    clear hw
    simp only
    go_enter Tryz.func78, Tryz.ntmps78
    go_wp2_with fail
    refine C.out.mono ?_
    rintro e V1 ⟨rfl, x1, ff1, h1, h2⟩
    have HM := Lib.hid ((HP.out.step h1.ob h2).alloc (accO y))
    clear h1 h2 C
    go_wp2_with fail
    go_ret
    exact ⟨rfl, (Lv.mk HM.out).mono (by omega) (Nat.le_refl _)⟩
end
end Go.Proofs.YtekoaheiapddiaaGreat.Dz.Wo
end
section
namespace Go.Proofs.YtekoaheiapddiaaGreat.Dz.Wo
open Go.RowKit Go.Maps Mp

section
variable {w : Wd} {b d bc n N : Nat} {x : Sx} {ff : Nat → Prop} {W : World}
theorem Lv.after {w' : Wd} {n' N' : Nat} {F0 : Nat → Prop} {L : List (Nat × Obj)} {V W' : World} (h : Lv w' b d bc n' N' (ftP x b ff) V W') (M : An (Pw w b d bc n N x ff) (ftP x b ff) W F0 L V) : Lv w' b d bc n' N' F0 W W' := by
  obtain ⟨x', ff', h1, h2⟩ := h
  exact Lv.mk (M.step h1.ob h2)
set_option maxRecDepth 100000 in
set_option maxHeartbeats 4000000 in
theorem nonce_cl (m : Nat) (qc : Nat) (V : World) (hq : V.heap[qc]? = some (.cells #[.int .u64 (m : Nat)] 41 (0, 0))) (y : AccP) :
    Calls Tryz.prog 79 #[.agg (accCells y), .pointer (some ⟨qc, 0, none⟩)] V fun e V' => e = .returned (.agg (accCells ⟨m, y.bal, y.code⟩)) ∧ Below V.heap.size V V' := by
  have hq2 := ((((Below.refl V.heap.size V).alloc (Nat.le_refl _) (accO y)).alloc (by simp) acc.tO).block qc (lt_of hq)).trans hq
  have c0 : ((V.alloc (accO y)).alloc acc.tO).cell? ⟨qc, 0, none⟩ = some (.int .u64 (m : Nat)) := cell_of hq2 0
  have M := ((Bl.start V).alloc (accO ⟨m, y.bal, y.code⟩)).alloc (accO ⟨m, y.bal, y.code⟩)
  have HM := Lib.hid M
  clear hq hq2 M
  unfold accO at *
  unfold accCells acc.tO at *
  go_enter Tryz.func79, Tryz.ntmps79
  go_wp2_with fail
  exact bodyPost_ret (results_cell_row Tryz.results79 _ _ _ _ _ _ _ rfl (HM.out.at (q := V.heap.size + 1) (by rw [alloc_size]; exact List.mem_cons_self ..)) Tryz.underlying82 rfl (by kernel_rfl)) rfl ⟨rfl, HM.out.below⟩
end
end Go.Proofs.YtekoaheiapddiaaGreat.Dz.Wo
end
section
namespace Go.Proofs.YtekoaheiapddiaaGreat.Dz.Wo
open Go.RowKit Go.Maps Mp

section
variable {w : Wd} {b d bc n N : Nat} {x : Sx} {ff : Nat → Prop} {W : World}
set_option maxRecDepth 100000 in
set_option maxHeartbeats 4000000 in
theorem wSetNonce_c (h : Pw w b d bc n N x ff W) (hN : FzOk N w.far) (hn : n < 900000) (a : Nm) (m : Nat) :
    Calls Tryz.prog 33 #[.pointer (some ⟨b, 0, none⟩), .string (str a), .int .u64 (m : Nat)] W fun e W' => e = .returned (.int .i64 (w.alter a (fun y => ⟨m, y.bal, y.code⟩)).1) ∧ Lv (w.alter a (fun y => ⟨m, y.bal, y.code⟩)).2 b d bc (n + 2) (N + 4) (ftP x b ff) W W' := by
  have M := (An.start h.ob).alloc (.cells #[.int .u64 (m : Nat)] 41)
  have C := Lib.hid (alter_c M.ob.it hN hn a (g := 79) (enters_of Tryz.func79 (by kernel_rfl) rfl) (M.at (List.mem_cons_self ..)) (M.box _ (List.mem_cons_self ..)).2.2 (fun y => ⟨m, y.bal, y.code⟩) (fun V hV y => nonce_cl m _ V hV y))
  have HM := Lib.hid M
  clear h hN hn M
  go_enter Tryz.func33, Tryz.ntmps33
  go_wp2_with fail
  refine C.out.mono ?_
  rintro e V1 ⟨rfl, hL⟩
  have HL := Lib.hid (hL.after HM.out)
  clear hL
  go_wp2_with fail
  go_ret
  exact ⟨rfl, HL.out⟩
end
theorem wFrom {x : Nat} (hx : x < M64) (W : World) : Calls Tryz.prog 46 #[.int .u64 (x : Nat)] W fun e W' => e = .returned (.agg (wordC x)) ∧ Below W.heap.size W W' := by
  refine (from_any x W).mono fun e W' h => ⟨?_, h.2⟩
  have e1 : wordC x = #[.int .u64 0, .int .u64 0, .int .u64 0, .int .u64 x] := by
    have hw : x < W256 := Nat.lt_of_lt_of_le hx (by decide)
    have hd : Dig x x 0 0 0 := ⟨hx, by decide, by decide, by decide, by omega⟩
    obtain ⟨h0, h1, h2, h3⟩ := dig_eq hd
    unfold wordC
    rw [← h0, ← h1, ← h2, ← h3]
    rfl
  rw [h.1, e1]
end Go.Proofs.YtekoaheiapddiaaGreat.Dz.Wo
end
section
namespace Go.Proofs.YtekoaheiapddiaaGreat.Dz.Wo
open Go.RowKit Go.Maps Mp

def Wd.new (z : Fz) : Wd := ⟨fun _ => none, [], z⟩
set_option maxRecDepth 100000 in
set_option maxHeartbeats 4000000 in
theorem fresh_c (W : World) : Calls Tryz.prog 66 #[] W fun e W' => e = .returned (.agg #[.map (some (W.heap.size + 1)), .slice none 0 0]) ∧ W' = (W.alloc (.cells #[.map (some (W.heap.size + 1)), .slice none 0 0] 147)).alloc (.map #[] 0) := by
  have hmm := @run_makeMap Tryz.prog
  go_enter Tryz.func66, Tryz.ntmps66
  go_wp2_with fail
  exact bodyPost_ret (results_cell_row Tryz.results66 _ _ _ _ _ _ _ rfl (((Below.refl _ (W.alloc (.cells #[.map (some (W.heap.size + 1)), .slice none 0 0] 147))).alloc (Nat.le_refl _) (.map #[] 0)).block W.heap.size (by simp) |>.trans (heap_alloc_new _ _)) Tryz.underlying147 rfl (by kernel_rfl)) rfl ⟨rfl, rfl⟩
def Sx.new (m : Nat) : Sx := ⟨⟨fun _ => none, fun _ _ => none⟩, [], [], [], m, .slice none 0 0⟩
set_option maxRecDepth 100000 in
set_option maxHeartbeats 4000000 in
theorem wnew_c {d bc N : Nat} {z : Fz} {ff : Nat → Prop} {W : World} (h : FarAt d bc N z ff W) :
    Calls Tryz.prog 26 #[fvOf z bc] W fun e W' => e = .returned (.pointer (some ⟨W.heap.size + 2, 0, none⟩)) ∧ Pw (Wd.new z) (W.heap.size + 2) d bc 0 N (Sx.new (W.heap.size + 1)) ff W' ∧ Chg ff (ftP (Sx.new (W.heap.size + 1)) (W.heap.size + 2) ff) W W' := by
  have M := ((An.start h.ob).alloc (.cells #[.map (some (W.heap.size + 1)), .slice none 0 0] 147)).alloc (.map #[] 0)
  have hm := MapFn.made kitO (W.alloc (.cells #[.map (some (W.heap.size + 1)), .slice none 0 0] 147))
  rw [alloc_size] at hm
  have M2 := M.alloc (worldO (W.heap.size + 1) (.slice none 0 0) (fvOf z bc))
  have hm2 := hm.keep (((Below.refl _ ((W.alloc (.cells #[.map (some (W.heap.size + 1)), .slice none 0 0] 147)).alloc (.map #[] 0))).alloc (Nat.le_refl _) (worldO (W.heap.size + 1) (.slice none 0 0) (fvOf z bc))).block _ hm.lt)
  simp only [alloc_size] at M2
  have HM := Lib.hid (And.intro M2 hm2)
  clear h M M2 hm hm2
  unfold worldO at HM
  unfold worldC at HM
  obtain ⟨fp, hfp⟩ : ∃ fp, fvOf z bc = .pointer fp := by cases z <;> exact ⟨_, rfl⟩
  rw [hfp] at HM ⊢
  have HF := Lib.hid hfp
  clear hfp
  go_enter Tryz.func26, Tryz.ntmps26
  go_wp2_with fail
  refine (fresh_c _).mono ?_
  rintro e V1 ⟨rfl, rfl⟩
  go_wp2_with fail
  go_ret
  obtain ⟨M, hm⟩ := HM.out
  refine ⟨by simp, ⟨⟨(by rw [show (Wd.new z).far = z from rfl, HF.out]; exact M.at (List.mem_cons_self ..)), hm, fun _ hm => (by cases hm), World.ownsRow_nil _ _ _ _, rfl, Nat.le_refl _, fun _ _ _ h1 => (by cases h1), fun m hl => ?_, fun hx => (by cases hx), fun _ hq => (by cases hq)⟩, ⟨rfl, fun _ _ _ _ _ h1 => (by cases h1), trivial⟩, M.ob.it, fun k hk hf => ?_⟩, ?_⟩
  · rcases hl with ⟨_, _, h1, _⟩ | ⟨_, h1, _⟩
    · cases h1
    · cases h1
  · have hlt : k < W.heap.size ∨ W.heap.size ≤ k := by omega
    rcases hk with e | e | e | e | ⟨_, e, _⟩
    · exact (M.box (W.heap.size + 2, _) (List.mem_cons_self ..)).2.2 (by rw [← show k = W.heap.size + 2 from e]; exact hf)
    · exact (M.box (W.heap.size + 1, _) (List.mem_cons_of_mem _ (List.mem_cons_self ..))).2.2 (by rw [← show k = W.heap.size + 1 from e]; exact hf)
    · cases e
    · cases e
    · cases e
  · have c := M.chg
    refine ⟨c.os, c.tape, c.output, c.size, c.block, fun k hk => ?_⟩
    rcases hk with (e | e | e | e | ⟨_, e, _⟩) | e
    · exact Or.inr (by omega)
    · exact Or.inr (by rw [show k = W.heap.size + 1 from e]; omega)
    · cases e
    · cases e
    · cases e
    · exact Or.inl e
end Go.Proofs.YtekoaheiapddiaaGreat.Dz.Wo
end
