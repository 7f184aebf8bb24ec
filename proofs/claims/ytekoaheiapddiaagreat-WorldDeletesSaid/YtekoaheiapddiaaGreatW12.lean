/- Merged: Hg, Hh. -/
import Derived.Test.YtekoaheiapddiaaGreatW11
import Derived.Deep.CutRange
import Derived.Test.YtekoaheiapddiaaGreatW10
section
namespace Go.Proofs.YtekoaheiapddiaaGreat.Dz.Wo
open Go.RowKit Go.Maps Mp

abbrev wordO (n : Nat) : Obj := .cells (wordC n) 61 (0, 0)
/-- The change of a slot in a map that is there: its end. -/
theorem pushedI {x : Sx} {b n : Nat} {fv : Value} {W V7 V8 V9 V10 : World} (h : WAt x b fv n W) {m k v : Nat} (hm : m ∈ x.ids) (hB : Below W.heap.size W V7) (h7 : WAt x b fv n V7) {q : Nat} (hbk : BoxI m k (x.s.I m k) q V8) (hmap : MapFn kitW m (n + 1) (upf (x.s.I m) k (some v)) V8)
    (hc : Chg (fun j => j = m) (fun j => j = m ∨ (q ≤ j ∧ j < q + 5)) V7 V8) (hq : q = V7.heap.size) (hq5 : q + 5 ≤ V8.heap.size) (j10 : V10.heap[b]? = some (worldO x.mo x.sv fv)) {z8 : Nat} (s9 : V9.heap.size = z8 + 1) (B9 : Below z8 V8 V9) (hz8 : z8 = V8.heap.size) {g cap : Nat}
    (r10 : V10.ownsRow 0 1 1 (.slice (some ⟨g, 0, none⟩) (x.bs.length + 1) cap) (x.bs.length + 1) ((List.zipWith bkV x.bs x.qs).reverse ++ [bkV (.i m k (x.s.I m k)) q])) (g10 : V9.grownBy V10 x.sv.ownBlock) (l10 : x.sv.ownBlock = some g ∨ g = V9.heap.size) :
    ∃ q v', WAt (x.slot m k v q v') b fv (n + 1) (V10.setCell ⟨b, 1, none⟩ (.slice (some ⟨g, 0, none⟩) (x.bs.length + 1) cap)) ∧ Chg (x.ft b) ((x.slot m k v q v').ft b) W (V10.setCell ⟨b, 1, none⟩ (.slice (some ⟨g, 0, none⟩) (x.bs.length + 1) cap)) := by
  have hcell := chgWorld (v' := .slice (some ⟨g, 0, none⟩) (x.bs.length + 1) cap) j10
  have hbl := lt_of h.cell
  have hml := h.out.lt
  have hil := (h.inn m hm).lt
  obtain ⟨hmb, hmo⟩ := h.id_ne hm
  have hs7 := hB.size
  have hs8 := hc.size
  have hs10 := g10.size
  have fr : ∀ k, k < V8.heap.size → k ≠ b → x.sv.ownBlock ≠ some k → (V10.setCell ⟨b, 1, none⟩ (.slice (some ⟨g, 0, none⟩) (x.bs.length + 1) cap)).heap[k]? = V8.heap[k]? := fun k h1 h2 h3 =>
    (heap_setCell_other _ _ _ _ h2).trans ((g10.block k (by omega) (Ne.symm h3)).trans (B9.block k (by omega)))
  have hsz : (V10.setCell ⟨b, 1, none⟩ (.slice (some ⟨g, 0, none⟩) (x.bs.length + 1) cap)).heap.size = V10.heap.size := by simp [World.setCell]
  have hgb : g ≠ b := by
    rcases l10 with e | e
    · exact (h.row_ne e).1
    · omega
  refine ⟨q, _, h.push (v' := .slice (some ⟨g, 0, none⟩) (x.bs.length + 1) cap) (c := .i m k (x.s.I m k)) ⟨?_, ?_, ?_, by omega, fun k hk hF => ?_, fun k hk => ?_⟩ hcell ((h7.out.mono (Nat.le_succ n)).keep ((fr _ (by omega) h.mo_ne (fun e => (h.row_ne e).2.1 rfl)).trans (hc.block _ (by omega) (Ne.symm hmo)))) (fun j hj => ?_) (BkAt.keep (mo := x.mo) (b := .i m k (x.s.I m k)) hbk fun j h1 h2 => fr j (by omega) (by omega) (fun e => by have := h.row_lt e; omega)) (by omega) (by omega) (own_keep r10 fun k hk => ?_) (fun g' hg' => ?_) (fun m hm => Or.inl hm) (fun j hj => ?_)⟩
  · exact g10.os.trans (B9.os.trans (hc.os.trans hB.os))
  · exact g10.tape.trans (B9.tape.trans (hc.tape.trans hB.tape))
  · exact g10.output.trans (B9.output.trans (hc.output.trans hB.output))
  · have hkm : k ≠ m := fun e => hF (Or.inr (Or.inr (Or.inl (by rw [e]; exact hm))))
    exact (fr k (by omega) (fun e => hF (Or.inl e)) (fun e => hF (Or.inr (Or.inr (Or.inr e))))).trans ((hc.block k (by omega) hkm).trans (hB.block k hk))
  · rcases hk with e | e | e | e | e
    · exact Or.inl (Or.inl e)
    · exact Or.inl (Or.inr (Or.inl e))
    · exact Or.inl (Or.inr (Or.inr (Or.inl e)))
    · cases e
      rcases l10 with e | e
      · exact Or.inl (Or.inr (Or.inr (Or.inr e)))
      · exact Or.inr (by simp only; omega)
    · exact Or.inr (by omega)
  · have hjl := (h.inn j hj).lt
    have hj2 := fr j (by omega) (h.id_ne hj).1 (fun e => (h.row_ne e).2.2 hj)
    by_cases e : j = m
    · subst e
      rw [if_pos rfl]
      exact hmap.keep hj2
    · rw [if_neg e]
      exact ((h7.inn j hj).mono (Nat.le_succ n)).keep (hj2.trans (hc.block j (by omega) e))
  · cases hk
    exact heap_setCell_other _ _ _ _ hgb
  · cases hg'
    rcases l10 with e | e
    · exact Or.inl e
    · exact Or.inr (by simp only; omega)
  · rcases hj with ⟨k', y, h1, h2⟩ | ⟨c, hcm, h2⟩
    · exact h.live j (Or.inl ⟨k', y, h1, h2⟩)
    · rcases List.mem_cons.1 hcm with rfl | hcm
      · rw [show j = m from h2]; exact hm
      · exact h.live j (Or.inr ⟨c, hcm, h2⟩)
theorem chg_more {x : Sx} {b m : Nat} {f : Nat → Option Nat} {F' : Nat → Prop} {W V V' : World} (h : Chg (x.ft b) (x.ft b) W V) (h2 : Chg ((x.more m f).ft b) F' V V') (hm : W.heap.size ≤ m) : Chg (x.ft b) F' W V' := by
  have hft : ∀ k, (x.more m f).ft b k → k = m ∨ x.ft b k := fun k hk => by
    rcases hk with e | e | e | e | e
    · exact Or.inr (Or.inl e)
    · exact Or.inr (Or.inr (Or.inl e))
    · rcases List.mem_cons.1 e with e | e
      · exact Or.inl e
      · exact Or.inr (Or.inr (Or.inr (Or.inl e)))
    · exact Or.inr (Or.inr (Or.inr (Or.inr (Or.inl e))))
    · exact Or.inr (Or.inr (Or.inr (Or.inr (Or.inr e))))
  refine ⟨h2.os.trans h.os, h2.tape.trans h.tape, h2.output.trans h.output, Nat.le_trans h.size h2.size, fun k hk hn => (h2.block k (Nat.lt_of_lt_of_le hk h.size) fun hF => ?_).trans (h.block k hk hn), fun k hk => ?_⟩
  · rcases hft k hF with e | e
    · omega
    · exact hn e
  · rcases h2.new k hk with e | e
    · rcases hft k e with e | e
      · exact Or.inr (by omega)
      · exact Or.inl e
    · exact Or.inr (Nat.le_trans h.size e)
theorem map_neq (o : Option Nat) (W : World) : (binOp .neq 164 (.map o) (.map none)).run Tryz.prog W = .ok (.bool o.isSome) W := by
  cases o with
  | none => kernel_rfl
  | some m => kernel_rfl
set_option maxRecDepth 100000 in
set_option maxHeartbeats 8000000 in
theorem setSlot_c {x : Sx} {b n : Nat} {fv : Value} {W : World} {G : Gs} {old : List Gs} (h : WAt x b fv n W) (hr : Rp x G old) (hn : n < 900000) {a : Nm} (ha : a.length = 20) {k v : Nat} (hk : k < W256) :
    Calls Tryz.prog 97 #[.pointer (some ⟨b, 0, none⟩), .string (str a), .agg (wordC k), .agg (wordC v)] W fun e W' => e = .returned (.tuple #[]) ∧ SetG G old x b (n + 2) fv a ⟨((G a).getD Ent.zero).ch, ((G a).getD Ent.zero).acc, ((G a).getD Ent.zero).wi, upf ((G a).getD Ent.zero).sl k (some v)⟩ W W' := by
  rw [hr.ent a]
  have M2 := ((An.start h.ob).alloc (wordO k)).alloc (wordO v)
  have HL := M2.ob.it.look ha
  have b0 := M2.ob.it.cells.1.1
  have M3 := M2.alloc (chO (x.s.ch a))
  rw [alloc_size, alloc_size] at M3
  have HM := Lib.hid (And.intro M3 (And.intro hn (And.intro ha hk)))
  have HH := Lib.hid (And.intro h hr)
  clear h hn ha hk M2 M3 hr
  obtain ⟨c0, hc0⟩ : ∃ c0, c0 = x.s.ch a := ⟨_, rfl⟩
  rw [← hc0] at HL HM ⊢
  have HC := Lib.hid hc0
  clear hc0
  unfold wordO at *
  unfold chO at *
  unfold chCells wordC at *
  obtain ⟨cc, ca, cw, cs⟩ := c0
  simp only at *
  go_enter Tryz.func97, Tryz.ntmps97
  cases cs with
  | some m =>
    have hcm : (x.s.ch a).sl = some m := by rw [← HC.out]
    have hmi : m ∈ x.ids := HH.out.1.chLive hcm
    have hq := map_neq (some m)
    simp only [Option.isSome_some] at hq
    go_wp2_with fail
    have M := HM.out.1.call (Below.refl _ _).drew
    have HB0 := Lib.hid (((((Below.refl _ W).alloc (Nat.le_refl _) _).alloc (by simp) _).alloc (by simp; omega) _ : Below W.heap.size W (((W.alloc (.cells #[.int .u64 (l3 k : Nat), .int .u64 (l2 k : Nat), .int .u64 (l1 k : Nat), .int .u64 (l0 k : Nat)] 61)).alloc (.cells #[.int .u64 (l3 v : Nat), .int .u64 (l2 v : Nat), .int .u64 (l1 v : Nat), .int .u64 (l0 v : Nat)] 61)).alloc (.cells #[.bool cc, .int .u64 (ca.nonce : Nat), .int .u64 (l3 ca.bal : Nat), .int .u64 (l2 ca.bal : Nat), .int .u64 (l1 ca.bal : Nat), .int .u64 (l0 ca.bal : Nat), .string (str ca.code), .bool cw, .map (some m)] 166))).drew)
    generalize World.alloc (World.alloc (World.alloc W _) _) _ = V6 at M HB0 ⊢
    obtain ⟨q0, hq0⟩ : ∃ q0, q0 = W.heap.size := ⟨_, rfl⟩
    rw [← hq0] at M ⊢
    obtain ⟨q1, hq1⟩ : ∃ q1, q1 = q0 + 1 := ⟨_, rfl⟩
    rw [← hq1] at M ⊢
    obtain ⟨q2, hq2⟩ : ∃ q2, q2 = q1 + 1 := ⟨_, rfl⟩
    rw [← hq2] at M ⊢
    have H0 : V6.drew.heap[b]? = some (worldO x.mo x.sv fv) ∧ V6.drew.heap[q2]? = some (chO ⟨cc, ca, cw, some m⟩) ∧ V6.drew.heap[q1]? = some (wordO v) ∧ V6.drew.heap[q0]? = some (wordO k) := ⟨M.ob.it.cell, M.at (List.mem_cons_self ..), M.at (List.mem_cons_of_mem _ (List.mem_cons_self ..)), M.at (List.mem_cons_of_mem _ (List.mem_cons_of_mem _ (List.mem_cons_self ..)))⟩
    have HS := Lib.hid (fun (V : World) (hV : V.heap[b]? = some (worldO x.mo x.sv fv) ∧ V.heap[q2]? = some (chO ⟨cc, ca, cw, some m⟩) ∧ V.heap[q1]? = some (wordO v) ∧ V.heap[q0]? = some (wordO k)) => (show (V.cell? ⟨b, 0, none⟩ = some (.map (some x.mo)) ∧ V.cell? ⟨b, 1, none⟩ = some x.sv) ∧ V.cell? ⟨q2, 8, none⟩ = some (.map (some m)) ∧ (V.cell? ⟨q1, 0, none⟩ = some (.int .u64 (l3 v : Nat)) ∧ V.cell? ⟨q1, 1, none⟩ = some (.int .u64 (l2 v : Nat)) ∧ V.cell? ⟨q1, 2, none⟩ = some (.int .u64 (l1 v : Nat)) ∧ V.cell? ⟨q1, 3, none⟩ = some (.int .u64 (l0 v : Nat))) ∧ (V.cell? ⟨q0, 0, none⟩ = some (.int .u64 (l3 k : Nat)) ∧ V.cell? ⟨q0, 1, none⟩ = some (.int .u64 (l2 k : Nat)) ∧ V.cell? ⟨q0, 2, none⟩ = some (.int .u64 (l1 k : Nat)) ∧ V.cell? ⟨q0, 3, none⟩ = some (.int .u64 (l0 k : Nat))) from ⟨⟨cell_of hV.1 0, cell_of hV.1 1⟩, cell_of hV.2.1 8, ⟨cell_of hV.2.2.1 0, cell_of hV.2.2.1 1, cell_of hV.2.2.1 2, cell_of hV.2.2.1 3⟩, ⟨cell_of hV.2.2.2 0, cell_of hV.2.2.2 1, cell_of hV.2.2.2 2, cell_of hV.2.2.2 3⟩⟩))
    have hB7 : Below W.heap.size W V6.drew := HB0.out
    have HQ := Lib.hid (And.intro hq0 (And.intro hq1 hq2))
    clear HL b0 hq hq0 hq1 hq2
    refine Drawn.start (fun V => V.heap[b]? = some (worldO x.mo x.sv fv) ∧ V.heap[q2]? = some (chO ⟨cc, ca, cw, some m⟩) ∧ V.heap[q1]? = some (wordO v) ∧ V.heap[q0]? = some (wordO k)) (fun j => j == 14) (by kernel_rfl) ?_
    generalize World.drew _ = V7 at M H0 hB7 ⊢
    refine Drawn.take 0 (some 18) (v := ?_) rfl rfl (by kernel_rfl) (by kernel_rfl) (by kernel_rfl) (by kernel_rfl) (by kernel_rfl) rfl (fun _ _ _ h => h) (Or.inl ⟨rfl, ?_⟩) H0 ?_
    rotate_left
    · intro W hW; have hW := HS.out W hW; go_simp; try with_reducible rfl
    simp only [put_list, List.set]
    refine Drawn.take 1 (some 19) (v := ?_) rfl rfl (by kernel_rfl) (by kernel_rfl) (by kernel_rfl) (by kernel_rfl) (by kernel_rfl) rfl (fun _ _ _ h => h) (Or.inl ⟨rfl, ?_⟩) H0 ?_
    rotate_left
    · intro W hW; have hW := HS.out W hW; go_simp; try with_reducible rfl
    simp only [put_list, List.set]
    refine Drawn.take 2 (some 20) (v := ?_) rfl rfl (by kernel_rfl) (by kernel_rfl) (by kernel_rfl) (by kernel_rfl) (by kernel_rfl) rfl (fun _ _ _ h => h) (Or.inl ⟨rfl, ?_⟩) H0 ?_
    rotate_left
    · intro W hW; have hW := HS.out W hW; go_simp; try with_reducible rfl
    simp only [put_list, List.set]
    refine Drawn.take 3 (some 21) (v := ?_) rfl rfl (by kernel_rfl) (by kernel_rfl) (by kernel_rfl) (by kernel_rfl) (by kernel_rfl) rfl (fun _ _ _ h => h) (Or.inl ⟨rfl, ?_⟩) H0 ?_
    rotate_left
    · intro W hW; have hW := HS.out W hW; go_simp; try with_reducible rfl
    simp only [put_list, List.set]
    refine Drawn.take 4 (some 22) (v := ?_) rfl rfl (by kernel_rfl) (by kernel_rfl) (by kernel_rfl) (by kernel_rfl) (by kernel_rfl) rfl (fun _ _ _ h => h) (Or.inl ⟨rfl, ?_⟩) H0 ?_
    rotate_left
    · intro W hW; have hW := HS.out W hW; go_simp; try with_reducible rfl
    simp only [put_list, List.set]
    refine Drawn.take 5 (some 23) (v := ?_) rfl rfl (by kernel_rfl) (by kernel_rfl) (by kernel_rfl) (by kernel_rfl) (by kernel_rfl) rfl (fun _ _ _ h => h) (Or.inl ⟨rfl, ?_⟩) H0 ?_
    rotate_left
    · intro W hW; have hW := HS.out W hW; go_simp; try with_reducible rfl
    simp only [put_list, List.set]
    refine Drawn.take 6 (some 24) (v := ?_) rfl rfl (by kernel_rfl) (by kernel_rfl) (by kernel_rfl) (by kernel_rfl) (by kernel_rfl) rfl (fun _ _ _ h => h) (Or.inl ⟨rfl, ?_⟩) H0 ?_
    rotate_left
    · intro W hW; have hW := HS.out W hW; go_simp; try with_reducible rfl
    simp only [put_list, List.set]
    refine Drawn.take 7 (some 25) (v := ?_) rfl rfl (by kernel_rfl) (by kernel_rfl) (by kernel_rfl) (by kernel_rfl) (by kernel_rfl) rfl (fun _ _ _ h => h) (Or.inl ⟨rfl, ?_⟩) H0 ?_
    rotate_left
    · intro W hW; have hW := HS.out W hW; go_simp; try with_reducible rfl
    simp only [put_list, List.set]
    refine Drawn.take 8 (some 26) (v := ?_) rfl rfl (by kernel_rfl) (by kernel_rfl) (by kernel_rfl) (by kernel_rfl) (by kernel_rfl) rfl (fun _ _ _ h => h) (Or.inl ⟨rfl, ?_⟩) H0 ?_
    rotate_left
    · intro W hW; have hW := HS.out W hW; go_simp; try with_reducible rfl
    simp only [put_list, List.set]
    refine Drawn.only 9 (by kernel_rfl) rfl rfl (fun K hK => ?_)
    go_simp
    refine (putI_c (M.ob.it.inn m hmi) (by have := HM.out.2.1; omega) HM.out.2.2.2 v).mono ?_
    rintro e V8 ⟨rfl, hbk, hmap, hc⟩
    have h7 := M.ob.it
    have hne := h7.id_ne hmi
    have j8 : V8.heap[b]? = some (worldO x.mo x.sv fv) := (hc.block b (lt_of h7.cell) (Ne.symm hne.1)).trans h7.cell
    have hil := (HH.out.1.inn m hmi).lt
    obtain ⟨hq0, hq1, hq2⟩ := HQ.out
    have k8 : V8.heap[b]? = some (worldO x.mo x.sv fv) ∧ V8.heap[q2]? = some (chO ⟨cc, ca, cw, some m⟩) ∧ V8.heap[q1]? = some (wordO v) ∧ V8.heap[q0]? = some (wordO k) := ⟨j8, (hc.block _ (lt_of H0.2.1) (by omega)).trans H0.2.1, (hc.block _ (lt_of H0.2.2.1) (by omega)).trans H0.2.2.1, (hc.block _ (lt_of H0.2.2.2) (by omega)).trans H0.2.2.2⟩
    have r8 : V8.ownsRow 0 1 1 x.sv x.bs.length (List.zipWith bkV x.bs x.qs).reverse := own_keep h7.row fun k hk => hc.block k (h7.row_lt hk) (fun e => (h7.row_ne hk).2.2 (by rw [e]; exact hmi))
    refine hK _ _ (fun _ _ => k8) ?_
    clear hK K
    obtain ⟨q, hq⟩ : ∃ q, q = V7.heap.size := ⟨_, rfl⟩
    rw [← hq] at hbk hc ⊢
    obtain ⟨lb, hcv⟩ : ∃ lb, .func (.func 173) #[] lb = bkV (.i m k (x.s.I m k)) q := ⟨_, rfl⟩
    rw [← hcv]
    have h84 : q + 5 ≤ V8.heap.size := lt_of hbk.hw
    have H8 := Lib.hid (And.intro h7 (And.intro hbk (And.intro hmap (And.intro hc (And.intro hq hcv)))))
    have HB := Lib.hid (And.intro hB7 h84)
    have HR := Lib.hid r8
    clear h7 hbk hmap hc hq hcv hB7 h84 r8 H0 M HB0 hq0 hq1 hq2 hil hne
    try simp only [put_list, List.set]
    refine Drawn.only 10 (by kernel_rfl) rfl rfl (fun K hK => ?_)
    go_simp
    have B9 : Below V8.heap.size V8 (V8.alloc (.cells #[.func (.func 173) #[] lb] 1)) := (Below.refl _ V8).alloc (Nat.le_refl _) _
    have j9 : (V8.alloc (.cells #[.func (.func 173) #[] lb] 1)).heap[b]? = some (worldO x.mo x.sv fv) ∧ (V8.alloc (.cells #[.func (.func 173) #[] lb] 1)).heap[q2]? = some (chO ⟨cc, ca, cw, some m⟩) ∧ (V8.alloc (.cells #[.func (.func 173) #[] lb] 1)).heap[q1]? = some (wordO v) ∧ (V8.alloc (.cells #[.func (.func 173) #[] lb] 1)).heap[q0]? = some (wordO k) := ⟨(B9.block _ (lt_of k8.1)).trans k8.1, (B9.block _ (lt_of k8.2.1)).trans k8.2.1, (B9.block _ (lt_of k8.2.2.1)).trans k8.2.2.1, (B9.block _ (lt_of k8.2.2.2)).trans k8.2.2.2⟩
    have r9 : (V8.alloc (.cells #[.func (.func 173) #[] lb] 1)).ownsRow 0 1 1 x.sv x.bs.length (List.zipWith bkV x.bs x.qs).reverse := own_keep HR.out fun k hk => B9.block k (World.ownsRow.lt HR.out k hk).2
    have n9 : (V8.alloc (.cells #[.func (.func 173) #[] lb] 1)).heap[V8.heap.size]? = some (.cells #[.func (.func 173) #[] lb] 1 (0, 0)) := heap_alloc_new _ _
    have s9 : (V8.alloc (.cells #[.func (.func 173) #[] lb] 1)).heap.size = V8.heap.size + 1 := alloc_size _ _
    refine hK _ _ (fun _ _ => j9) ?_
    clear hK K j8 k8 HR
    generalize World.alloc V8 _ = V9 at j9 r9 n9 s9 B9 ⊢
    obtain ⟨z8, hz8⟩ : ∃ z8, z8 = V8.heap.size := ⟨_, rfl⟩
    rw [← hz8] at n9 s9 B9 ⊢
    obtain ⟨i0, hi, hz0, hz1, hz2⟩ := info_parts infoFn
    try simp only [put_list, List.set]
    refine Drawn.only 11 (by kernel_rfl) rfl rfl (fun K hK => ?_)
    refine wp_append_lies _ (.tmp 22) (.tmp 28) 145 rfl 0 1 i0 .nilFunc 1 8 Tryz.underlying145 hi hz0 hz1 hz2 rfl (by omega) x.sv x.bs.length _ rfl r9 ⟨z8, 0, none⟩ 1 1 [.func (.func 173) #[] lb] rfl rfl (fun j u hj => ?_) (fun u hu => ?_) (by omega) (by have := HH.out.1.few; have := HM.out.2.1; unfold maxLen; omega) (by have := HH.out.1.few; have := HM.out.2.1; omega) (Nat.zero_le _) _ rfl ?_
    · match j, hj with
      | 0, hj => cases hj; exact cell_of n9 0
      | j + 1, hj => simp at hj
    · rw [List.mem_singleton] at hu; rw [hu]; rfl
    intro g cap V10 r10 g10 l10 m10
    have hrb : x.sv.ownBlock ≠ some b := fun e => (HH.out.1.row_ne e).1 rfl
    have hrq : ∀ {j : Nat}, q0 ≤ j → some j ≠ x.sv.ownBlock := fun {j} hj e => by have := HH.out.1.row_lt e.symm; have := HQ.out.1; omega
    have j10 : V10.heap[b]? = some (worldO x.mo x.sv fv) := (g10.block b (lt_of j9.1) (Ne.symm hrb)).trans j9.1
    have k10 : V10.heap[b]? = some (worldO x.mo x.sv fv) ∧ V10.heap[q2]? = some (chO ⟨cc, ca, cw, some m⟩) ∧ V10.heap[q1]? = some (wordO v) ∧ V10.heap[q0]? = some (wordO k) := ⟨j10, (g10.block _ (lt_of j9.2.1) (hrq (by have := HQ.out.2.1; have := HQ.out.2.2; omega))).trans j9.2.1, (g10.block _ (lt_of j9.2.2.1) (hrq (by have := HQ.out.2.1; have := HQ.out.2.2; omega))).trans j9.2.2.1, (g10.block _ (lt_of j9.2.2.2) (hrq (by have := HQ.out.2.1; have := HQ.out.2.2; omega))).trans j9.2.2.2⟩
    refine hK _ _ (fun _ _ => k10) ?_
    have HG := Lib.hid (And.intro r10 (And.intro g10 (And.intro l10 m10)))
    have HJ := Lib.hid (And.intro j10 (And.intro s9 (And.intro B9 hz8)))
    have d1 : V10.cell? ⟨b, 1, none⟩ = some x.sv := cell_of j10 1
    have d2 := free_of j10 1
    have S10 := Lib.hid k10
    clear hK K r10 g10 l10 m10 hrb j10 s9 B9 hz8 j9 r9 n9 hi hz0 hz1 hz2 k10 hrq
    try simp only [put_list, List.set]
    refine Drawn.only 12 (by kernel_rfl) rfl rfl (fun K hK => ?_)
    go_simp
    refine hK _ _ (fun _ _ => S10.out) ?_
    clear hK K
    try simp only [put_list, List.set]
    refine Drawn.only 13 (by kernel_rfl) rfl rfl (fun K hK => ?_)
    go_simp
    refine hK _ _ (fun _ _ => S10.out) ?_
    clear hK K
    try simp only [put_list, List.set]
    refine Drawn.only 14 (by kernel_rfl) rfl rfl (fun K hK => ?_)
    go_simp
    refine hK _ _ (fun h _ => by cases h) ?_
    clear hK K HS S10 d1 d2
    try simp only [put_list, List.set]
    refine Drawn.done (by kernel_rfl) ?_ _
    go_wp2_with fail
    refine bodyPost_ret (results_none rfl _ _ _) rfl ?_
    obtain ⟨q9, v9, p1, p2⟩ := pushedI HH.out.1 hmi HB.out.1 H8.out.1 H8.out.2.1 H8.out.2.2.1 H8.out.2.2.2.1 H8.out.2.2.2.2.1 HB.out.2 HJ.out.1 HJ.out.2.1 HJ.out.2.2.1 HJ.out.2.2.2 (by have := HG.out.1; rw [H8.out.2.2.2.2.2] at this; exact this) HG.out.2.1 HG.out.2.2.1
    refine ⟨rfl, _, p1.mono (Nat.le_succ _), ?_, p2⟩
    have h9 := HH.out.2.slot hcm k v q9 v9
    rw [← HC.out] at h9
    exact h9
  | none =>
    have hq := map_neq none
    simp only [Option.isSome_none] at hq
    go_upto_region 4 with fail
    have M3 := HM.out.1
    generalize World.alloc (World.alloc (World.alloc W _) _) _ = V3 at M3 ⊢
    obtain ⟨q0, hq0⟩ : ∃ q0, q0 = W.heap.size := ⟨_, rfl⟩
    rw [← hq0] at M3 ⊢
    obtain ⟨q1, hq1⟩ : ∃ q1, q1 = q0 + 1 := ⟨_, rfl⟩
    rw [← hq1] at M3 ⊢
    obtain ⟨q2, hq2⟩ : ∃ q2, q2 = q1 + 1 := ⟨_, rfl⟩
    rw [← hq2] at M3 ⊢
    have hql := lt_of (M3.at (q := q2) (List.mem_cons_self ..))
    have hmm := @run_makeMap Tryz.prog
    have hf0 := MapFn.made kitW V3
    obtain ⟨o, HP, hmap⟩ := hf0.put (k := k) (by unfold maxLen; omega) HM.out.2.2.2 v
    have M4 := M3.alloc (.map #[] 0)
    have ho : (ChangeMaps.setBlock (V3.alloc (.map #[] 0)) V3.heap.size o).heap[V3.heap.size]? = some o := by
      obtain ⟨D, ⟨es, c, h1, _⟩, _⟩ := hf0
      exact (ChangeMaps.heap_setBlock_same h1 o)
    have M5 := M4.put (setBlock_chg fun j hj => Or.inl hj) ho (by intro z hz; simp only [List.mem_cons, List.not_mem_nil, or_false] at hz; rcases hz with rfl | rfl | rfl <;> simp only <;> omega)
    have g0 := M4.at (q := q0) (List.mem_cons_of_mem _ (List.mem_cons_of_mem _ (List.mem_cons_of_mem _ (List.mem_cons_self ..))))
    have g1 := M4.at (q := q1) (List.mem_cons_of_mem _ (List.mem_cons_of_mem _ (List.mem_cons_self ..)))
    have g2 := M5.at (q := q2) (List.mem_cons_of_mem _ (List.mem_cons_self ..))
    have a00 : (V3.alloc (.map #[] 0)).cell? ⟨q0, 0, none⟩ = some (.int .u64 (l3 k : Nat)) := cell_of g0 0
    have a01 : (V3.alloc (.map #[] 0)).cell? ⟨q0, 1, none⟩ = some (.int .u64 (l2 k : Nat)) := cell_of g0 1
    have a02 : (V3.alloc (.map #[] 0)).cell? ⟨q0, 2, none⟩ = some (.int .u64 (l1 k : Nat)) := cell_of g0 2
    have a03 : (V3.alloc (.map #[] 0)).cell? ⟨q0, 3, none⟩ = some (.int .u64 (l0 k : Nat)) := cell_of g0 3
    have a10 : (V3.alloc (.map #[] 0)).cell? ⟨q1, 0, none⟩ = some (.int .u64 (l3 v : Nat)) := cell_of g1 0
    have a11 : (V3.alloc (.map #[] 0)).cell? ⟨q1, 1, none⟩ = some (.int .u64 (l2 v : Nat)) := cell_of g1 1
    have a12 : (V3.alloc (.map #[] 0)).cell? ⟨q1, 2, none⟩ = some (.int .u64 (l1 v : Nat)) := cell_of g1 2
    have a13 : (V3.alloc (.map #[] 0)).cell? ⟨q1, 3, none⟩ = some (.int .u64 (l0 v : Nat)) := cell_of g1 3
    have a20 : (ChangeMaps.setBlock (V3.alloc (.map #[] 0)) V3.heap.size o).cell? ⟨q2, 0, none⟩ = some (.bool cc) := cell_of g2 0
    have a21 : (ChangeMaps.setBlock (V3.alloc (.map #[] 0)) V3.heap.size o).cell? ⟨q2, 1, none⟩ = some (.int .u64 (ca.nonce : Nat)) := cell_of g2 1
    have a22 : (ChangeMaps.setBlock (V3.alloc (.map #[] 0)) V3.heap.size o).cell? ⟨q2, 2, none⟩ = some (.int .u64 (l3 ca.bal : Nat)) := cell_of g2 2
    have a23 : (ChangeMaps.setBlock (V3.alloc (.map #[] 0)) V3.heap.size o).cell? ⟨q2, 3, none⟩ = some (.int .u64 (l2 ca.bal : Nat)) := cell_of g2 3
    have a24 : (ChangeMaps.setBlock (V3.alloc (.map #[] 0)) V3.heap.size o).cell? ⟨q2, 4, none⟩ = some (.int .u64 (l1 ca.bal : Nat)) := cell_of g2 4
    have a25 : (ChangeMaps.setBlock (V3.alloc (.map #[] 0)) V3.heap.size o).cell? ⟨q2, 5, none⟩ = some (.int .u64 (l0 ca.bal : Nat)) := cell_of g2 5
    have a26 : (ChangeMaps.setBlock (V3.alloc (.map #[] 0)) V3.heap.size o).cell? ⟨q2, 6, none⟩ = some (.string (str ca.code)) := cell_of g2 6
    have a27 : (ChangeMaps.setBlock (V3.alloc (.map #[] 0)) V3.heap.size o).cell? ⟨q2, 7, none⟩ = some (.bool cw) := cell_of g2 7
    have a28 : (ChangeMaps.setBlock (V3.alloc (.map #[] 0)) V3.heap.size o).cell? ⟨q2, 8, none⟩ = some (.map none) := cell_of g2 8
    have a29 : (ChangeMaps.setBlock (V3.alloc (.map #[] 0)) V3.heap.size o).frozen? ⟨q2, 8, none⟩ = false := free_of g2 8
    replace HP : (Instr.mapUpdate 164 (.map (some V3.heap.size)) (.agg #[.int .u64 (l3 k : Nat), .int .u64 (l2 k : Nat), .int .u64 (l1 k : Nat), .int .u64 (l0 k : Nat)]) (.agg #[.int .u64 (l3 v : Nat), .int .u64 (l2 v : Nat), .int .u64 (l1 v : Nat), .int .u64 (l0 v : Nat)])).run Tryz.prog (V3.alloc (.map #[] 0)) = _ := HP
    have HQ := Lib.hid (And.intro hq0 (And.intro hq1 (And.intro hq2 hql)))
    have H5 := Lib.hid (And.intro M5 hmap)
    clear HL b0 hq hq0 hq1 hq2 hql hf0 hmap M3 M4 M5 ho g0 g1 g2
    go_wp2_with fail
    have M5 := H5.out.1
    have hmap := H5.out.2
    obtain ⟨hq0, hq1, hq2, hql⟩ := HQ.out
    have s6 := heap_setCell_same _ _ 8 _ _ (.map (some V3.heap.size)) (M5.at (q := q2) (List.mem_cons_of_mem _ (List.mem_cons_self ..)))
    have M6 := (M5.sub (L' := [(q2, _), (V3.heap.size, o)]) (fun z hz => (List.mem_cons.1 hz).elim (fun e => by rw [e]; exact List.mem_cons_of_mem _ (List.mem_cons_self ..)) (fun hz => (List.mem_cons.1 hz).elim (fun e => by rw [e]; exact List.mem_cons_self ..) (fun hz => by cases hz)))).put (chg_set (F := fun j => j = q2) (F' := fun j => j = q2) (Chg.refl _ _) (Or.inl rfl) 8 (.map (some V3.heap.size))) s6 (by intro z hz; simp only [List.mem_cons, List.not_mem_nil, or_false] at hz; rcases hz with rfl; simp only; omega)
    have hmap6 := hmap.keep (heap_setCell_other (ChangeMaps.setBlock (V3.alloc (.map #[] 0)) V3.heap.size o) ⟨q2, 8, none⟩ V3.heap.size (.map (some V3.heap.size)) (by simp only; omega))
    have hge := (M6.box (V3.heap.size, o) (List.mem_cons_of_mem _ (List.mem_cons_self ..))).2
    simp only at hge
    have w6 := (M6.ob.it.mono (Nat.le_succ n)).more (hmap6.mono (show 0 + 1 ≤ n + 1 by omega)) hge.2
    have rp6 := HH.out.2.more (f := upf (fun _ => none) k (some v)) HH.out.1 hge.2
    have C := Lib.hid (set_c w6 (by have := HM.out.2.1; omega) HM.out.2.2.1 ⟨cc, ca, cw, some V3.heap.size⟩ (fun j hj => by cases hj; exact List.mem_cons_self ..))
    have HX := Lib.hid (And.intro M6 (And.intro hge (And.intro w6 rp6)))
    clear M5 M6 hmap hmap6 hge w6 rp6 hq0 hq1 hq2 hql s6
    refine C.out.mono ?_
    rintro e W' ⟨rfl, hS⟩
    go_wp2_with fail
    go_end0
    obtain ⟨M6, hge, w6, rp6⟩ := HX.out
    obtain ⟨x', p1, p2, p3⟩ := SetR.told (v := ⟨cc, ca, cw, some V3.heap.size⟩) hS rp6 (fun j hj i y h1 h2 => by
      cases hj
      exact absurd (HH.out.1.live _ (Or.inl ⟨i, y, h1, h2⟩)) (fun h3 => hge.2 (Or.inr (Or.inr (Or.inl h3)))))
    refine ⟨rfl, x', p1, ?_, chg_more M6.chg p3 hge.1⟩
    have e9 : (Sx.more x V3.heap.size (upf (fun _ => none) k (some v))).s.I V3.heap.size = upf (fun _ => none) k (some v) := if_pos rfl
    unfold Ch.ent at p2
    simp only [e9] at p2
    exact p2
end Go.Proofs.YtekoaheiapddiaaGreat.Dz.Wo
end
section
namespace Go.Proofs.YtekoaheiapddiaaGreat.Dz.Wo
open Go.RowKit Go.Maps Mp

def fvOf : Fz → Nat → Value
  | .no, _ => .pointer none
  | .yes _ _, bc => .pointer (some ⟨bc, 0, none⟩)
/-- What is far lies there, in the blocks ff. -/
def FarAt (d bc N : Nat) : Fz → (Nat → Prop) → World → Prop
  | .no, ff, _ => ff = fun _ => False
  | .yes p c, ff, W => ∃ F m sv av, Bo p c nmC d N F bc m sv av W ∧ ff = ftB F bc m sv av
/-- What a client answers for an account, and for a slot. -/
structure AskOk : Prop where
  acct : ∀ {p : Pd} {c : Cl} {name : Nm} {d N : Nat} {F : Nat → Prop} {b m : Nat} {sv av : Value} {W : World}, Bo p c name d N F b m sv av W → ∀ (a : List UInt8), c.asked.length ≤ 1000000 → N < 900000 → List.length name ≤ 1000000 →
    Calls Tryz.prog 51 #[.pointer (some ⟨b, 0, none⟩), .string (str a)] W fun e W' => e = .returned (.tuple #[.agg (accC (askP name p c ⟨0, a, 0, 1⟩).1.1), .int .i64 (askP name p c ⟨0, a, 0, 1⟩).1.2]) ∧ Gone (askP name p c ⟨0, a, 0, 1⟩).2 name d (N + 4) b m (ftB F b m sv av) W W'
  slot : ∀ {p : Pd} {c : Cl} {name : Nm} {d N : Nat} {F : Nat → Prop} {b m : Nat} {sv av : Value} {W : World}, Bo p c name d N F b m sv av W → ∀ (a : List UInt8) (k : Nat), k < W256 → c.asked.length ≤ 1000000 → N < 900000 → List.length name ≤ 1000000 →
    Calls Tryz.prog 63 #[.pointer (some ⟨b, 0, none⟩), .string (str a), wordV k] W fun e W' => e = .returned (.tuple #[.agg (valC (askP name p c ⟨0, a, k, 2⟩).1.1), .int .i64 (askP name p c ⟨0, a, k, 2⟩).1.2]) ∧ Gone (askP name p c ⟨0, a, k, 2⟩).2 name d (N + 4) b m (ftB F b m sv av) W W'
/-- The client's bounds, and what it answers. -/
def FzOk (N : Nat) : Fz → Prop
  | .no => True
  | .yes _ c => AskOk ∧ c.asked.length ≤ 1000000 ∧ N < 900000
theorem FarAt.ob {d bc N : Nat} {z : Fz} {ff : Nat → Prop} {W : World} (h : FarAt d bc N z ff W) : Ob (FarAt d bc N z ff) ff W := by
  cases z with
  | no => exact ⟨h, fun k hk => by rw [show ff = _ from h] at hk; exact hk.elim, fun V _ => h⟩
  | yes p c =>
    obtain ⟨F, m, sv, av, h1, rfl⟩ := h
    exact ⟨⟨F, m, sv, av, h1, rfl⟩, fun k hk => h1.lt hk, fun V hV => ⟨F, m, sv, av, h1.kept hV, rfl⟩⟩
structure Pw (w : Wd) (b d bc n N : Nat) (x : Sx) (ff : Nat → Prop) (W : World) : Prop where
  at_ : WAt x b (fvOf w.far bc) n W
  rep : Rp x w.G w.old
  far : FarAt d bc N w.far ff W
  ap : ∀ k, x.ft b k → ¬ ff k
def ftP (x : Sx) (b : Nat) (ff : Nat → Prop) (k : Nat) : Prop := x.ft b k ∨ ff k
section
variable {w : Wd} {b d bc n N : Nat} {x : Sx} {ff : Nat → Prop} {W V : World}
theorem Pw.ob (h : Pw w b d bc n N x ff W) : Ob (Pw w b d bc n N x ff) (ftP x b ff) W :=
  ⟨h, fun k hk => hk.elim (fun e => h.at_.lt e) (fun e => h.far.ob.lt k e), fun V hV => ⟨h.at_.kept fun k hk => hV k (Or.inl hk), h.rep, h.far.ob.keep V fun k hk => hV k (Or.inr hk), h.ap⟩⟩
/-- What a call leaves. -/
def Lv (w : Wd) (b d bc n N : Nat) (F0 : Nat → Prop) (W V : World) : Prop := ∃ x ff, Pw w b d bc n N x ff V ∧ Chg F0 (ftP x b ff) W V
theorem FarAt.mono {z : Fz} {M : Nat} (h : FarAt d bc N z ff W) (hM : N ≤ M) : FarAt d bc M z ff W := by
  cases z with
  | no => exact h
  | yes p c =>
    obtain ⟨F, m, sv, av, h1, rfl⟩ := h
    exact ⟨F, m, sv, av, h1.mono hM, rfl⟩
theorem Pw.mono {n' M : Nat} (h : Pw w b d bc n N x ff W) (hn : n ≤ n') (hM : N ≤ M) : Pw w b d bc n' M x ff W := ⟨h.at_.mono hn, h.rep, h.far.mono hM, h.ap⟩
theorem Lv.mono {F0 : Nat → Prop} {n' M : Nat} (h : Lv w b d bc n N F0 W V) (hn : n ≤ n') (hM : N ≤ M) : Lv w b d bc n' M F0 W V := by
  obtain ⟨x, ff, h1, h2⟩ := h
  exact ⟨x, ff, h1.mono hn hM, h2⟩
theorem Lv.mk {F0 : Nat → Prop} {L : List (Nat × Obj)} (h : An (Pw w b d bc n N x ff) (ftP x b ff) W F0 L V) : Lv w b d bc n N F0 W V := ⟨x, ff, h.ob.it, h.chg⟩
/-- The far one acts. -/
theorem Pw.farAct {z : Fz} {M : Nat} {gg : Nat → Prop} (h : Pw w b d bc n N x ff W) (h1 : FarAt d bc M z gg V) (h2 : Chg ff gg W V) (hf : fvOf z bc = fvOf w.far bc) : Pw ⟨w.G, w.old, z⟩ b d bc n M x gg V ∧ Chg (ftP x b ff) (ftP x b gg) W V := by
  refine ⟨⟨?_, h.rep, h1, fun k hk hg => ?_⟩, ⟨h2.os, h2.tape, h2.output, h2.size, fun k hk hn => h2.block k hk fun e => hn (Or.inr e), fun k hk => ?_⟩⟩
  · have := h.at_.kept (V := V) fun k hk => h2.block k (h.at_.lt hk) (h.ap k hk)
    rw [← hf] at this; exact this
  · rcases h2.new k hg with e | e
    · exact h.ap k hk e
    · have := h.at_.lt hk; omega
  · rcases hk with e | e
    · exact Or.inl (Or.inl e)
    · exact (h2.new k e).imp Or.inr id
/-- The world itself acts. -/
theorem Pw.act {n' : Nat} {x' : Sx} {G : Gs} {old : List Gs} (h : Pw w b d bc n N x ff W) (h1 : WAt x' b (fvOf w.far bc) n' V) (hr : Rp x' G old) (h2 : Chg (x.ft b) (x'.ft b) W V) : Pw ⟨G, old, w.far⟩ b d bc n' N x' ff V ∧ Chg (ftP x b ff) (ftP x' b ff) W V := by
  refine ⟨⟨h1, hr, h.far.ob.keep V fun k hk => h2.block k (h.far.ob.lt k hk) fun e => h.ap k e hk, fun k hk hg => ?_⟩, ⟨h2.os, h2.tape, h2.output, h2.size, fun k hk hn => h2.block k hk fun e => hn (Or.inl e), fun k hk => ?_⟩⟩
  · rcases h2.new k hk with e | e
    · exact h.ap k e hg
    · have := h.far.ob.lt k hg; omega
  · rcases hk with e | e
    · exact (h2.new k e).imp Or.inl id
    · exact Or.inl (Or.inr e)
end
theorem far_nil (W : World) : (binOp .eql 33 (.pointer none) (.pointer none)).run Tryz.prog W = .ok (.bool true) W := by kernel_rfl
theorem far_some (q : Nat) (W : World) : (binOp .eql 33 (.pointer (some ⟨q, 0, none⟩)) (.pointer none)).run Tryz.prog W = .ok (.bool false) W := by kernel_rfl
theorem accFin {w : Wd} {b d bc n N : Nat} {x : Sx} {ff F0 : Nat → Prop} {W V V' : World} {L : List (Nat × Obj)} {q : Nat} (M : An (Pw w b d bc n N x ff) (ftP x b ff) W F0 L V) (hm : (q, acc.tO) ∈ L) (u0 u1 u2 u3 u4 u5 : Value)
    (hV : V' = ((((((V.setCell ⟨q, 0, none⟩ u0).setCell ⟨q, 1, none⟩ u1).setCell ⟨q, 2, none⟩ u2).setCell ⟨q, 3, none⟩ u3).setCell ⟨q, 4, none⟩ u4).setCell ⟨q, 5, none⟩ u5)) : V'.heap[q]? = some (.cells #[u0, u1, u2, u3, u4, u5] 82 (0, 0)) ∧ Lv w b d bc n N F0 W V' := by
  subst hV
  have hs := set6 (M.at hm) u0 u1 u2 u3 u4 u5
  have M2 := (M.sub (L' := [(q, acc.tO)]) (fun x hx => by obtain rfl := List.mem_singleton.1 hx; exact hm)).put (chg_set6 V q u0 u1 u2 u3 u4 u5) hs (by simp)
  exact ⟨hs, Lv.mk M2⟩
theorem accZero : accCells AccP.zero = #[.int .u64 0, .int .u64 0, .int .u64 0, .int .u64 0, .int .u64 0, .string ⟨#[]⟩] := by simp [accCells, AccP.zero, lim_zero, str]
theorem ent_ch {w : Wd} {x : Sx} (h : Rp x w.G w.old) (a : Nm) : (w.ent a).ch = (x.s.ch a).ch ∧ (w.ent a).acc = (x.s.ch a).acc ∧ (w.ent a).wi = (x.s.ch a).wi := by
  have e := h.ent a
  unfold Wd.ent
  rw [e]
  exact ⟨rfl, rfl, rfl⟩
set_option maxRecDepth 100000 in
set_option maxHeartbeats 8000000 in
theorem account_c {w : Wd} {b d bc n N : Nat} {x : Sx} {ff : Nat → Prop} {W : World} (h : Pw w b d bc n N x ff W) (hN : FzOk N w.far) (a : Nm) :
    Calls Tryz.prog 42 #[.pointer (some ⟨b, 0, none⟩), .string (str a)] W fun e W' => e = .returned (.tuple #[.agg (accCells (w.acct a).1.1), .int .i64 (w.acct a).1.2]) ∧ Lv (w.acct a).2 b d bc n (N + 4) (ftP x b ff) W W' := by
  have M1 := (An.start h.ob).alloc acc.tO
  have hsz := str_size a
  by_cases hl : a.length = 20
  · have hli : (a.length : Int) = 20 := by omega
    have HL := M1.ob.it.at_.look hl
    obtain ⟨⟨b0, _, _⟩, _⟩ := M1.ob.it.at_.cells
    obtain ⟨e1, e2, _⟩ := ent_ch h.rep a
    have M2 := M1.alloc (chO (x.s.ch a))
    rw [alloc_size] at M2
    have b2 := M2.ob.it.at_.cells.1.2.2
    have HM := Lib.hid (And.intro M2 hN)
    have hw : w.acct a = if (x.s.ch a).ch = true then (((x.s.ch a).acc, 0), w) else ((w.far.acct a).1, ⟨w.G, w.old, (w.far.acct a).2⟩) := by
      unfold Wd.acct
      rw [if_neg (by omega), e1, e2]
    have MT := Lib.hid (((An.start h.ob).alloc (accO (x.s.ch a).acc)).alloc (chO (x.s.ch a)))
    clear M1 M2 e1 e2 hN h
    generalize x.s.ch a = c0 at HL HM hw MT b2
    obtain ⟨cc, ca, cw, cs⟩ := c0
    unfold accO at MT
    unfold chO at HM MT b2
    unfold chCells at *
    unfold accCells at MT
    unfold acc.tO at HL HM b0 b2
    simp only at HL HM hw MT b2
    cases cc with
    | true =>
      rw [hw, if_pos rfl]
      clear hw
      simp only
      unfold accCells
      go_enter Tryz.func42, Tryz.ntmps42
      go_wp2_with fail
      exact bodyPost_ret (results_cell_slot Tryz.results42 _ _ _ _ _ _ _ _ rfl rfl (MT.out.at (q := W.heap.size) (List.mem_cons_of_mem _ (List.mem_cons_self ..))) Tryz.underlying82 rfl (by kernel_rfl)) rfl ⟨rfl, (Lv.mk MT.out).mono (Nat.le_refl _) (by omega)⟩
    | false =>
      rw [hw, if_neg (by simp)]
      clear hw
      simp only
      cases hf : w.far with
      | no =>
        have hfn := far_nil
        rw [hf] at b2
        unfold fvOf at b2
        have e9 : w.far.acct a = ((AccP.zero, 0), .no) := by rw [hf]; rfl
        have hwf : (⟨w.G, w.old, .no⟩ : Wd) = w := by rw [← hf]
        rw [← hf, e9]
        simp only
        rw [hwf, accZero]
        clear e9 hwf hf
        go_enter Tryz.func42, Tryz.ntmps42
        go_wp2_with fail
        exact bodyPost_ret (results_cell_slot Tryz.results42 _ _ _ _ _ _ _ _ rfl rfl (HM.out.1.at (q := W.heap.size) (List.mem_cons_of_mem _ (List.mem_cons_self ..))) Tryz.underlying82 rfl (by kernel_rfl)) rfl ⟨rfl, (Lv.mk HM.out.1).mono (Nat.le_refl _) (by omega)⟩
      | yes p c =>
        have hfs := far_some bc
        obtain ⟨M2, hN⟩ := HM.out
        have hfar := M2.ob.it.far
        rw [hf] at b2 hN hfar
        unfold fvOf at b2
        obtain ⟨F, m, sv, av, hB, hff⟩ := hfar
        have C := Lib.hid (hN.1.acct hB a hN.2.1 hN.2.2 (by show (1 : Nat) ≤ _; omega))
        simp only [Fz.acct]
        obtain ⟨⟨⟨r9, e9⟩, p9, c9⟩, hres⟩ : ∃ res, res = askP nmC p c ⟨0, a, 0, 1⟩ := ⟨_, rfl⟩
        rw [← hres] at C ⊢
        simp only at C ⊢
        have HX := Lib.hid (And.intro hff hf)
        clear hB hff M2 hN hf hres
        unfold accCells replyAcc
        unfold accC at C
        simp only
        go_enter Tryz.func42, Tryz.ntmps42
        go_wp2_with fail
        refine C.out.mono ?_
        rintro e V1 ⟨rfl, F1, sv1, av1, hB1, hC1⟩
        have g1 : FarAt d bc (N + 4) (.yes p9 c9) (ftB F1 bc m sv1 av1) V1 := ⟨F1, m, sv1, av1, hB1, rfl⟩
        rw [← HX.out.1] at hC1
        obtain ⟨g2, g3⟩ := HM.out.1.ob.it.farAct g1 hC1 (by rw [HX.out.2]; rfl)
        have M3 := HM.out.1.step g2.ob g3
        have HM3 := Lib.hid M3
        obtain ⟨⟨k0, k1, k2, k3, k4, k5⟩, d0, d1, d2, d3, d4, d5⟩ := cells6 (M3.at (q := W.heap.size) (o := acc.tO) (List.mem_cons_of_mem _ (List.mem_cons_self ..)))
        clear M3 g1 g2 g3 hB1 hC1 C HL
        go_wp2_with fail
        obtain ⟨q1, q2⟩ := accFin HM3.out (List.mem_cons_of_mem _ (List.mem_cons_self ..)) _ _ _ _ _ _ rfl
        exact bodyPost_ret (results_cell_slot Tryz.results42 _ _ _ _ _ _ _ _ rfl rfl q1 Tryz.underlying82 rfl (by kernel_rfl)) rfl ⟨rfl, q2⟩
  · have hli : ¬ (a.length : Int) = 20 := by omega
    have hw : w.acct a = ((AccP.zero, 1), w) := if_pos hl
    rw [hw]
    have HH := Lib.hid M1
    simp only
    rw [accZero]
    clear h hN M1 hw hl
    go_enter Tryz.func42, Tryz.ntmps42
    go_wp2_with fail
    exact bodyPost_ret (results_cell_slot Tryz.results42 _ _ _ _ _ _ _ _ rfl rfl (HH.out.at (q := W.heap.size) (List.mem_cons_self ..)) Tryz.underlying82 rfl (by kernel_rfl)) rfl ⟨rfl, (Lv.mk HH.out).mono (Nat.le_refl _) (by omega)⟩
end Go.Proofs.YtekoaheiapddiaaGreat.Dz.Wo
end
