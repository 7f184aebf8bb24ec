/- Merged: Hd, He, Hf, Hg, Hh. -/
import Derived.Test.YtekoaheiapddiaaGreatU31
import Derived.Deep.AppendLies
import Derived.Deep.CutRange
section
namespace Go.Proofs.YtekoaheiapddiaaGreat.Dz.Wo
open Go.RowKit Go.Maps Mp

theorem infoFn : (Tryz.prog.info? 1).map (fun i => (i.zero, i.size, i.bytes)) = some (some .nilFunc, 1, 8) := by kernel_rfl
theorem Live.more {s : Ps} {bs : List Bk} {a : Nm} {v : Ch} {m : Nat} (h : Live ⟨upf s.O a (some v), s.I⟩ (.o a (s.O a) :: bs) m) : v.sl = some m ∨ Live s bs m := by
  rcases h with ⟨k, y, h1, h2⟩ | ⟨c, hc, h2⟩
  · simp only at h1
    by_cases e : k = a
    · rw [e, upf_same] at h1; cases h1; exact Or.inl h2
    · rw [upf_other _ _ e] at h1; exact Or.inr (Or.inl ⟨k, y, h1, h2⟩)
  · rcases List.mem_cons.1 hc with rfl | hc
    · obtain ⟨y, h3, h4⟩ := h2
      exact Or.inr (Or.inl ⟨a, y, h3, h4⟩)
    · exact Or.inr (Or.inr ⟨c, hc, h2⟩)
theorem chgWorld {W : World} {b : Nat} {mo : Nat} {sv fv v' : Value} (h : W.heap[b]? = some (worldO mo sv fv)) : (W.setCell ⟨b, 1, none⟩ v').heap[b]? = some (worldO mo v' fv) := by
  have := heap_setCell_same W b 1 _ _ v' h
  have e : (worldC mo sv fv).setIfInBounds 1 v' = worldC mo v' fv := rfl
  rw [e] at this; exact this
/-- The set's end. -/
theorem pushed {x : Sx} {b n : Nat} {fv : Value} {W V7 V8 V9 V10 : World} (h : WAt x b fv n W) {a : Nm} {v : Ch} (hv : ∀ m, v.sl = some m → m ∈ x.ids) (hB : Below W.heap.size W V7) (h7 : WAt x b fv n V7) {q : Nat} (hbk : BoxO x.mo a (x.s.O a) q V8) (hmap : MapFn kitO x.mo (n + 1) (upf x.s.O a (some v)) V8)
    (hc : Chg (fun j => j = x.mo) (fun j => j = x.mo ∨ (q ≤ j ∧ j < q + 5)) V7 V8) (hq : q = V7.heap.size) (hq5 : q + 5 ≤ V8.heap.size) (j10 : V10.heap[b]? = some (worldO x.mo x.sv fv)) {z8 : Nat} (s9 : V9.heap.size = z8 + 1) (B9 : Below z8 V8 V9) (hz8 : z8 = V8.heap.size) {g cap : Nat}
    (r10 : V10.ownsRow 0 1 1 (.slice (some ⟨g, 0, none⟩) (x.bs.length + 1) cap) (x.bs.length + 1) ((List.zipWith bkV x.bs x.qs).reverse ++ [bkV (.o a (x.s.O a)) q])) (g10 : V9.grownBy V10 x.sv.ownBlock) (l10 : x.sv.ownBlock = some g ∨ g = V9.heap.size) :
    ∃ q v', WAt ⟨⟨upf x.s.O a (some v), x.s.I⟩, .o a (x.s.O a) :: x.bs, q :: x.qs, x.ids, x.mo, v'⟩ b fv (n + 1) (V10.setCell ⟨b, 1, none⟩ (.slice (some ⟨g, 0, none⟩) (x.bs.length + 1) cap)) ∧ Chg (x.ft b) (Sx.ft ⟨⟨upf x.s.O a (some v), x.s.I⟩, .o a (x.s.O a) :: x.bs, q :: x.qs, x.ids, x.mo, v'⟩ b) W (V10.setCell ⟨b, 1, none⟩ (.slice (some ⟨g, 0, none⟩) (x.bs.length + 1) cap)) := by
  have hcell := chgWorld (v' := .slice (some ⟨g, 0, none⟩) (x.bs.length + 1) cap) j10
  have hbl := lt_of h.cell
  have hml := h.out.lt
  have hs7 := hB.size
  have hs8 := hc.size
  have hs10 := g10.size
  have fr : ∀ k, k < V8.heap.size → k ≠ b → x.sv.ownBlock ≠ some k → (V10.setCell ⟨b, 1, none⟩ (.slice (some ⟨g, 0, none⟩) (x.bs.length + 1) cap)).heap[k]? = V8.heap[k]? := fun k h1 h2 h3 =>
    (heap_setCell_other _ _ _ _ h2).trans ((g10.block k (by omega) (Ne.symm h3)).trans (B9.block k (by omega)))
  have hsz : (V10.setCell ⟨b, 1, none⟩ (.slice (some ⟨g, 0, none⟩) (x.bs.length + 1) cap)).heap.size = V10.heap.size := by simp [World.setCell]
  have hgb : g ≠ b := by
    rcases l10 with e | e
    · exact (h.row_ne e).1
    · omega
  refine ⟨q, _, h.push (v' := .slice (some ⟨g, 0, none⟩) (x.bs.length + 1) cap) ⟨?_, ?_, ?_, by omega, fun k hk hF => ?_, fun k hk => ?_⟩ hcell (hmap.keep (fr _ (by omega) h.mo_ne (fun e => (h.row_ne e).2.1 rfl))) (fun m hm => ?_) (BkAt.keep (b := .o a (x.s.O a)) hbk fun j h1 h2 => fr j (by omega) (by omega) (fun e => by have := h.row_lt e; omega)) (by omega) (by omega) (own_keep r10 fun k hk => ?_) (fun g' hg' => ?_) (fun m hm => Or.inl hm) (fun m hm => ?_)⟩
  · exact g10.os.trans (B9.os.trans (hc.os.trans hB.os))
  · exact g10.tape.trans (B9.tape.trans (hc.tape.trans hB.tape))
  · exact g10.output.trans (B9.output.trans (hc.output.trans hB.output))
  · have hm : k ≠ x.mo := fun e => hF (Or.inr (Or.inl e))
    exact (fr k (by omega) (fun e => hF (Or.inl e)) (fun e => hF (Or.inr (Or.inr (Or.inr e))))).trans ((hc.block k (by omega) hm).trans (hB.block k hk))
  · rcases hk with e | e | e | e | e
    · exact Or.inl (Or.inl e)
    · exact Or.inl (Or.inr (Or.inl e))
    · exact Or.inl (Or.inr (Or.inr (Or.inl e)))
    · cases e
      rcases l10 with e | e
      · exact Or.inl (Or.inr (Or.inr (Or.inr e)))
      · exact Or.inr (by simp only; omega)
    · exact Or.inr (by omega)
  · have hml2 := (h.inn m hm).lt
    exact ((h7.inn m hm).mono (Nat.le_succ n)).keep ((fr m (by omega) (h.id_ne hm).1 (fun e => (h.row_ne e).2.2 hm)).trans (hc.block m (by omega) (h.id_ne hm).2))
  · cases hk
    exact heap_setCell_other _ _ _ _ hgb
  · cases hg'
    rcases l10 with e | e
    · exact Or.inl e
    · exact Or.inr (by simp only; omega)
  · rcases hm.more with e | e
    · exact hv m e
    · exact h.live m e
set_option maxRecDepth 100000 in
set_option maxHeartbeats 8000000 in
theorem set_c {x : Sx} {b n : Nat} {fv : Value} {W : World} (h : WAt x b fv n W) (hn : n < 1000000) {a : Nm} (ha : a.length = 20) (v : Ch) (hv : ∀ m, v.sl = some m → m ∈ x.ids) :
    Calls Tryz.prog 135 #[.pointer (some ⟨b, 0, none⟩), .string (str a), .agg (chCells v)] W fun e W' => e = .returned (.tuple #[]) ∧ ∃ q v', WAt ⟨⟨upf x.s.O a (some v), x.s.I⟩, .o a (x.s.O a) :: x.bs, q :: x.qs, x.ids, x.mo, v'⟩ b fv (n + 1) W' ∧ Chg (x.ft b) (Sx.ft ⟨⟨upf x.s.O a (some v), x.s.I⟩, .o a (x.s.O a) :: x.bs, q :: x.qs, x.ids, x.mo, v'⟩ b) W W' := by
  have M := (An.start h.ob).alloc (chO v)
  have CL := Lib.hid (fun V => sclone_c (str a) V (by rw [str_size, ha]; omega))
  have HM := Lib.hid M
  have HA := Lib.hid (And.intro hn (And.intro ha hv))
  have HH := Lib.hid h
  clear M hn ha hv h
  unfold chO at HM
  unfold chCells at *
  go_enter Tryz.func135, Tryz.ntmps135
  go_wp2_with fail
  refine (CL.out _).mono ?_
  rintro e V6 ⟨rfl, hb⟩
  have M := HM.out.call hb
  have hB6 : Below W.heap.size W V6 := ((Below.refl _ W).alloc (Nat.le_refl _) _).trans (hb.mono (by simp))
  clear HM hb CL
  go_wp2_with fail
  replace M := M.call (Below.refl _ V6).drew
  have hB7 := hB6.trans (Below.refl _ V6).drew
  clear hB6
  have H0 : V6.drew.heap[b]? = some (worldO x.mo x.sv fv) ∧ V6.drew.heap[W.heap.size]? = some (chO v) := ⟨M.ob.it.cell, M.at (List.mem_cons_self ..)⟩
  have HS := Lib.hid (fun (V : World) (hV : V.heap[b]? = some (worldO x.mo x.sv fv) ∧ V.heap[W.heap.size]? = some (chO v)) => (show (V.cell? ⟨b, 0, none⟩ = some (.map (some x.mo)) ∧ V.cell? ⟨b, 1, none⟩ = some x.sv) ∧ V.cell? ⟨W.heap.size, 0, none⟩ = some (.bool v.ch) ∧ V.cell? ⟨W.heap.size, 1, none⟩ = some (.int .u64 (v.acc.nonce : Nat)) ∧ V.cell? ⟨W.heap.size, 2, none⟩ = some (.int .u64 (l3 v.acc.bal : Nat)) ∧ V.cell? ⟨W.heap.size, 3, none⟩ = some (.int .u64 (l2 v.acc.bal : Nat)) ∧ V.cell? ⟨W.heap.size, 4, none⟩ = some (.int .u64 (l1 v.acc.bal : Nat)) ∧ V.cell? ⟨W.heap.size, 5, none⟩ = some (.int .u64 (l0 v.acc.bal : Nat)) ∧ V.cell? ⟨W.heap.size, 6, none⟩ = some (.string (str v.acc.code)) ∧ V.cell? ⟨W.heap.size, 7, none⟩ = some (.bool v.wi) ∧ V.cell? ⟨W.heap.size, 8, none⟩ = some (.map v.sl) from ⟨⟨cell_of hV.1 0, cell_of hV.1 1⟩, cell_of hV.2 0, cell_of hV.2 1, cell_of hV.2 2, cell_of hV.2 3, cell_of hV.2 4, cell_of hV.2 5, cell_of hV.2 6, cell_of hV.2 7, cell_of hV.2 8⟩))
  refine Drawn.start (fun V => V.heap[b]? = some (worldO x.mo x.sv fv) ∧ V.heap[W.heap.size]? = some (chO v)) (fun j => j == 16) (by kernel_rfl) ?_
  generalize World.drew _ = V7 at M H0 hB7 ⊢
  refine Drawn.take 0 (some 8) (v := ?_) rfl rfl (by kernel_rfl) (by kernel_rfl) (by kernel_rfl) (by kernel_rfl) (by kernel_rfl) rfl (fun _ _ _ h => h) (Or.inl ⟨rfl, ?_⟩) H0 ?_
  rotate_left
  · intro W hW; have hW := HS.out W hW; go_simp; try with_reducible rfl
  simp only [put_list, List.set]
  refine Drawn.take 1 (some 9) (v := ?_) rfl rfl (by kernel_rfl) (by kernel_rfl) (by kernel_rfl) (by kernel_rfl) (by kernel_rfl) rfl (fun _ _ _ h => h) (Or.inl ⟨rfl, ?_⟩) H0 ?_
  rotate_left
  · intro W hW; have hW := HS.out W hW; go_simp; try with_reducible rfl
  simp only [put_list, List.set]
  refine Drawn.take 2 (some 10) (v := ?_) rfl rfl (by kernel_rfl) (by kernel_rfl) (by kernel_rfl) (by kernel_rfl) (by kernel_rfl) rfl (fun _ _ _ h => h) (Or.inl ⟨rfl, ?_⟩) H0 ?_
  rotate_left
  · intro W hW; have hW := HS.out W hW; go_simp; try with_reducible rfl
  simp only [put_list, List.set]
  refine Drawn.take 3 (some 11) (v := ?_) rfl rfl (by kernel_rfl) (by kernel_rfl) (by kernel_rfl) (by kernel_rfl) (by kernel_rfl) rfl (fun _ _ _ h => h) (Or.inl ⟨rfl, ?_⟩) H0 ?_
  rotate_left
  · intro W hW; have hW := HS.out W hW; go_simp; try with_reducible rfl
  simp only [put_list, List.set]
  refine Drawn.take 4 (some 12) (v := ?_) rfl rfl (by kernel_rfl) (by kernel_rfl) (by kernel_rfl) (by kernel_rfl) (by kernel_rfl) rfl (fun _ _ _ h => h) (Or.inl ⟨rfl, ?_⟩) H0 ?_
  rotate_left
  · intro W hW; have hW := HS.out W hW; go_simp; try with_reducible rfl
  simp only [put_list, List.set]
  refine Drawn.take 5 (some 13) (v := ?_) rfl rfl (by kernel_rfl) (by kernel_rfl) (by kernel_rfl) (by kernel_rfl) (by kernel_rfl) rfl (fun _ _ _ h => h) (Or.inl ⟨rfl, ?_⟩) H0 ?_
  rotate_left
  · intro W hW; have hW := HS.out W hW; go_simp; try with_reducible rfl
  simp only [put_list, List.set]
  refine Drawn.take 6 (some 14) (v := ?_) rfl rfl (by kernel_rfl) (by kernel_rfl) (by kernel_rfl) (by kernel_rfl) (by kernel_rfl) rfl (fun _ _ _ h => h) (Or.inl ⟨rfl, ?_⟩) H0 ?_
  rotate_left
  · intro W hW; have hW := HS.out W hW; go_simp; try with_reducible rfl
  simp only [put_list, List.set]
  refine Drawn.take 7 (some 15) (v := ?_) rfl rfl (by kernel_rfl) (by kernel_rfl) (by kernel_rfl) (by kernel_rfl) (by kernel_rfl) rfl (fun _ _ _ h => h) (Or.inl ⟨rfl, ?_⟩) H0 ?_
  rotate_left
  · intro W hW; have hW := HS.out W hW; go_simp; try with_reducible rfl
  simp only [put_list, List.set]
  refine Drawn.take 8 (some 16) (v := ?_) rfl rfl (by kernel_rfl) (by kernel_rfl) (by kernel_rfl) (by kernel_rfl) (by kernel_rfl) rfl (fun _ _ _ h => h) (Or.inl ⟨rfl, ?_⟩) H0 ?_
  rotate_left
  · intro W hW; have hW := HS.out W hW; go_simp; try with_reducible rfl
  simp only [put_list, List.set]
  refine Drawn.take 9 (some 17) (v := ?_) rfl rfl (by kernel_rfl) (by kernel_rfl) (by kernel_rfl) (by kernel_rfl) (by kernel_rfl) rfl (fun _ _ _ h => h) (Or.inl ⟨rfl, ?_⟩) H0 ?_
  rotate_left
  · intro W hW; have hW := HS.out W hW; go_simp; try with_reducible rfl
  simp only [put_list, List.set]
  refine Drawn.take 10 (some 18) (v := ?_) rfl rfl (by kernel_rfl) (by kernel_rfl) (by kernel_rfl) (by kernel_rfl) (by kernel_rfl) rfl (fun _ _ _ h => h) (Or.inl ⟨rfl, ?_⟩) H0 ?_
  rotate_left
  · intro W hW; have hW := HS.out W hW; go_simp; try with_reducible rfl
  simp only [put_list, List.set]
  refine Drawn.only 11 (by kernel_rfl) rfl rfl (fun K hK => ?_)
  go_simp
  refine (putO_c M.ob.it.out (by have := HA.out.1; omega) HA.out.2.1 v).mono ?_
  rintro e V8 ⟨rfl, hbk, hmap, hc⟩
  have h7 := M.ob.it
  have j8 : V8.heap[b]? = some (worldO x.mo x.sv fv) := (hc.block b (lt_of h7.cell) (Ne.symm h7.mo_ne)).trans h7.cell
  have hq0 : W.heap.size < V7.heap.size := lt_of (M.at (List.mem_cons_self ..))
  have k8 : V8.heap[W.heap.size]? = some (chO v) := (hc.block _ hq0 (fun e => by have := h7.out.lt; have := HH.out.out.lt; omega)).trans (M.at (List.mem_cons_self ..))
  have r8 : V8.ownsRow 0 1 1 x.sv x.bs.length (List.zipWith bkV x.bs x.qs).reverse := own_keep h7.row fun k hk => hc.block k (h7.row_lt hk) (h7.row_ne hk).2.1
  refine hK _ _ (fun _ _ => ⟨j8, k8⟩) ?_
  clear hK K
  obtain ⟨q, hq⟩ : ∃ q, q = V7.heap.size := ⟨_, rfl⟩
  rw [← hq] at hbk hc ⊢
  obtain ⟨lb, hcv⟩ : ∃ lb, .func (.func 218) #[] lb = bkV (.o a (x.s.O a)) q := ⟨_, rfl⟩
  rw [← hcv]
  have h81 : q < V8.heap.size := lt_of hbk.hm
  have h84 : q + 5 ≤ V8.heap.size := lt_of hbk.hw
  have H8 := Lib.hid (And.intro h7 (And.intro hbk (And.intro hmap (And.intro hc (And.intro hq hcv)))))
  have HB := Lib.hid (And.intro hB7 (And.intro h81 h84))
  have HR := Lib.hid r8
  clear h7 hbk hmap hc hq hcv hB7 h81 h84 r8 hq0 H0 M
  try simp only [put_list, List.set]
  refine Drawn.only 12 (by kernel_rfl) rfl rfl (fun K hK => ?_)
  go_simp
  have j9 : (V8.alloc (.cells #[.func (.func 218) #[] lb] 1)).heap[b]? = some (worldO x.mo x.sv fv) ∧ (V8.alloc (.cells #[.func (.func 218) #[] lb] 1)).heap[W.heap.size]? = some (chO v) :=
    ⟨(((Below.refl _ V8).alloc (Nat.le_refl _) _).block b (lt_of j8)).trans j8, (((Below.refl _ V8).alloc (Nat.le_refl _) _).block _ (lt_of k8)).trans k8⟩
  have r9 : (V8.alloc (.cells #[.func (.func 218) #[] lb] 1)).ownsRow 0 1 1 x.sv x.bs.length (List.zipWith bkV x.bs x.qs).reverse := own_keep HR.out fun k hk => ((Below.refl _ V8).alloc (Nat.le_refl _) _).block k (World.ownsRow.lt HR.out k hk).2
  have n9 : (V8.alloc (.cells #[.func (.func 218) #[] lb] 1)).heap[V8.heap.size]? = some (.cells #[.func (.func 218) #[] lb] 1 (0, 0)) := heap_alloc_new _ _
  have s9 : (V8.alloc (.cells #[.func (.func 218) #[] lb] 1)).heap.size = V8.heap.size + 1 := alloc_size _ _
  have B9 : Below V8.heap.size V8 (V8.alloc (.cells #[.func (.func 218) #[] lb] 1)) := (Below.refl _ V8).alloc (Nat.le_refl _) _
  refine hK _ _ (fun _ _ => j9) ?_
  clear hK K j8 k8 HR
  generalize World.alloc V8 _ = V9 at j9 r9 n9 s9 B9 ⊢
  obtain ⟨z8, hz8⟩ : ∃ z8, z8 = V8.heap.size := ⟨_, rfl⟩
  rw [← hz8] at n9 s9 B9 ⊢
  obtain ⟨i0, hi, hz0, hz1, hz2⟩ := info_parts infoFn
  try simp only [put_list, List.set]
  refine Drawn.only 13 (by kernel_rfl) rfl rfl (fun K hK => ?_)
  refine wp_append_lies _ (.tmp 12) (.tmp 20) 145 rfl 0 1 i0 .nilFunc 1 8 Tryz.underlying145 hi hz0 hz1 hz2 rfl (by omega) x.sv x.bs.length _ rfl r9 ⟨z8, 0, none⟩ 1 1 [.func (.func 218) #[] lb] rfl rfl (fun j u hj => ?_) (fun u hu => ?_) (by omega) (by have := HH.out.few; have := HA.out.1; unfold maxLen; omega) (by have := HH.out.few; have := HA.out.1; omega) (Nat.zero_le _) _ rfl ?_
  · match j, hj with
    | 0, hj => cases hj; exact cell_of n9 0
    | j + 1, hj => simp at hj
  · rw [List.mem_singleton] at hu; rw [hu]; rfl
  intro g cap V10 r10 g10 l10 m10
  have hrb : x.sv.ownBlock ≠ some b := fun e => (HH.out.row_ne e).1 rfl
  have j10 : V10.heap[b]? = some (worldO x.mo x.sv fv) := (g10.block b (lt_of j9.1) (Ne.symm hrb)).trans j9.1
  refine hK _ _ (fun _ _ => ⟨j10, (g10.block _ (lt_of j9.2) (fun e => by have := HH.out.row_lt e.symm; omega)).trans j9.2⟩) ?_
  have HG := Lib.hid (And.intro r10 (And.intro g10 (And.intro l10 m10)))
  have HJ := Lib.hid (And.intro j10 (And.intro s9 (And.intro B9 hz8)))
  have d1 : V10.cell? ⟨b, 1, none⟩ = some x.sv := cell_of j10 1
  have d2 := free_of j10 1
  have S10 := Lib.hid (And.intro j10 ((g10.block _ (lt_of j9.2) (fun e => by have := HH.out.row_lt e.symm; omega)).trans j9.2))
  clear hK K r10 g10 l10 m10 hrb j10 s9 B9 hz8 j9 r9 n9 hi hz0 hz1 hz2
  try simp only [put_list, List.set]
  refine Drawn.only 14 (by kernel_rfl) rfl rfl (fun K hK => ?_)
  go_simp
  refine hK _ _ (fun _ _ => S10.out) ?_
  clear hK K
  try simp only [put_list, List.set]
  refine Drawn.only 15 (by kernel_rfl) rfl rfl (fun K hK => ?_)
  go_simp
  refine hK _ _ (fun _ _ => S10.out) ?_
  clear hK K
  try simp only [put_list, List.set]
  refine Drawn.only 16 (by kernel_rfl) rfl rfl (fun K hK => ?_)
  go_simp
  refine hK _ _ (fun h _ => by cases h) ?_
  clear hK K HS S10 d1 d2
  try simp only [put_list, List.set]
  refine Drawn.done (by kernel_rfl) ?_ _
  go_wp2_with fail
  go_end0
  exact ⟨rfl, pushed HH.out HA.out.2.2 HB.out.1 H8.out.1 H8.out.2.1 H8.out.2.2.1 H8.out.2.2.2.1 H8.out.2.2.2.2.1 HB.out.2.2 HJ.out.1 HJ.out.2.1 HJ.out.2.2.1 HJ.out.2.2.2 (by have := HG.out.1; rw [H8.out.2.2.2.2.2] at this; exact this) HG.out.2.1 HG.out.2.2.1⟩
end Go.Proofs.YtekoaheiapddiaaGreat.Dz.Wo
end
section
namespace Go.Proofs.YtekoaheiapddiaaGreat.Dz.Wo
open Go.RowKit Go.Maps Mp

abbrev accO (y : AccP) : Obj := .cells (accCells y) 82 (0, 0)
/-- What of an address was changed: nothing, where it is not there. -/
def Ps.ch (s : Ps) (a : Nm) : Ch := (s.O a).getD Ch.zero
theorem WAt.chLive {x : Sx} {b n : Nat} {fv : Value} {W : World} (h : WAt x b fv n W) {a : Nm} {m : Nat} (hm : (x.s.ch a).sl = some m) : m ∈ x.ids := by
  unfold Ps.ch at hm
  cases ho : x.s.O a with
  | none => rw [ho] at hm; cases hm
  | some c => rw [ho] at hm; exact h.live m (Or.inl ⟨a, c, ho, hm⟩)
theorem WAt.look {x : Sx} {b n : Nat} {fv : Value} {W : World} (h : WAt x b fv n W) {a : Nm} (ha : a.length = 20) : (Instr.lookup 144 (.map (some x.mo)) (.string (str a)) false).run Tryz.prog W = .ok (.agg (chCells (x.s.ch a))) W := by
  have h1 := h.out.look (k := a) ha false
  unfold Ps.ch
  cases hf : x.s.O a with
  | none => rw [hf] at h1; exact h1
  | some x => rw [hf] at h1; exact h1
theorem setCh {V : World} {q : Nat} {c0 : Ch} (y : AccP) (h : V.heap[q]? = some (chO c0)) : (((((((V.setCell ⟨q, 0, none⟩ (.bool true)).setCell ⟨q, 1, none⟩ (.int .u64 y.nonce)).setCell ⟨q, 2, none⟩ (.int .u64 (l3 y.bal : Nat))).setCell ⟨q, 3, none⟩ (.int .u64 (l2 y.bal : Nat))).setCell ⟨q, 4, none⟩ (.int .u64 (l1 y.bal : Nat))).setCell ⟨q, 5, none⟩ (.int .u64 (l0 y.bal : Nat))).setCell ⟨q, 6, none⟩ (.string (str y.code))).heap[q]? = some (chO ⟨true, y, c0.wi, c0.sl⟩) := by
  unfold chO chCells at *
  simp only
  generalize str c0.acc.code = z0 at h
  generalize str y.code = z1
  generalize l3 y.bal = y3
  generalize l2 y.bal = y2
  generalize l1 y.bal = y1
  generalize l0 y.bal = y0
  have e := heap_setCell_same _ _ 6 _ _ (.string z1) (heap_setCell_same _ _ 5 _ _ (.int .u64 y0) (heap_setCell_same _ _ 4 _ _ (.int .u64 y1) (heap_setCell_same _ _ 3 _ _ (.int .u64 y2) (heap_setCell_same _ _ 2 _ _ (.int .u64 y3) (heap_setCell_same _ _ 1 _ _ (.int .u64 y.nonce) (heap_setCell_same _ _ 0 _ _ (.bool true) h))))))
  simpa using e
def SetR (x : Sx) (b n : Nat) (fv : Value) (a : Nm) (v : Ch) (W W' : World) : Prop := ∃ q v', WAt ⟨⟨upf x.s.O a (some v), x.s.I⟩, .o a (x.s.O a) :: x.bs, q :: x.qs, x.ids, x.mo, v'⟩ b fv (n + 1) W' ∧ Chg (x.ft b) (Sx.ft ⟨⟨upf x.s.O a (some v), x.s.I⟩, .o a (x.s.O a) :: x.bs, q :: x.qs, x.ids, x.mo, v'⟩ b) W W'
set_option maxRecDepth 100000 in
set_option maxHeartbeats 4000000 in
theorem wipe_c {x : Sx} {b n : Nat} {fv : Value} {W : World} (h : WAt x b fv n W) (hn : n < 1000000) {a : Nm} (ha : a.length = 20) :
    Calls Tryz.prog 98 #[.pointer (some ⟨b, 0, none⟩), .string (str a)] W fun e W' => e = .returned (.tuple #[]) ∧ SetR x b n fv a ⟨true, AccP.zero, true, none⟩ W W' := by
  have C := Lib.hid (set_c h hn ha ⟨true, AccP.zero, true, none⟩ (fun m hm => by cases hm))
  rw [show chCells ⟨true, AccP.zero, true, none⟩ = #[.bool true, .int .u64 0, .int .u64 0, .int .u64 0, .int .u64 0, .int .u64 0, .string ⟨#[]⟩, .bool true, .map none] from by simp [chCells, AccP.zero, lim_zero, str]] at C
  clear h hn ha
  go_enter Tryz.func98, Tryz.ntmps98
  go_wp2_with fail
  refine C.out.mono ?_
  rintro e V1 ⟨rfl, h1⟩
  go_wp2_with fail
  go_end0
  exact ⟨rfl, h1⟩
set_option maxRecDepth 100000 in
set_option maxHeartbeats 8000000 in
theorem setAccount_c {x : Sx} {b n : Nat} {fv : Value} {W : World} (h : WAt x b fv n W) (hn : n < 1000000) {a : Nm} (ha : a.length = 20) (y : AccP) :
    Calls Tryz.prog 91 #[.pointer (some ⟨b, 0, none⟩), .string (str a), .agg (accCells y)] W fun e W' => e = .returned (.tuple #[]) ∧ SetR x b n fv a ⟨true, y, (x.s.ch a).wi, (x.s.ch a).sl⟩ W W' := by
  have M1 := (An.start h.ob).alloc (accO y)
  have HL := M1.ob.it.look ha
  have b0 := M1.ob.it.cells.1.1
  have M2 := M1.alloc (chO (x.s.ch a))
  rw [alloc_size] at M2
  have HM := Lib.hid (And.intro M2 (And.intro hn ha))
  clear h hn ha M1 M2
  obtain ⟨c0, hc0⟩ : ∃ c0, c0 = x.s.ch a := ⟨_, rfl⟩
  rw [← hc0] at HL HM ⊢
  have HC := Lib.hid hc0
  clear hc0
  unfold accO at *
  unfold chO at *
  unfold chCells accCells at *
  go_enter Tryz.func91, Tryz.ntmps91
  go_wp2_with fail
  have M := HM.out.1
  generalize World.alloc (World.alloc W _) _ = V2 at M ⊢
  obtain ⟨q0, hq0⟩ : ∃ q0, q0 = W.heap.size := ⟨_, rfl⟩
  rw [← hq0] at M ⊢
  obtain ⟨q1, hq1⟩ : ∃ q1, q1 = q0 + 1 := ⟨_, rfl⟩
  rw [← hq1] at M ⊢
  have hne : q1 ≠ q0 := by omega
  have hne2 : q0 ≠ q1 := by omega
  have HQ := Lib.hid (And.intro hq0 hq1)
  have g1 := M.at (q := q1) (List.mem_cons_self ..)
  have g0 := M.at (q := q0) (List.mem_cons_of_mem _ (List.mem_cons_self ..))
  have f0 := cell_of g0 0
  have f1 := cell_of g0 1
  have f2 := cell_of g0 2
  have f3 := cell_of g0 3
  have f4 := cell_of g0 4
  have f5 := cell_of g0 5
  have k0 := cell_of g1 0
  have e0 := free_of g1 0
  have k1 := cell_of g1 1
  have e1 := free_of g1 1
  have k2 := cell_of g1 2
  have e2 := free_of g1 2
  have k3 := cell_of g1 3
  have e3 := free_of g1 3
  have k4 := cell_of g1 4
  have e4 := free_of g1 4
  have k5 := cell_of g1 5
  have e5 := free_of g1 5
  have k6 := cell_of g1 6
  have e6 := free_of g1 6
  have k7 := cell_of g1 7
  have e7 := free_of g1 7
  have k8 := cell_of g1 8
  have e8 := free_of g1 8
  have HMM := Lib.hid (And.intro M (And.intro HM.out.2.1 HM.out.2.2))
  clear M HM hq0 hq1 g0 g1 HL b0
  simp only [List.getElem?_toArray, List.getElem?_cons_zero, List.getElem?_cons_succ] at f0 f1 f2 f3 f4 f5 k0 k1 k2 k3 k4 k5 k6 k7 k8
  go_region
  have M3 := ((HMM.out.1.sub (L' := [(q1, _)]) (fun z hz => by obtain rfl := List.mem_singleton.1 hz; exact List.mem_cons_self ..)).put (chg_set7 V2 q1 (.bool true) (.int .u64 y.nonce) (.int .u64 (l3 y.bal : Nat)) (.int .u64 (l2 y.bal : Nat)) (.int .u64 (l1 y.bal : Nat)) (.int .u64 (l0 y.bal : Nat)) (.string (str y.code))) (setCh y (HMM.out.1.at (List.mem_cons_self ..))) (by simp)).call (Below.refl _ _).drew
  clear k0 k1 k2 k3 k4 k5 k6 k7 k8 e0 e1 e2 e3 e4 e5 e6 e7 e8 f0 f1 f2 f3 f4 f5
  generalize World.drew _ = V3 at M3 ⊢
  have g1 := M3.at (q := q1) (List.mem_cons_self ..)
  have k0 := cell_of g1 0
  have k1 := cell_of g1 1
  have k2 := cell_of g1 2
  have k3 := cell_of g1 3
  have k4 := cell_of g1 4
  have k5 := cell_of g1 5
  have k6 := cell_of g1 6
  have k7 := cell_of g1 7
  have k8 := cell_of g1 8
  have C := Lib.hid (set_c M3.ob.it HMM.out.2.1 HMM.out.2.2 ⟨true, y, c0.wi, c0.sl⟩ (fun m hm => M3.ob.it.chLive (a := a) (by rw [← HC.out]; exact hm)))
  unfold chO at *
  unfold chCells at *
  have H3 := Lib.hid M3
  clear M3 g1
  simp only [List.getElem?_toArray, List.getElem?_cons_zero, List.getElem?_cons_succ] at k0 k1 k2 k3 k4 k5 k6 k7 k8
  go_wp2_with fail
  refine C.out.mono ?_
  rintro e V4 ⟨rfl, q, v', h1, h2⟩
  go_wp2_with fail
  go_end0
  exact ⟨rfl, q, v', h1, (H3.out.step h1.ob h2).chg⟩
end Go.Proofs.YtekoaheiapddiaaGreat.Dz.Wo
end
section
namespace Go.Proofs.YtekoaheiapddiaaGreat.Dz.Wo
open Go.RowKit Go.Maps Mp

/-- What lies there tells G, and taken back, the newest change first, old. -/
structure Rp (x : Sx) (G : Gs) (old : List Gs) : Prop where
  abs : x.s.abs = G
  uniq : Uniq x.s.O
  hist : Hist x.s x.bs old
def SetG (G : Gs) (old : List Gs) (x : Sx) (b n : Nat) (fv : Value) (a : Nm) (y : Ent) (W W' : World) : Prop := ∃ x', WAt x' b fv n W' ∧ Rp x' (upf G a (some y)) (G :: old) ∧ Chg (x.ft b) (x'.ft b) W W'
theorem Rp.ent {x : Sx} {G : Gs} {old : List Gs} (h : Rp x G old) (a : Nm) : (G a).getD Ent.zero = (x.s.ch a).ent x.s.I := by
  rw [← h.abs]
  unfold Ps.abs Ps.ch
  cases x.s.O a with
  | none => rfl
  | some c => rfl
theorem uniq_set {O : Nm → Option Ch} (h : Uniq O) {a : Nm} {v : Ch} (hv : ∀ m, v.sl = some m → ∀ k x, O k = some x → x.sl = some m → k = a) : Uniq (upf O a (some v)) := fun k k' x x' m h1 h2 h3 h4 => by
  by_cases e1 : k = a
  · by_cases e2 : k' = a
    · rw [e1, e2]
    · rw [e1, upf_same] at h1; cases h1
      rw [upf_other _ _ e2] at h2
      rw [e1]; exact (hv m h3 k' x' h2 h4).symm
  · rw [upf_other _ _ e1] at h1
    by_cases e2 : k' = a
    · rw [e2, upf_same] at h2; cases h2
      rw [e2]; exact hv m h4 k x h1 h3
    · rw [upf_other _ _ e2] at h2
      exact h k k' x x' m h1 h2 h3 h4
theorem SetR.told {x : Sx} {b n : Nat} {fv : Value} {a : Nm} {v : Ch} {W W' : World} {G : Gs} {old : List Gs} (h : SetR x b n fv a v W W') (hr : Rp x G old) (hv : ∀ m, v.sl = some m → ∀ k y, x.s.O k = some y → y.sl = some m → k = a) : SetG G old x b (n + 1) fv a (v.ent x.s.I) W W' := by
  obtain ⟨q, v', h1, h2⟩ := h
  refine ⟨_, h1, ⟨?_, uniq_set hr.uniq hv, ?_, ?_, ?_⟩, h2⟩
  · rw [← hr.abs]
    funext k
    unfold Ps.abs
    simp only
    by_cases e : k = a
    · rw [e, upf_same, upf_same]; rfl
    · rw [upf_other _ _ e, upf_other _ _ e]
  · show Ps.abs ⟨upf (upf x.s.O a (some v)) a (x.s.O a), x.s.I⟩ = G
    rw [upf_back]; exact hr.abs
  · show Uniq (upf (upf x.s.O a (some v)) a (x.s.O a))
    rw [upf_back]; exact hr.uniq
  · show Hist ⟨upf (upf x.s.O a (some v)) a (x.s.O a), x.s.I⟩ x.bs old
    rw [upf_back]; exact hr.hist
theorem Rp.alone {x : Sx} {G : Gs} {old : List Gs} (h : Rp x G old) {a : Nm} {m : Nat} (hm : (x.s.ch a).sl = some m) : ∀ k y, x.s.O k = some y → y.sl = some m → k = a := fun k y h1 h2 => by
  unfold Ps.ch at hm
  cases ho : x.s.O a with
  | none => rw [ho] at hm; cases hm
  | some c => rw [ho] at hm; exact h.uniq k a y c m h1 ho h2 hm
end Go.Proofs.YtekoaheiapddiaaGreat.Dz.Wo
end
section
namespace Go.Proofs.YtekoaheiapddiaaGreat.Dz.Wo
open Go.RowKit Go.Maps Mp

abbrev wordO (n : Nat) : Obj := .cells (wordC n) 61 (0, 0)
end Go.Proofs.YtekoaheiapddiaaGreat.Dz.Wo
end
section
namespace Go.Proofs.YtekoaheiapddiaaGreat.Dz.Wo
open Go.RowKit Go.Maps Mp

def fvOf : Fz → Nat → Value
  | .no, _ => .pointer none
  | .yes _ _, bc => .pointer (some ⟨bc, 0, none⟩)
/-- What is far lies there, in the blocks ff. -/
def FarAt (d bc N : Nat) : Fz → (Nat → Prop) → World → Prop
  | .no, ff, _ => ff = fun _ => False
  | .yes p c, ff, W => ∃ F m sv av, Bo p c nmC d N F bc m sv av W ∧ ff = ftB F bc m sv av
/-- What a client answers for an account, and for a slot. -/
structure AskOk : Prop where
  acct : ∀ {p : Pd} {c : Cl} {name : Nm} {d N : Nat} {F : Nat → Prop} {b m : Nat} {sv av : Value} {W : World}, Bo p c name d N F b m sv av W → ∀ (a : List UInt8), c.asked.length ≤ 1000000 → N < 900000 → List.length name ≤ 1000000 →
    Calls Tryz.prog 51 #[.pointer (some ⟨b, 0, none⟩), .string (str a)] W fun e W' => e = .returned (.tuple #[.agg (accC (askP name p c ⟨0, a, 0, 1⟩).1.1), .int .i64 (askP name p c ⟨0, a, 0, 1⟩).1.2]) ∧ Gone (askP name p c ⟨0, a, 0, 1⟩).2 name d (N + 4) b m (ftB F b m sv av) W W'
  slot : ∀ {p : Pd} {c : Cl} {name : Nm} {d N : Nat} {F : Nat → Prop} {b m : Nat} {sv av : Value} {W : World}, Bo p c name d N F b m sv av W → ∀ (a : List UInt8) (k : Nat), k < W256 → c.asked.length ≤ 1000000 → N < 900000 → List.length name ≤ 1000000 →
    Calls Tryz.prog 63 #[.pointer (some ⟨b, 0, none⟩), .string (str a), wordV k] W fun e W' => e = .returned (.tuple #[.agg (valC (askP name p c ⟨0, a, k, 2⟩).1.1), .int .i64 (askP name p c ⟨0, a, k, 2⟩).1.2]) ∧ Gone (askP name p c ⟨0, a, k, 2⟩).2 name d (N + 4) b m (ftB F b m sv av) W W'
/-- The client's bounds, and what it answers. -/
def FzOk (N : Nat) : Fz → Prop
  | .no => True
  | .yes _ c => AskOk ∧ c.asked.length ≤ 1000000 ∧ N < 900000
theorem FarAt.ob {d bc N : Nat} {z : Fz} {ff : Nat → Prop} {W : World} (h : FarAt d bc N z ff W) : Ob (FarAt d bc N z ff) ff W := by
  cases z with
  | no => exact ⟨h, fun k hk => by rw [show ff = _ from h] at hk; exact hk.elim, fun V _ => h⟩
  | yes p c =>
    obtain ⟨F, m, sv, av, h1, rfl⟩ := h
    exact ⟨⟨F, m, sv, av, h1, rfl⟩, fun k hk => h1.lt hk, fun V hV => ⟨F, m, sv, av, h1.kept hV, rfl⟩⟩
structure Pw (w : Wd) (b d bc n N : Nat) (x : Sx) (ff : Nat → Prop) (W : World) : Prop where
  at_ : WAt x b (fvOf w.far bc) n W
  rep : Rp x w.G w.old
  far : FarAt d bc N w.far ff W
  ap : ∀ k, x.ft b k → ¬ ff k
def ftP (x : Sx) (b : Nat) (ff : Nat → Prop) (k : Nat) : Prop := x.ft b k ∨ ff k
section
variable {w : Wd} {b d bc n N : Nat} {x : Sx} {ff : Nat → Prop} {W V : World}
theorem Pw.ob (h : Pw w b d bc n N x ff W) : Ob (Pw w b d bc n N x ff) (ftP x b ff) W :=
  ⟨h, fun k hk => hk.elim (fun e => h.at_.lt e) (fun e => h.far.ob.lt k e), fun V hV => ⟨h.at_.kept fun k hk => hV k (Or.inl hk), h.rep, h.far.ob.keep V fun k hk => hV k (Or.inr hk), h.ap⟩⟩
/-- What a call leaves. -/
def Lv (w : Wd) (b d bc n N : Nat) (F0 : Nat → Prop) (W V : World) : Prop := ∃ x ff, Pw w b d bc n N x ff V ∧ Chg F0 (ftP x b ff) W V
theorem FarAt.mono {z : Fz} {M : Nat} (h : FarAt d bc N z ff W) (hM : N ≤ M) : FarAt d bc M z ff W := by
  cases z with
  | no => exact h
  | yes p c =>
    obtain ⟨F, m, sv, av, h1, rfl⟩ := h
    exact ⟨F, m, sv, av, h1.mono hM, rfl⟩
theorem Pw.mono {n' M : Nat} (h : Pw w b d bc n N x ff W) (hn : n ≤ n') (hM : N ≤ M) : Pw w b d bc n' M x ff W := ⟨h.at_.mono hn, h.rep, h.far.mono hM, h.ap⟩
theorem Lv.mono {F0 : Nat → Prop} {n' M : Nat} (h : Lv w b d bc n N F0 W V) (hn : n ≤ n') (hM : N ≤ M) : Lv w b d bc n' M F0 W V := by
  obtain ⟨x, ff, h1, h2⟩ := h
  exact ⟨x, ff, h1.mono hn hM, h2⟩
theorem Lv.mk {F0 : Nat → Prop} {L : List (Nat × Obj)} (h : An (Pw w b d bc n N x ff) (ftP x b ff) W F0 L V) : Lv w b d bc n N F0 W V := ⟨x, ff, h.ob.it, h.chg⟩
/-- The far one acts. -/
theorem Pw.farAct {z : Fz} {M : Nat} {gg : Nat → Prop} (h : Pw w b d bc n N x ff W) (h1 : FarAt d bc M z gg V) (h2 : Chg ff gg W V) (hf : fvOf z bc = fvOf w.far bc) : Pw ⟨w.G, w.old, z⟩ b d bc n M x gg V ∧ Chg (ftP x b ff) (ftP x b gg) W V := by
  refine ⟨⟨?_, h.rep, h1, fun k hk hg => ?_⟩, ⟨h2.os, h2.tape, h2.output, h2.size, fun k hk hn => h2.block k hk fun e => hn (Or.inr e), fun k hk => ?_⟩⟩
  · have := h.at_.kept (V := V) fun k hk => h2.block k (h.at_.lt hk) (h.ap k hk)
    rw [← hf] at this; exact this
  · rcases h2.new k hg with e | e
    · exact h.ap k hk e
    · have := h.at_.lt hk; omega
  · rcases hk with e | e
    · exact Or.inl (Or.inl e)
    · exact (h2.new k e).imp Or.inr id
/-- The world itself acts. -/
theorem Pw.act {n' : Nat} {x' : Sx} {G : Gs} {old : List Gs} (h : Pw w b d bc n N x ff W) (h1 : WAt x' b (fvOf w.far bc) n' V) (hr : Rp x' G old) (h2 : Chg (x.ft b) (x'.ft b) W V) : Pw ⟨G, old, w.far⟩ b d bc n' N x' ff V ∧ Chg (ftP x b ff) (ftP x' b ff) W V := by
  refine ⟨⟨h1, hr, h.far.ob.keep V fun k hk => h2.block k (h.far.ob.lt k hk) fun e => h.ap k e hk, fun k hk hg => ?_⟩, ⟨h2.os, h2.tape, h2.output, h2.size, fun k hk hn => h2.block k hk fun e => hn (Or.inl e), fun k hk => ?_⟩⟩
  · rcases h2.new k hk with e | e
    · exact h.ap k e hg
    · have := h.far.ob.lt k hg; omega
  · rcases hk with e | e
    · exact (h2.new k e).imp Or.inl id
    · exact Or.inl (Or.inr e)
end
theorem far_nil (W : World) : (binOp .eql 33 (.pointer none) (.pointer none)).run Tryz.prog W = .ok (.bool true) W := by kernel_rfl
theorem far_some (q : Nat) (W : World) : (binOp .eql 33 (.pointer (some ⟨q, 0, none⟩)) (.pointer none)).run Tryz.prog W = .ok (.bool false) W := by kernel_rfl
theorem accFin {w : Wd} {b d bc n N : Nat} {x : Sx} {ff F0 : Nat → Prop} {W V V' : World} {L : List (Nat × Obj)} {q : Nat} (M : An (Pw w b d bc n N x ff) (ftP x b ff) W F0 L V) (hm : (q, acc.tO) ∈ L) (u0 u1 u2 u3 u4 u5 : Value)
    (hV : V' = ((((((V.setCell ⟨q, 0, none⟩ u0).setCell ⟨q, 1, none⟩ u1).setCell ⟨q, 2, none⟩ u2).setCell ⟨q, 3, none⟩ u3).setCell ⟨q, 4, none⟩ u4).setCell ⟨q, 5, none⟩ u5)) : V'.heap[q]? = some (.cells #[u0, u1, u2, u3, u4, u5] 82 (0, 0)) ∧ Lv w b d bc n N F0 W V' := by
  subst hV
  have hs := set6 (M.at hm) u0 u1 u2 u3 u4 u5
  have M2 := (M.sub (L' := [(q, acc.tO)]) (fun x hx => by obtain rfl := List.mem_singleton.1 hx; exact hm)).put (chg_set6 V q u0 u1 u2 u3 u4 u5) hs (by simp)
  exact ⟨hs, Lv.mk M2⟩
theorem accZero : accCells AccP.zero = #[.int .u64 0, .int .u64 0, .int .u64 0, .int .u64 0, .int .u64 0, .string ⟨#[]⟩] := by simp [accCells, AccP.zero, lim_zero, str]
theorem ent_ch {w : Wd} {x : Sx} (h : Rp x w.G w.old) (a : Nm) : (w.ent a).ch = (x.s.ch a).ch ∧ (w.ent a).acc = (x.s.ch a).acc ∧ (w.ent a).wi = (x.s.ch a).wi := by
  have e := h.ent a
  unfold Wd.ent
  rw [e]
  exact ⟨rfl, rfl, rfl⟩
set_option maxRecDepth 100000 in
set_option maxHeartbeats 8000000 in
theorem account_c {w : Wd} {b d bc n N : Nat} {x : Sx} {ff : Nat → Prop} {W : World} (h : Pw w b d bc n N x ff W) (hN : FzOk N w.far) (a : Nm) :
    Calls Tryz.prog 42 #[.pointer (some ⟨b, 0, none⟩), .string (str a)] W fun e W' => e = .returned (.tuple #[.agg (accCells (w.acct a).1.1), .int .i64 (w.acct a).1.2]) ∧ Lv (w.acct a).2 b d bc n (N + 4) (ftP x b ff) W W' := by
  have M1 := (An.start h.ob).alloc acc.tO
  have hsz := str_size a
  by_cases hl : a.length = 20
  · have hli : (a.length : Int) = 20 := by omega
    have HL := M1.ob.it.at_.look hl
    obtain ⟨⟨b0, _, _⟩, _⟩ := M1.ob.it.at_.cells
    obtain ⟨e1, e2, _⟩ := ent_ch h.rep a
    have M2 := M1.alloc (chO (x.s.ch a))
    rw [alloc_size] at M2
    have b2 := M2.ob.it.at_.cells.1.2.2
    have HM := Lib.hid (And.intro M2 hN)
    have hw : w.acct a = if (x.s.ch a).ch = true then (((x.s.ch a).acc, 0), w) else ((w.far.acct a).1, ⟨w.G, w.old, (w.far.acct a).2⟩) := by
      unfold Wd.acct
      rw [if_neg (by omega), e1, e2]
    have MT := Lib.hid (((An.start h.ob).alloc (accO (x.s.ch a).acc)).alloc (chO (x.s.ch a)))
    clear M1 M2 e1 e2 hN h
    generalize x.s.ch a = c0 at HL HM hw MT b2
    obtain ⟨cc, ca, cw, cs⟩ := c0
    unfold accO at MT
    unfold chO at HM MT b2
    unfold chCells at *
    unfold accCells at MT
    unfold acc.tO at HL HM b0 b2
    simp only at HL HM hw MT b2
    cases cc with
    | true =>
      rw [hw, if_pos rfl]
      clear hw
      simp only
      unfold accCells
      go_enter Tryz.func42, Tryz.ntmps42
      go_wp2_with fail
      exact bodyPost_ret (results_cell_slot Tryz.results42 _ _ _ _ _ _ _ _ rfl rfl (MT.out.at (q := W.heap.size) (List.mem_cons_of_mem _ (List.mem_cons_self ..))) Tryz.underlying82 rfl (by kernel_rfl)) rfl ⟨rfl, (Lv.mk MT.out).mono (Nat.le_refl _) (by omega)⟩
    | false =>
      rw [hw, if_neg (by simp)]
      clear hw
      simp only
      cases hf : w.far with
      | no =>
        have hfn := far_nil
        rw [hf] at b2
        unfold fvOf at b2
        have e9 : w.far.acct a = ((AccP.zero, 0), .no) := by rw [hf]; rfl
        have hwf : (⟨w.G, w.old, .no⟩ : Wd) = w := by rw [← hf]
        rw [← hf, e9]
        simp only
        rw [hwf, accZero]
        clear e9 hwf hf
        go_enter Tryz.func42, Tryz.ntmps42
        go_wp2_with fail
        exact bodyPost_ret (results_cell_slot Tryz.results42 _ _ _ _ _ _ _ _ rfl rfl (HM.out.1.at (q := W.heap.size) (List.mem_cons_of_mem _ (List.mem_cons_self ..))) Tryz.underlying82 rfl (by kernel_rfl)) rfl ⟨rfl, (Lv.mk HM.out.1).mono (Nat.le_refl _) (by omega)⟩
      | yes p c =>
        have hfs := far_some bc
        obtain ⟨M2, hN⟩ := HM.out
        have hfar := M2.ob.it.far
        rw [hf] at b2 hN hfar
        unfold fvOf at b2
        obtain ⟨F, m, sv, av, hB, hff⟩ := hfar
        have C := Lib.hid (hN.1.acct hB a hN.2.1 hN.2.2 (by show (1 : Nat) ≤ _; omega))
        simp only [Fz.acct]
        obtain ⟨⟨⟨r9, e9⟩, p9, c9⟩, hres⟩ : ∃ res, res = askP nmC p c ⟨0, a, 0, 1⟩ := ⟨_, rfl⟩
        rw [← hres] at C ⊢
        simp only at C ⊢
        have HX := Lib.hid (And.intro hff hf)
        clear hB hff M2 hN hf hres
        unfold accCells replyAcc
        unfold accC at C
        simp only
        go_enter Tryz.func42, Tryz.ntmps42
        go_wp2_with fail
        refine C.out.mono ?_
        rintro e V1 ⟨rfl, F1, sv1, av1, hB1, hC1⟩
        have g1 : FarAt d bc (N + 4) (.yes p9 c9) (ftB F1 bc m sv1 av1) V1 := ⟨F1, m, sv1, av1, hB1, rfl⟩
        rw [← HX.out.1] at hC1
        obtain ⟨g2, g3⟩ := HM.out.1.ob.it.farAct g1 hC1 (by rw [HX.out.2]; rfl)
        have M3 := HM.out.1.step g2.ob g3
        have HM3 := Lib.hid M3
        obtain ⟨⟨k0, k1, k2, k3, k4, k5⟩, d0, d1, d2, d3, d4, d5⟩ := cells6 (M3.at (q := W.heap.size) (o := acc.tO) (List.mem_cons_of_mem _ (List.mem_cons_self ..)))
        clear M3 g1 g2 g3 hB1 hC1 C HL
        go_wp2_with fail
        obtain ⟨q1, q2⟩ := accFin HM3.out (List.mem_cons_of_mem _ (List.mem_cons_self ..)) _ _ _ _ _ _ rfl
        exact bodyPost_ret (results_cell_slot Tryz.results42 _ _ _ _ _ _ _ _ rfl rfl q1 Tryz.underlying82 rfl (by kernel_rfl)) rfl ⟨rfl, q2⟩
  · have hli : ¬ (a.length : Int) = 20 := by omega
    have hw : w.acct a = ((AccP.zero, 1), w) := if_pos hl
    rw [hw]
    have HH := Lib.hid M1
    simp only
    rw [accZero]
    clear h hN M1 hw hl
    go_enter Tryz.func42, Tryz.ntmps42
    go_wp2_with fail
    exact bodyPost_ret (results_cell_slot Tryz.results42 _ _ _ _ _ _ _ _ rfl rfl (HH.out.at (q := W.heap.size) (List.mem_cons_self ..)) Tryz.underlying82 rfl (by kernel_rfl)) rfl ⟨rfl, (Lv.mk HH.out).mono (Nat.le_refl _) (by omega)⟩
end Go.Proofs.YtekoaheiapddiaaGreat.Dz.Wo
end
