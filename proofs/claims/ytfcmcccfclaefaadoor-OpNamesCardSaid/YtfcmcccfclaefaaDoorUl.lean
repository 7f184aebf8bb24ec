/- Text. -/
import Derived.Test.YtfcmcccfclaefaaDoorUk
namespace Go.Proofs.YtfcmcccfclaefaaDoor
open Go.RowKit Go.Maps Go.Shelf Mp

def rowT (l : List Nm) : List Value := l.map fun s => .string (str s)
def linesOf (p : List (Nat × Nm)) : List Nm := p.map fun i => lineP i.2
/-- Amid Text: the box of lines; the map of all codes, in a box of its own. -/
structure Tx (W : World) (q k m : Nat) (xs : List Value) (V : World) : Prop where
  acc : Acc 38 9 W q xs V
  box : V.heap[k]? = some (.cells #[.map (some m)] 48 (0, 0))
  map : MapFn kitB m 256 infoOf V
  lt : k < W.heap.size ∧ m < W.heap.size
  ne : k ≠ q ∧ m ≠ q
theorem Tx.call {W V V' : World} {q k m : Nat} {xs : List Value} (h : Tx W q k m xs V) (hb : Below V.heap.size V V') : Tx W q k m xs V' :=
  ⟨h.acc.call hb, (hb.block _ (lt_of h.box)).trans h.box, h.map.keep (hb.block _ h.map.lt), h.lt, h.ne⟩
theorem Tx.more {W V V' : World} {q k m : Nat} {xs ys : List Value} (h : Tx W q k m xs V) (hA : Acc 38 9 W q ys V') (h2 : ∀ j, j < W.heap.size → j ≠ q → V'.heap[j]? = V.heap[j]?) : Tx W q k m ys V' :=
  ⟨hA, (h2 k h.lt.1 h.ne.1).trans h.box, h.map.keep (h2 m h.lt.2 h.ne.2), h.lt, h.ne⟩
theorem Acc.same {st et : TypeId} {W V V' : World} {q : Nat} {xs ys : List Value} (h : Acc st et W q xs V) (h2 : Acc st et W q ys V') : ∀ j, j < W.heap.size → j ≠ q → V'.heap[j]? = V.heap[j]? :=
  fun j hj hq => (h2.chg.block j hj hq).trans (h.chg.block j hj hq).symm
set_option maxRecDepth 100000 in
set_option maxHeartbeats 4000000 in
theorem text1_c {W V : World} {q k m : Nat} {xs : List Nm} (h : Tx W q k m (rowT xs) V) (hx : xs.length < 1000) (a : Nat) (c : UInt8) (r : Nm) (hl : (c :: r).length ≤ 1000) :
    Calls Tryd.prog 24 #[.int .i64 (a : Nat), .string (str (c :: r)), .pointer (some ⟨q, 0, none⟩), .pointer (some ⟨k, 0, none⟩)] V fun e V' => e = .returned (.tuple #[]) ∧ Tx W q k m (rowT (xs ++ [lineP (c :: r)])) V' := by
  obtain ⟨v, h0, h1⟩ := h.acc.own
  have e9 : rowT (xs ++ [lineP (c :: r)]) = rowT xs ++ [.string (str (lineP (c :: r)))] := by simp [rowT]
  have hl9 : (rowT xs).length = xs.length := by simp [rowT]
  rw [e9]
  have C := Lib.hid (fun (U : World) (hU : MapFn kitB m 256 infoOf U) => line_c hU c r hl)
  generalize rowT xs = ys at *
  generalize str (lineP (c :: r)) = y at *
  generalize str (c :: r) = s at *
  have hn : ys.length < 1000 := by omega
  obtain ⟨sa, sc, hv⟩ := own_any h1
  obtain ⟨n, hn2⟩ : ∃ n, n = ys.length := ⟨_, rfl⟩
  rw [← hn2] at hv
  have HN := Lib.hid (And.intro hn2 (And.intro hv hn))
  have H1 := Lib.hid (h.call (Below.refl _ _).drew)
  have HS := Lib.hid (fun (U : World) (hU : U.cell? ⟨q, 0, none⟩ = some (.slice sa n sc) ∧ U.cell? ⟨k, 0, none⟩ = some (.map (some m))) => hU)
  have hc0 : V.drew.cell? ⟨q, 0, none⟩ = some (.slice sa n sc) := by rw [← hv]; exact cell_of (w := V.drew) h0 0
  have hc1 : V.drew.cell? ⟨k, 0, none⟩ = some (.map (some m)) := cell_of (w := V.drew) h.box 0
  have H0 := And.intro hc0 hc1
  have HV := Lib.hid (show V.drew.heap[q]? = some (.cells #[v] 38 (0, 0)) ∧ V.drew.ownsRow W.heap.size 9 1 v ys.length ys from ⟨h0, h1⟩)
  clear h h0 h1 hx hn hv hn2 hl hl9 e9 hc0 hc1
  go_enter Tryd.func24, Tryd.ntmps24
  refine Drawn.start (fun U => U.cell? ⟨q, 0, none⟩ = some (.slice sa n sc) ∧ U.cell? ⟨k, 0, none⟩ = some (.map (some m))) (fun j => j == 6) (by kernel_rfl) ?_
  generalize World.drew V = V1 at *
  refine Drawn.take 0 (some 6) (v := ?_) rfl rfl (by kernel_rfl) (by kernel_rfl) (by kernel_rfl) (by kernel_rfl) (by kernel_rfl) rfl (fun _ _ _ h => h) (Or.inl ⟨rfl, ?_⟩) H0 ?_
  rotate_left
  · intro W hW; have hW := HS.out W hW; go_simp; try with_reducible rfl
  simp only [put_list, List.set]
  refine Drawn.take 1 (some 7) (v := ?_) rfl rfl (by kernel_rfl) (by kernel_rfl) (by kernel_rfl) (by kernel_rfl) (by kernel_rfl) rfl (fun _ _ _ h => h) (Or.inl ⟨rfl, ?_⟩) H0 ?_
  rotate_left
  · intro W hW; have hW := HS.out W hW; go_simp; try with_reducible rfl
  simp only [put_list, List.set]
  refine Drawn.take 2 (some 8) (v := ?_) rfl rfl (by kernel_rfl) (by kernel_rfl) (by kernel_rfl) (by kernel_rfl) (by kernel_rfl) rfl (fun _ _ _ h => h) (Or.inl ⟨rfl, ?_⟩) H0 ?_
  rotate_left
  · intro W hW; have hW := HS.out W hW; go_simp; try with_reducible rfl
  simp only [put_list, List.set]
  have C2 := Lib.hid (C.out _ H1.out.map)
  refine Drawn.only 3 (by kernel_rfl) rfl rfl (fun K hK => ?_)
  go_simp
  refine C2.out.mono ?_
  rintro e V2 ⟨rfl, h9⟩
  have H2 := Lib.hid (H1.out.call h9)
  have HV2 := Lib.hid (show V2.heap[q]? = some (.cells #[v] 38 (0, 0)) ∧ V2.ownsRow W.heap.size 9 1 v ys.length ys from ⟨(h9.block _ (lt_of HV.out.1)).trans HV.out.1, own_keep HV.out.2 fun j hj => h9.block _ (World.ownsRow.lt HV.out.2 j hj).2⟩)
  clear C C2 H1 HV h9 H0
  have H0 := And.intro (show V2.cell? ⟨q, 0, none⟩ = some (.slice sa n sc) by rw [← HN.out.2.1]; exact cell_of HV2.out.1 0) (cell_of H2.out.box 0)
  refine hK _ _ (fun _ _ => H0) ?_
  clear hK K
  try simp only [put_list, List.set]
  have HA := Lib.hid ((Below.refl V2.heap.size V2).alloc (Nat.le_refl _) (.cells #[.string y] 9))
  refine Drawn.only 4 (by kernel_rfl) rfl rfl (fun K hK => ?_)
  go_simp
  have H3 := And.intro ((World.cell?_of_block (a := ⟨q, 0, none⟩) (HA.out.block _ (lt_of HV2.out.1))).trans H0.1) ((World.cell?_of_block (a := ⟨k, 0, none⟩) (HA.out.block _ (lt_of H2.out.box))).trans H0.2)
  refine hK _ _ (fun _ _ => H3) ?_
  clear hK K
  try simp only [put_list, List.set]
  refine Drawn.only 5 (by kernel_rfl) rfl rfl (fun K hK => ?_)
  refine wp_append_one _ _ 38 9 (by rfl) Tryd.underlying38 (.string ⟨#[]⟩) 16 infoStr (by decide) (by decide) W.heap.size v ys.length ys (by rw [HN.out.2.1]; rfl) (own_keep HV2.out.2 fun k hk => HA.out.block _ (World.ownsRow.lt HV2.out.2 k hk).2) V2.heap.size (.string y) (by rfl) (by rfl) (heap_alloc_new _ _) (by rw [alloc_size]; have := H2.out.acc.chg.size; omega) (Nat.lt_trans HN.out.2.2 (by decide)) ?_
  intro v2 V3 h2 h3 h4
  obtain ⟨h5, h6⟩ := Acc.more (by decide) H2.out.acc HV2.out.1 HV2.out.2 rfl h2 h3 h4
  have f0 := free_of h6 0
  have k0 := cell_of h6 0
  obtain ⟨sa2, sc2, hv2⟩ := own_any h2
  subst hv2
  have hT := H2.out.more h5 (Acc.same H2.out.acc h5)
  have k1 : V3.cell? ⟨q, 0, none⟩ = some (.slice sa n sc) := by rw [← HN.out.2.1]; exact k0
  have k2 : V3.cell? ⟨k, 0, none⟩ = some (.map (some m)) := cell_of ((heap_setCell_other _ _ _ _ (by simpa using H2.out.ne.1)).symm.trans hT.box) 0
  have H5 := Lib.hid hT
  clear h2 h3 h4 h5 h6 hT
  refine hK _ _ (fun _ _ => ⟨k1, k2⟩) ?_
  clear hK K
  try simp only [put_list, List.set]
  refine Drawn.only 6 (by kernel_rfl) rfl rfl (fun K hK => ?_)
  go_simp
  refine hK _ _ (fun h => by cases h) ?_
  clear hK K
  try simp only [put_list, List.set]
  refine Drawn.done (by kernel_rfl) ?_ _
  go_end0
  exact ⟨rfl, H5.out⟩
theorem enter_text1 (args : Array Value) (w : World) : (callFunc 24 args).run Tryd.prog w = .ok (.enter 24 args) w := enters_of Tryd.func24 (by kernel_rfl) rfl args w
set_option maxRecDepth 100000 in
set_option maxHeartbeats 4000000 in
theorem text_c (l : Nm) (hl : l.length ≤ 1000) (W : World) : Calls Tryd.prog 17 #[.string (str l)] W (RowR2 9 (rowT (linesOf (insS 0 l))) W) := by
  have CA := Lib.hid (all_c (W.alloc (.cells #[.slice none 0 0] 38)))
  have CE := Lib.hid (fun (V : World) (m : Nat) (h : Tx V W.heap.size (V.heap.size - 1) m [] V) => each_c l hl 24 #[.pointer (some ⟨W.heap.size, 0, none⟩), .pointer (some ⟨V.heap.size - 1, 0, none⟩)] enter_text1 (fun p U => Tx V W.heap.size (V.heap.size - 1) m (rowT (linesOf p)) U) V h
    (fun p a c r U hr hp hU => by
      have h1 := text1_c hU (by rw [linesOf, List.length_map]; exact hp) a c r hr
      have e : linesOf (p ++ [(a, c :: r)]) = linesOf p ++ [lineP (c :: r)] := by simp [linesOf]
      rw [e]
      exact h1))
  generalize rowT (linesOf (insS 0 l)) = ys at CE ⊢
  clear hl
  go_enter Tryd.func17, Tryd.ntmps17
  go_wp2_with fail
  refine CA.out.mono ?_
  rintro e V1 ⟨m, rfl, h1, h2, h3⟩
  have hq : V1.heap[W.heap.size]? = some (.cells #[.slice none 0 0] 38 (0, 0)) := (h1.block _ (by rw [alloc_size]; omega)).trans (heap_alloc_new _ _)
  have hV : Below W.heap.size W V1 := ((Below.refl _ W).alloc (Nat.le_refl _) _).trans (h1.mono (by rw [alloc_size]; omega))
  have hb : Below V1.heap.size V1 (V1.alloc (.cells #[.map (some m)] 48)) := (Below.refl _ _).alloc (Nat.le_refl _) _
  have hsz : (V1.alloc (.cells #[.map (some m)] 48)).heap.size = V1.heap.size + 1 := alloc_size _ _
  have hT : Tx (V1.alloc (.cells #[.map (some m)] 48)) W.heap.size V1.heap.size m [] (V1.alloc (.cells #[.map (some m)] 48)) :=
    ⟨Acc.start ((hb.block _ (lt_of hq)).trans hq), heap_alloc_new _ _, h3.keep (hb.block _ h3.lt), ⟨by omega, by have := h3.lt; omega⟩, ⟨by have := lt_of hq; omega, by rw [alloc_size] at h2; omega⟩⟩
  have C := CE.out (V1.alloc (.cells #[.map (some m)] 48)) m
  rw [hsz, Nat.add_sub_cancel] at C
  have C2 := Lib.hid (C hT)
  have HV := Lib.hid (hV.trans (hb.mono hV.size))
  have hlq := lt_of hq
  have HLQ := Lib.hid hlq
  clear C CE CA h1 h2 h3 hq hV hb hsz hT hlq
  go_wp2_with fail
  refine C2.out.mono ?_
  rintro e V2 ⟨rfl, h⟩
  obtain ⟨v, h1, h2⟩ := h.acc.own
  have k0 : V2.cell? ⟨W.heap.size, 0, none⟩ = some v := cell_of h1 0
  have H := Lib.hid (And.intro (own_base h2 (B' := W.heap.size) (by rw [alloc_size]; have := HLQ.out; omega)) (chg_box HV.out h.acc.chg (Nat.le_refl _)))
  clear h h1 h2 C2
  go_wp2_with fail
  go_ret
  exact ⟨_, rfl, H.out⟩
end Go.Proofs.YtfcmcccfclaefaaDoor
