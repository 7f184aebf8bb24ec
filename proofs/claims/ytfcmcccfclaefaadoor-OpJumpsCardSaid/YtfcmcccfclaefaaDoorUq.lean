/- The reference's rows; group. -/
import Derived.Test.YtfcmcccfclaefaaDoorUn
namespace Go.Proofs.YtfcmcccfclaefaaDoor
open Go.RowKit Go.Maps Go.Shelf Mp

abbrev RowZ := Int × Inf
def rowC (r : RowZ) : List Value := [.int .i64 r.1, .string (str r.2.nm), .int .u64 r.2.gas, .int .i64 r.2.inn, .int .i64 r.2.out]
def rowsC (l : List RowZ) : List Value := l.flatMap rowC
theorem rowsC_len (l : List RowZ) : (rowsC l).length = l.length * 5 := by
  induction l with
  | nil => rfl
  | cons r l ih =>
    show (rowC r ++ rowsC l).length = _
    rw [List.length_append, ih, List.length_cons]
    show 5 + _ = _
    omega
theorem rowsC_app (a b : List RowZ) : rowsC (a ++ b) = rowsC a ++ rowsC b := by simp [rowsC]
theorem rowsC_one (l : List RowZ) : ∀ u ∈ rowsC l, u.oneCell' = true := by
  intro u hu
  obtain ⟨r, _, hr⟩ := List.mem_flatMap.1 hu
  simp [rowC] at hr
  rcases hr with rfl | rfl | rfl | rfl | rfl <;> rfl
theorem infoRow : (Tryd.prog.info? 53).map (fun i => (i.zero, i.size, i.bytes)) = some (some (.agg #[.int .i64 0, .string ⟨#[]⟩, .int .u64 0, .int .i64 0, .int .i64 0]), 5, 48) := by kernel_rfl
/-- Rows in a slice of the call's own. -/
abbrev Rz (B : Nat) (v : Value) (l : List RowZ) (V : World) : Prop := V.ownsRow B 53 5 v l.length (rowsC l)
theorem wpList_append_rows {ops : Array Oper} {rest : List Oper} {o : Oper} {a : Act} {Q : Exit → Act → World → Prop} {W : World} {B : Nat} {v : Value} {l l2 : List RowZ} (hgd : o.guard = none) (s x : Operand)
    (ho : o.op = .call { callee := .builtin .append, args := #[s, x], argTypes := #[50, 50] }) (hs : a.eval s = v) (h : Rz B v l W) (hB : B ≤ W.heap.size)
    {ad : Addr} {m c : Nat} (hm : m = l2.length) (hx : a.eval x = .slice (some ad) m c) (hc : ∀ j u, (rowsC l2)[j]? = some u → W.cell? (ad.add j) = some u) (hn : l.length + l2.length < 100000)
    (hK : ∀ v' W', Rz B v' (l ++ l2) W' → W.grownBy W' v.ownBlock → wpList Tryd.prog ops Q rest (a.put o.dst v') W') : wpList Tryd.prog ops Q (o :: rest) a W := by
  obtain ⟨i0, hi, hz0, hzz, hz2⟩ := info_parts infoRow
  subst hm
  refine wpList_append_own_at W hgd s x 50 ho B 53 i0 _ 5 48 Tryd.underlying50 hi hz0 hzz hz2 (by rfl) (by omega) v l.length (rowsC l) hs h ad l2.length c (rowsC l2) hx (rowsC_len l2) hc (rowsC_one l2) (by unfold maxLen; omega) (by omega) hB fun v' W' h2 h3 _ _ => hK v' W' ?_ h3
  unfold Rz
  rw [List.length_append, rowsC_app]
  exact h2
theorem wp_append_rows {o : Oper} {a : Act} {K : Act → World → Prop} {Q : Exit → Act → World → Prop} {W : World} {B : Nat} {v : Value} {l l2 : List RowZ} (s x : Operand)
    (ho : o.op = .call { callee := .builtin .append, args := #[s, x], argTypes := #[50, 50] }) (hs : a.eval s = v) (h : Rz B v l W) (hB : B ≤ W.heap.size)
    {ad : Addr} {m c : Nat} (hm : m = l2.length) (hx : a.eval x = .slice (some ad) m c) (hc : ∀ j u, (rowsC l2)[j]? = some u → W.cell? (ad.add j) = some u) (hn : l.length + l2.length < 100000)
    (hK : ∀ v' W', Rz B v' (l ++ l2) W' → W.grownBy W' v.ownBlock → K (a.put o.dst v') W') : Oper.wp Tryd.prog o a W K Q := by
  obtain ⟨i0, hi, hz0, hzz, hz2⟩ := info_parts infoRow
  subst hm
  obtain ⟨v', w', hr, h2, h3, _, _⟩ := run_append_own_at (P := Tryd.prog) W B 50 o.type 53 i0 _ 5 48 Tryd.underlying50 hi hz0 hzz hz2 (by rfl) (by omega) v l.length (rowsC l) h ad l2.length c (rowsC l2) (rowsC_len l2) hc (rowsC_one l2) (by unfold maxLen; omega) (by omega) hB
  unfold Oper.wp execOp
  simp only [ho, resolve, invoke, builtin, Sem.run_bind, Sem.run_pure, Result.andThen_ok, List.map_toArray, List.map_cons, List.map_nil, hs, hx, hr]
  refine hK _ _ ?_ h3
  unfold Rz
  rw [List.length_append, rowsC_app]
  exact h2
theorem lies_block {V : World} {q : Nat} {cs : Array Value} {t : TypeId} (h : V.heap[q]? = some (.cells cs t (0, 0))) : ∀ (j : Nat) (u : Value), cs.toList[j]? = some u → V.cell? ((⟨q, 0, none⟩ : Addr).add j) = some u := fun j u hj => by
  have e : (⟨q, 0, none⟩ : Addr).add j = ⟨q, j, none⟩ := by unfold Addr.add; split <;> simp_all
  rw [e, cell_of h j]
  simpa using hj
def rowIz (l : List Int) : List Value := l.map fun n => .int .i64 n
def grp (cs : List Int) (ns : List Nm) (g i u : Int) : List RowZ := (cs.zip ns).map fun p => (p.1, ⟨p.2, g, i, u⟩)
theorem grp_len {cs : List Int} {ns : List Nm} {g i u : Int} (h : cs.length = ns.length) : (grp cs ns g i u).length = cs.length := by simp [grp, h]
theorem grp_take {cs : List Int} {ns : List Nm} {g i u : Int} {j : Nat} {c : Int} {s : Nm} (h1 : cs[j]? = some c) (h2 : ns[j]? = some s) : (grp cs ns g i u).take (j + 1) = (grp cs ns g i u).take j ++ [(c, ⟨s, g, i, u⟩)] := by
  rw [List.take_add_one]
  congr 1
  have e : (cs.zip ns)[j]? = some (c, s) := (List.getElem?_zip_eq_some (z := (c, s))).2 ⟨h1, h2⟩
  simp [grp, e]
def GrpR (l : List RowZ) (W : World) (e : Ending) (W' : World) : Prop := ∃ v, e = .returned v ∧ Rz W.heap.size v l W' ∧ Below W.heap.size W W'
set_option maxRecDepth 100000 in
set_option maxHeartbeats 4000000 in
theorem group_c (cs : List Int) (ns : List Nm) (hl : cs.length = ns.length) (hn : cs.length ≤ 20) (g i u : Int) {v1 v2 : Value} {W : World} (h1 : Row v1 (rowIz cs) W) (h2 : Row v2 (rowT ns) W) :
    Calls Tryd.prog 39 #[v1, v2, .int .u64 g, .int .i64 i, .int .i64 u] W (GrpR (grp cs ns g i u) W) := by
  obtain ⟨N, hN⟩ : ∃ N, N = cs.length := ⟨_, rfl⟩
  obtain ⟨a1, c1, e1, h1⟩ := h1
  obtain ⟨a2, c2, e2, h2⟩ := h2
  rw [show (rowIz cs).length = N from by rw [hN]; simp [rowIz]] at e1
  rw [show (rowT ns).length = N from by rw [hN, hl]; simp [rowT]] at e2
  subst e1 e2
  have HH := Lib.hid (And.intro h1 (And.intro h2 (And.intro hN (And.intro hl hn))))
  have hN2 : (N : Int) ≤ 20 := by omega
  clear h1 h2 hN hl hn
  go_enter Tryd.func39, Tryd.ntmps39
  go_wp2_with fail
  go_loopw [11, 12] (fun lv iv wr => ∃ j : Nat, j ≤ N ∧ iv = .int .i64 (j : Nat) ∧ Rz W.heap.size lv ((grp cs ns g i u).take j) wr ∧ Below W.heap.size W wr) (fun _ iv _ => N - (intOf iv).toNat)
  case atStart => exact ⟨0, Nat.zero_le _, rfl, ⟨rfl, Or.inl ⟨rfl, rfl⟩⟩, Below.refl _ _⟩
  case round =>
    obtain ⟨j, hj, rfl, h, hb⟩ := hrel
    by_cases hlt : j < N
    · have hlt2 : (j : Int) < (N : Int) := by omega
      obtain ⟨c, hc⟩ : ∃ c, cs[j]? = some c := ⟨_, List.getElem?_eq_getElem (by have := HH.out.2.2.1; omega)⟩
      obtain ⟨s, hs⟩ : ∃ s, ns[j]? = some s := ⟨_, List.getElem?_eq_getElem (by have := HH.out.2.2.1; have := HH.out.2.2.2.1; omega)⟩
      obtain ⟨g1, r1, lt1, k1⟩ := HH.out.1.resolve_left (by intro e; simp only [rowIz, List.map_eq_nil_iff] at e; rw [e] at hc; simp at hc)
      obtain ⟨g2, r2, lt2, k2⟩ := HH.out.2.1.resolve_left (by intro e; simp only [rowT, List.map_eq_nil_iff] at e; rw [e] at hs; simp at hs)
      subst r1 r2
      have k1 := (World.cell?_of_block (a := ⟨g1, j, none⟩) (hb.block g1 lt1)).trans (k1 j (.int .i64 c) (by simp [rowIz, hc]))
      have k2 := (World.cell?_of_block (a := ⟨g2, j, none⟩) (hb.block g2 lt2)).trans (k2 j (.string (str s)) (by simp [rowT, hs]))
      obtain ⟨sa, sc, hv⟩ := own_any h
      obtain ⟨n, hn⟩ : ∃ n, n = ((grp cs ns g i u).take j).length := ⟨_, rfl⟩
      rw [← hn] at hv
      subst hv
      have HX := Lib.hid (And.intro h (And.intro hb (And.intro hn (And.intro hc hs))))
      have H0 : wr.drew.cell? ⟨g1, j, none⟩ = some (.int .i64 c) ∧ wr.drew.cell? ⟨g2, j, none⟩ = some (.string (str s)) := ⟨k1, k2⟩
      have HS := Lib.hid (fun (U : World) (hU : U.cell? ⟨g1, j, none⟩ = some (.int .i64 c) ∧ U.cell? ⟨g2, j, none⟩ = some (.string (str s))) => hU)
      have HX1 := Lib.hid (show Rz W.heap.size (.slice sa n sc) ((grp cs ns g i u).take j) wr.drew ∧ Below W.heap.size W wr.drew from ⟨h, hb.drew⟩)
      have HLT := Lib.hid (And.intro lt1 lt2)
      obtain ⟨y, hy⟩ : ∃ y, y = str s := ⟨_, rfl⟩
      rw [← hy] at H0 HS
      have HY := Lib.hid hy
      clear h hb hn hc hs k1 k2 lt1 lt2 hy
      go_wp2_with fail
      refine Drawn.start (fun U => U.cell? ⟨g1, j, none⟩ = some (.int .i64 c) ∧ U.cell? ⟨g2, j, none⟩ = some (.string y)) (fun _ => false) (by kernel_rfl) ?_
      refine Drawn.take 0 (some 19) (v := ?_) rfl rfl (by kernel_rfl) (by kernel_rfl) (by kernel_rfl) (by kernel_rfl) (by kernel_rfl) rfl (fun _ _ _ h => h) (Or.inl ⟨rfl, ?_⟩) H0 ?_
      rotate_left
      · intro W hW; have hW := HS.out W hW; go_simp; try with_reducible rfl
      simp only [put_list, List.set]
      refine Drawn.take 1 (some 20) (v := ?_) rfl rfl (by kernel_rfl) (by kernel_rfl) (by kernel_rfl) (by kernel_rfl) (by kernel_rfl) rfl (fun _ _ _ h => h) (Or.inl ⟨rfl, ?_⟩) H0 ?_
      rotate_left
      · intro W hW; have hW := HS.out W hW; go_simp; try with_reducible rfl
      simp only [put_list, List.set]
      refine Drawn.take 2 (some 21) (v := ?_) rfl rfl (by kernel_rfl) (by kernel_rfl) (by kernel_rfl) (by kernel_rfl) (by kernel_rfl) rfl (fun _ _ _ h => h) (Or.inl ⟨rfl, ?_⟩) H0 ?_
      rotate_left
      · intro W hW; have hW := HS.out W hW; go_simp; try with_reducible rfl
      simp only [put_list, List.set]
      refine Drawn.take 3 (some 22) (v := ?_) rfl rfl (by kernel_rfl) (by kernel_rfl) (by kernel_rfl) (by kernel_rfl) (by kernel_rfl) rfl (fun _ _ _ h => h) (Or.inl ⟨rfl, ?_⟩) H0 ?_
      rotate_left
      · intro W hW; have hW := HS.out W hW; go_simp; try with_reducible rfl
      simp only [put_list, List.set]
      refine Drawn.take 4 (some 23) (v := ?_) rfl rfl (by kernel_rfl) (by kernel_rfl) (by kernel_rfl) (by kernel_rfl) (by kernel_rfl) rfl (fun _ _ _ h => h) (Or.inl ⟨rfl, ?_⟩) H0 ?_
      rotate_left
      · intro W hW; have hW := HS.out W hW; go_simp; try with_reducible rfl
      simp only [put_list, List.set]
      refine Drawn.take 5 (some 24) (v := ?_) rfl rfl (by kernel_rfl) (by kernel_rfl) (by kernel_rfl) (by kernel_rfl) (by kernel_rfl) rfl (fun _ _ _ h => h) (Or.inl ⟨rfl, ?_⟩) H0 ?_
      rotate_left
      · intro W hW; have hW := HS.out W hW; go_simp; try with_reducible rfl
      simp only [put_list, List.set]
      refine Drawn.take 6 (some 25) (v := ?_) rfl rfl (by kernel_rfl) (by kernel_rfl) (by kernel_rfl) (by kernel_rfl) (by kernel_rfl) rfl (fun _ _ _ h => h) (Or.inl ⟨rfl, ?_⟩) H0 ?_
      rotate_left
      · intro W hW; have hW := HS.out W hW; go_simp; try with_reducible rfl
      simp only [put_list, List.set]
      refine Drawn.take 7 (some 26) (v := ?_) rfl rfl (by kernel_rfl) (by kernel_rfl) (by kernel_rfl) (by kernel_rfl) (by kernel_rfl) rfl (fun _ _ _ h => h) (Or.inl ⟨rfl, ?_⟩) H0 ?_
      rotate_left
      · intro W hW; have hW := HS.out W hW; go_simp; try with_reducible rfl
      simp only [put_list, List.set]
      refine Drawn.take 8 (some 27) (v := ?_) rfl rfl (by kernel_rfl) (by kernel_rfl) (by kernel_rfl) (by kernel_rfl) (by kernel_rfl) rfl (fun _ _ _ h => h) (Or.inl ⟨rfl, ?_⟩) H0 ?_
      rotate_left
      · intro W hW; have hW := HS.out W hW; go_simp; try with_reducible rfl
      simp only [put_list, List.set]
      refine Drawn.take 9 (some 28) (v := ?_) rfl rfl (by kernel_rfl) (by kernel_rfl) (by kernel_rfl) (by kernel_rfl) (by kernel_rfl) rfl (fun _ _ _ h => h) (Or.inl ⟨rfl, ?_⟩) H0 ?_
      rotate_left
      · intro W hW; have hW := HS.out W hW; go_simp; try with_reducible rfl
      simp only [put_list, List.set]
      refine Drawn.take 10 (some 29) (v := ?_) rfl rfl (by kernel_rfl) (by kernel_rfl) (by kernel_rfl) (by kernel_rfl) (by kernel_rfl) rfl (fun _ _ _ h => h) (Or.inl ⟨rfl, ?_⟩) H0 ?_
      rotate_left
      · intro W hW; have hW := HS.out W hW; go_simp; try with_reducible rfl
      simp only [put_list, List.set]
      refine Drawn.take 11 (some 30) (v := ?_) rfl rfl (by kernel_rfl) (by kernel_rfl) (by kernel_rfl) (by kernel_rfl) (by kernel_rfl) rfl (fun _ _ _ h => h) (Or.inl ⟨rfl, ?_⟩) H0 ?_
      rotate_left
      · intro W hW; have hW := HS.out W hW; go_simp; try with_reducible rfl
      simp only [put_list, List.set]
      refine Drawn.take 12 (some 31) (v := ?_) rfl rfl (by kernel_rfl) (by kernel_rfl) (by kernel_rfl) (by kernel_rfl) (by kernel_rfl) rfl (fun _ _ _ h => h) (Or.inl ⟨rfl, ?_⟩) H0 ?_
      rotate_left
      · intro W hW; have hW := HS.out W hW; go_simp; try with_reducible rfl
      simp only [put_list, List.set]
      refine Drawn.take 13 (some 32) (v := ?_) rfl rfl (by kernel_rfl) (by kernel_rfl) (by kernel_rfl) (by kernel_rfl) (by kernel_rfl) rfl (fun _ _ _ h => h) (Or.inl ⟨rfl, ?_⟩) H0 ?_
      rotate_left
      · intro W hW; have hW := HS.out W hW; go_simp; try with_reducible rfl
      simp only [put_list, List.set]
      generalize World.drew wr = V1 at *
      refine Drawn.only 14 (by kernel_rfl) rfl rfl (fun K hK => ?_)
      go_simp
      have HA : Below V1.heap.size V1 (V1.alloc (.cells #[.int .i64 c, .string y, .int .u64 g, .int .i64 i, .int .i64 u] 53)) := (Below.refl _ _).alloc (Nat.le_refl _) _
      have hsz := HX1.out.2.size
      have H3 := And.intro ((World.cell?_of_block (a := ⟨g1, j, none⟩) (HA.block _ (Nat.lt_of_lt_of_le HLT.out.1 hsz))).trans H0.1) ((World.cell?_of_block (a := ⟨g2, j, none⟩) (HA.block _ (Nat.lt_of_lt_of_le HLT.out.2 hsz))).trans H0.2)
      have HX2 := Lib.hid (show Rz W.heap.size (.slice sa n sc) ((grp cs ns g i u).take j) (V1.alloc (.cells #[.int .i64 c, .string y, .int .u64 g, .int .i64 i, .int .i64 u] 53)) ∧ Below W.heap.size W (V1.alloc (.cells #[.int .i64 c, .string y, .int .u64 g, .int .i64 i, .int .i64 u] 53)) from ⟨own_keep HX1.out.1 fun k hk => HA.block _ (World.ownsRow.lt HX1.out.1 k hk).2, HX1.out.2.trans (HA.mono hsz)⟩)
      have HL := lies_block (heap_alloc_new V1 (.cells #[.int .i64 c, .string y, .int .u64 g, .int .i64 i, .int .i64 u] 53 (0, 0)))
      refine hK _ _ (fun _ _ => H3) ?_
      clear hK K HX1 H0
      try simp only [put_list, List.set]
      generalize V1.heap.size = q at *
      generalize hV2 : World.alloc V1 _ = V2 at *
      clear hV2 HA
      refine Drawn.only 15 (by kernel_rfl) rfl rfl (fun K hK => ?_)
      refine wp_append_rows (l2 := [(c, ⟨s, g, i, u⟩)]) _ _ (by rfl) (by rfl) HX2.out.1 HX2.out.2.size (ad := ⟨q, 0, none⟩) (c := 1) (m := 1) rfl (by rfl) (by rw [HY.out] at HL; exact HL) (by have := HX.out.2.2.1; have := HH.out.2.2.1; have := HH.out.2.2.2.2; rw [List.length_take]; simp; omega) ?_
      intro v' V3 h5 h6
      rw [← grp_take HX.out.2.2.2.1 HX.out.2.2.2.2] at h5
      have hb3 : Below W.heap.size W V3 := HX2.out.2.grown h6 HX2.out.2.size (fun k hk => (World.ownsRow.lt HX2.out.1 k hk).1)
      have H9 := Lib.hid (And.intro h5 hb3)
      have H4 : V3.cell? ⟨g1, j, none⟩ = some (.int .i64 c) ∧ V3.cell? ⟨g2, j, none⟩ = some (.string y) := by
        have e : ∀ (gg : Nat), gg < W.heap.size → V3.cell? ⟨gg, j, none⟩ = V2.cell? ⟨gg, j, none⟩ := fun gg hg => World.cell?_of_block (a := ⟨gg, j, none⟩) (h6.block _ (Nat.lt_of_lt_of_le hg HX2.out.2.size) (fun e => by have := (World.ownsRow.lt HX2.out.1 gg e.symm).1; omega))
        exact ⟨(e g1 HLT.out.1).trans H3.1, (e g2 HLT.out.2).trans H3.2⟩
      refine hK _ _ (fun _ _ => H4) ?_
      clear hK K h5 h6 hb3 H3 HL hsz
      try simp only [put_list, List.set]
      refine Drawn.only 16 (by kernel_rfl) rfl rfl (fun K hK => ?_)
      try go_simp
      refine hK _ _ (fun _ _ => H4) ?_
      clear hK K
      try simp only [put_list, List.set]
      refine Drawn.done (by kernel_rfl) ?_ _
      clear H4 HS HX2 HY HLT
      go_wp2_with fail
      go_roundw
      case rel => exact ⟨j + 1, by omega, by go_num, H9.out.1, H9.out.2⟩
      case measure => simp [intOf]; omega
    · obtain rfl : j = N := by omega
      have HX := Lib.hid (And.intro h hb)
      clear h hb
      go_wp2_with fail
      go_ret
      refine ⟨_, rfl, ?_, HX.out.2⟩
      have h1 := HX.out.1
      rw [List.take_of_length_le (by rw [grp_len HH.out.2.2.2.1]; have := HH.out.2.2.1; omega)] at h1
      exact h1
end Go.Proofs.YtfcmcccfclaefaaDoor
