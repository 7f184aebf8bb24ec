/- The reference's set: one change more. -/
import Derived.Test.YtginibphicmmmaaJzc
import Derived.Test.YtginibphicmmmaaJt
namespace Go.Proofs.Ytginibphicmmmaa
open Go.RowKit Go.Maps Go.Shelf Mp

theorem infoChange : (Try.prog.info? 71).map (fun i => (i.zero, i.size, i.bytes)) = some (some (.agg #[.int .i64 0, .string ⟨#[]⟩, .int .u64 0, .int .u64 0, .int .u64 0, .int .u64 0, .int .i64 0, .string ⟨#[]⟩, .slice none 0 0, .string ⟨#[]⟩]), 10, 120) := by kernel_rfl
theorem cells10 {V : World} {q : Nat} {c : Cg} {t : Value} {ty : TypeId} (h : V.heap[q]? = some (.cells (chE c t).toArray ty (0, 0))) : ∀ (j : Nat) (u : Value), (chE c t)[j]? = some u → V.cell? ((⟨q, 0, none⟩ : Addr).add j) = some u := by
  intro j u hu
  have e : (⟨q, 0, none⟩ : Addr).add j = ⟨q, j, none⟩ := by unfold Addr.add; by_cases hj : j = 0 <;> simp [hj]
  rw [e, cell_of h j, List.getElem?_toArray, hu]
theorem chE_one (c : Cg) (t : Value) (ht : t.oneCell' = true) : ∀ u ∈ chE c t, u.oneCell' = true := by
  intro u hu
  simp only [chE, List.mem_cons, List.not_mem_nil, or_false] at hu
  rcases hu with rfl | rfl | rfl | rfl | rfl | rfl | rfl | rfl | rfl | rfl <;> first | rfl | exact ht
section
variable {e : Nat} {rv : Value} {ts : List Value} {fx : List (Nat × Obj)} {M : List Cg} {W : World}
theorem RAt.row_ne (h : RAt e rv ts fx M W) : rv.ownBlock ≠ some e := by
  intro he
  rcases h.row.2 with ⟨e1, _⟩ | ⟨g, cap, cur, e1, _, hg, _⟩
  · rw [e1] at he; cases he
  · rw [e1] at he
    cases he
    have h1 := h.cell
    rw [hg] at h1
    injection h1 with h1
    injection h1 with _ h1 _
    exact absurd h1 (by decide)
theorem RAt.snoc {V1 V2 : World} {c : Cg} {t : Value} {T : List (Nat × Obj)} {g cap : Nat} (h : RAt e rv ts fx M W) (b0 : Below W.heap.size W V1) (hT : ∀ p ∈ T, V1.heap[p.1]? = some p.2 ∧ W.heap.size ≤ p.1) (ht : TopAt T t c.lg.tops)
    (r : V2.ownsRow 0 71 10 (.slice (some ⟨g, 0, none⟩) (M.length + 1) cap) (M.length + 1) (chCells M ts ++ chE c t)) (gr : V1.grownBy V2 rv.ownBlock) (hg : rv.ownBlock = some g ∨ g = V1.heap.size) :
    RAt e (.slice (some ⟨g, 0, none⟩) (M.length + 1) cap) (ts ++ [t]) (T ++ fx) (M ++ [c]) (V2.setCell ⟨e, 0, none⟩ (.slice (some ⟨g, 0, none⟩) (M.length + 1) cap)) ∧
    Chg (rF e rv fx) (rF e (.slice (some ⟨g, 0, none⟩) (M.length + 1) cap) (T ++ fx)) W (V2.setCell ⟨e, 0, none⟩ (.slice (some ⟨g, 0, none⟩) (M.length + 1) cap)) := by
  have hs := b0.size
  have hee := lt_of h.cell
  have hrl : ∀ k, rv.ownBlock = some k → k < W.heap.size := fun k hk => (World.ownsRow.lt h.row k hk).2
  have hge : g ≠ e := by
    rcases hg with e1 | e1
    · exact fun e2 => h.row_ne (e2 ▸ e1)
    · omega
  have k2 : ∀ p o, V1.heap[p]? = some o → rv.ownBlock ≠ some p → V2.heap[p]? = some o := fun p o hp hn => (gr.block p (lt_of hp) (fun e => hn e.symm)).trans hp
  have ke : V2.heap[e]? = some (.cells #[rv] 29 (0, 0)) := k2 e _ ((b0.block e hee).trans h.cell) h.row_ne
  have kT : ∀ p ∈ T ++ fx, V2.heap[p.1]? = some p.2 ∧ p.1 ≠ e ∧ p.1 ≠ g := by
    intro p hp
    rcases List.mem_append.1 hp with hp | hp
    · obtain ⟨h1, h2⟩ := hT p hp
      refine ⟨k2 _ _ h1 fun e1 => ?_, by omega, ?_⟩
      · have := hrl _ e1; omega
      · rcases hg with e1 | e1
        · have := hrl _ e1; omega
        · have := lt_of h1; omega
    · obtain ⟨h1, h2, h3⟩ := h.fix p hp
      have h4 := lt_of h1
      refine ⟨k2 _ _ ((b0.block _ h4).trans h1) h3, h2, ?_⟩
      rcases hg with e1 | e1
      · exact fun e2 => h3 (e2 ▸ e1)
      · omega
  have hC : Chg (rF e rv fx) (rF e rv fx) W V2 := (Chg.of_below b0).trans ((chg_grown (F := rF e rv fx) gr fun k hk => Or.inr (Or.inl hk)))
  have hC2 := chg_set hC (q := e) (Or.inl (Or.inl rfl)) 0 (.slice (some ⟨g, 0, none⟩) (M.length + 1) cap)
  refine ⟨⟨?_, own_keep (by rw [chCells_snoc h.tops.len, List.length_append]; exact r) fun k hk => heap_setCell_other _ _ _ _ ?_, RTops.snoc (ht.more fun z hz => List.mem_append_left _ hz) (h.tops.more fun z hz => List.mem_append_right _ hz), fun p hp => ⟨(heap_setCell_other _ _ _ _ (by simpa using (kT p hp).2.1)).trans (kT p hp).1, (kT p hp).2.1, fun e1 => (kT p hp).2.2 (by cases e1; rfl)⟩⟩, ⟨hC2.os, hC2.tape, hC2.output, hC2.size, hC2.block, fun k hk => ?_⟩⟩
  · have h2 := heap_setCell_same _ _ 0 _ _ (.slice (some ⟨g, 0, none⟩) (M.length + 1) cap) ke
    simpa [setC] using h2
  · cases hk; simpa using hge
  · rcases hk with rfl | hk | ⟨o, ho⟩
    · exact Or.inl (Or.inl rfl)
    · have hk : g = k := by cases hk; rfl
      subst hk
      exact hg.imp (fun e1 => Or.inr (Or.inl e1)) fun e1 => by omega
    · rcases List.mem_append.1 ho with ho | ho
      · exact Or.inr (hT _ ho).2
      · exact Or.inl (Or.inr (Or.inr ⟨o, ho⟩))
/-- What a call leaves of the reference. -/
def RStep (e : Nat) (rv : Value) (fx : List (Nat × Obj)) (M' : List Cg) (W W' : World) : Prop := ∃ rv' ts' fx', RAt e rv' ts' fx' M' W' ∧ Chg (rF e rv fx) (rF e rv' fx') W W'
theorem RAt.keptE (h : RAt e rv ts fx M W) {V1 V2 : World} (b : Below W.heap.size W V1) (g : V1.grownBy V2 rv.ownBlock) : V2.heap[e]? = some (.cells #[rv] 29 (0, 0)) :=
  have h1 := (b.block e (lt_of h.cell)).trans h.cell
  (g.block e (lt_of h1) fun e1 => h.row_ne e1.symm).trans h1
theorem RAt.rowB (h : RAt e rv ts fx M W) {V1 : World} (b : Below W.heap.size W V1) : V1.ownsRow 0 71 10 rv M.length (chCells M ts) := own_keep h.row fun k hk => b.block k (World.ownsRow.lt h.row k hk).2
theorem below_new (W : World) (o : Obj) : Below W.heap.size W (W.alloc o) := (Below.refl _ W).alloc (Nat.le_refl _) _
theorem rmax {m : Nat} (h : m < 1000000) : m + 1 ≤ maxLen := by unfold maxLen; omega
theorem rbytes {m : Nat} (h : m < 1000000) : (m + 1) * 120 ≤ 140737488355328 := by omega
set_option maxRecDepth 100000 in
set_option maxHeartbeats 8000000 in
theorem rrefund_c (h : RAt e rv ts fx M W) (hM : M.length < 1000000) (n : Int) :
    Calls Try.prog 34 #[ptr e, .int .i64 n] W fun r W' => r = .returned (.tuple #[]) ∧ RStep e rv fx (M ++ [.refund n]) W W' := by
  obtain ⟨ra, rc, hrv⟩ := own_any h.row
  obtain ⟨nM, hnM⟩ : ∃ nM, nM = M.length := ⟨_, rfl⟩
  rw [← hnM] at hrv
  subst hrv
  have HH := Lib.hid (And.intro h (And.intro hM hnM))
  clear h hM hnM
  obtain ⟨i0, hi, hz0, hz1, hz2⟩ := info_parts infoChange
  have HI := Lib.hid (And.intro hi (And.intro hz0 (And.intro hz1 hz2)))
  clear hi hz0 hz1 hz2
  unfold ptr
  go_enter Try.func34, Try.ntmps34
  have d0 := cell_of HH.out.1.cell 0
  simp only [List.getElem?_toArray, List.getElem?_cons_zero] at d0
  go_wp2_with (at_builtin; go_loud (refine wpList_append_lies _ (by rfl) _ _ 27 (by rfl) 0 71 i0 _ 10 120 Try.underlying27 HI.out.1 HI.out.2.1 HI.out.2.2.1 HI.out.2.2.2 rfl (by omega) (.slice ra nM rc) M.length (chCells M ts) (by rfl) (HH.out.1.rowB (below_new W _)) ⟨W.heap.size, 0, none⟩ 1 1 (chE (.refund n) (.slice none 0 0)) (by rfl) rfl (cells10 (heap_alloc_new W _)) (chE_one _ _ rfl) (by omega) (rmax HH.out.2.1) (rbytes HH.out.2.1) (Nat.zero_le _) _ rfl ?_; intro g cap V2 r2 g2 l2 m2; have S1 := HH.out.1.keptE (below_new W _) g2; have d1 := cell_of S1 0; have d2 := free_of S1 0; have HG := Lib.hid (And.intro r2 (And.intro g2 l2)); clear r2 g2 l2 m2 d0 S1))
  go_end0
  have F := HH.out.1.snoc (c := .refund n) (t := .slice none 0 0) (T := []) (below_new W _) (fun _ h => by cases h) (Or.inl ⟨rfl, rfl⟩) HG.out.1 HG.out.2.1 HG.out.2.2
  exact ⟨rfl, _, _, _, F.1, F.2⟩
end
end Go.Proofs.Ytginibphicmmmaa
