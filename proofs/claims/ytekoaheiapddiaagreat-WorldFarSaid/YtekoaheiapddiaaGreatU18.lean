/- Merged: Vf. -/
import Derived.Test.YtekoaheiapddiaaGreatU17
section
namespace Go.Proofs.YtekoaheiapddiaaGreat
open Go.RowKit

theorem Drawn.cut {P : Program} {md : Region.Mode} {ops : Array Oper} {Q : Exit → Act → World → Prop} {S : World → Prop} {ex : Nat → Bool} {n : Nat} {done : Array Bool} {a : Act} {w : World} (F : Act → World → Prop)
    (h1 : (∀ a' w', F a' w' → Q .normal a' w') → Drawn P md ops Q S ex n done a w) (h2 : ∀ a' w', F a' w' → Q .normal a' w') : Drawn P md ops Q S ex n done a w := h1 h2
theorem cells6 {w : World} {b : Nat} {v0 v1 v2 v3 v4 v5 : Value} {t : TypeId} (h : w.heap[b]? = some (.cells #[v0, v1, v2, v3, v4, v5] t (0, 0))) :
    (w.cell? ⟨b, 0, none⟩ = some v0 ∧ w.cell? ⟨b, 1, none⟩ = some v1 ∧ w.cell? ⟨b, 2, none⟩ = some v2 ∧ w.cell? ⟨b, 3, none⟩ = some v3 ∧ w.cell? ⟨b, 4, none⟩ = some v4 ∧ w.cell? ⟨b, 5, none⟩ = some v5) ∧
    (w.frozen? ⟨b, 0, none⟩ = false ∧ w.frozen? ⟨b, 1, none⟩ = false ∧ w.frozen? ⟨b, 2, none⟩ = false ∧ w.frozen? ⟨b, 3, none⟩ = false ∧ w.frozen? ⟨b, 4, none⟩ = false ∧ w.frozen? ⟨b, 5, none⟩ = false) :=
  ⟨⟨cell_of h 0, cell_of h 1, cell_of h 2, cell_of h 3, cell_of h 4, cell_of h 5⟩, free_of h 0, free_of h 1, free_of h 2, free_of h 3, free_of h 4, free_of h 5⟩
def replyCells (r : ReplyP) : Array Value := #[.int .u64 r.id, .int .u64 r.nonce, .int .u64 (l3 r.bal : Nat), .int .u64 (l2 r.bal : Nat), .int .u64 (l1 r.bal : Nat), .int .u64 (l0 r.bal : Nat), .string (str r.code), .int .u64 (l3 r.value : Nat), .int .u64 (l2 r.value : Nat), .int .u64 (l1 r.value : Nat), .int .u64 (l0 r.value : Nat)]
/-- A reply's box. -/
def RepB (w : World) (r : ReplyP) (V : World) : Prop := Below w.heap.size w V ∧ V.heap[w.heap.size]? = some (.cells (replyCells r) 119 (0, 0))
/-- A block of the call's own behind it. -/
def Bk (w : World) (b : Nat) (cs : Array Value) (t : TypeId) (V : World) : Prop := w.heap.size < b ∧ V.heap[b]? = some (.cells cs t (0, 0))
section
variable {w V V' : World} {r : ReplyP} {b b' : Nat} {cs cs' : Array Value} {t : TypeId}
theorem RepB.cells (h : RepB w r V) : V.cell? ⟨w.heap.size, 0, none⟩ = some (.int .u64 r.id) ∧ V.cell? ⟨w.heap.size, 1, none⟩ = some (.int .u64 r.nonce) ∧ V.cell? ⟨w.heap.size, 2, none⟩ = some (.int .u64 (l3 r.bal : Nat)) ∧ V.cell? ⟨w.heap.size, 3, none⟩ = some (.int .u64 (l2 r.bal : Nat)) ∧ V.cell? ⟨w.heap.size, 4, none⟩ = some (.int .u64 (l1 r.bal : Nat)) ∧ V.cell? ⟨w.heap.size, 5, none⟩ = some (.int .u64 (l0 r.bal : Nat)) ∧ V.cell? ⟨w.heap.size, 6, none⟩ = some (.string (str r.code)) ∧ V.cell? ⟨w.heap.size, 7, none⟩ = some (.int .u64 (l3 r.value : Nat)) ∧ V.cell? ⟨w.heap.size, 8, none⟩ = some (.int .u64 (l2 r.value : Nat)) ∧ V.cell? ⟨w.heap.size, 9, none⟩ = some (.int .u64 (l1 r.value : Nat)) ∧ V.cell? ⟨w.heap.size, 10, none⟩ = some (.int .u64 (l0 r.value : Nat)) :=
  ⟨cell_of h.2 0, cell_of h.2 1, cell_of h.2 2, cell_of h.2 3, cell_of h.2 4, cell_of h.2 5, cell_of h.2 6, cell_of h.2 7, cell_of h.2 8, cell_of h.2 9, cell_of h.2 10⟩
theorem RepB.call (h : RepB w r V) (hb : Below V.heap.size V V') : RepB w r V' := ⟨h.1.trans (hb.mono h.1.size), (hb.block _ (lt_of h.2)).trans h.2⟩
theorem RepB.start (w : World) (r : ReplyP) : RepB w r (w.alloc (.cells (replyCells r) 119)) := ⟨(Below.refl _ _).alloc (Nat.le_refl _) _, heap_alloc_new _ _⟩
/-- All of it, behind the first region. -/
def RepS (w : World) (r : ReplyP) (b5 b6 : Nat) (V : World) : Prop := RepB w r V ∧ Bk w b5 #[.bool false, .string (str (num r.id)), .slice none 0 0] 198 V ∧ Bk w b6 #[.int .u64 r.nonce, .int .u64 (l3 r.bal : Nat), .int .u64 (l2 r.bal : Nat), .int .u64 (l1 r.bal : Nat), .int .u64 (l0 r.bal : Nat), .string (str r.code)] 82 V
theorem RepS.reads {b5 b6 : Nat} (h : RepS w r b5 b6 V) : (V.cell? ⟨w.heap.size, 7, none⟩ = some (.int .u64 (l3 r.value : Nat)) ∧ V.cell? ⟨w.heap.size, 8, none⟩ = some (.int .u64 (l2 r.value : Nat)) ∧ V.cell? ⟨w.heap.size, 9, none⟩ = some (.int .u64 (l1 r.value : Nat)) ∧ V.cell? ⟨w.heap.size, 10, none⟩ = some (.int .u64 (l0 r.value : Nat))) ∧
    (V.cell? ⟨b5, 0, none⟩ = some (.bool false) ∧ V.cell? ⟨b5, 1, none⟩ = some (.string (str (num r.id))) ∧ V.cell? ⟨b5, 2, none⟩ = some (.slice none 0 0)) ∧
    (V.cell? ⟨b6, 0, none⟩ = some (.int .u64 r.nonce) ∧ V.cell? ⟨b6, 1, none⟩ = some (.int .u64 (l3 r.bal : Nat)) ∧ V.cell? ⟨b6, 2, none⟩ = some (.int .u64 (l2 r.bal : Nat)) ∧ V.cell? ⟨b6, 3, none⟩ = some (.int .u64 (l1 r.bal : Nat)) ∧ V.cell? ⟨b6, 4, none⟩ = some (.int .u64 (l0 r.bal : Nat)) ∧ V.cell? ⟨b6, 5, none⟩ = some (.string (str r.code))) :=
  ⟨⟨cell_of h.1.2 7, cell_of h.1.2 8, cell_of h.1.2 9, cell_of h.1.2 10⟩, (cells3 h.2.1.2).1, (cells6 h.2.2.2).1⟩
theorem bel_alloc (V : World) (o : Obj) : Below V.heap.size V (V.alloc o) := (Below.refl _ _).alloc (Nat.le_refl _) _
theorem RepB.set (h : RepB w r V) (hb : w.heap.size < b) (j : Nat) (u : Value) : RepB w r (V.setCell ⟨b, j, none⟩ u) := ⟨h.1.setCell (p := ⟨b, j, none⟩) (Nat.le_of_lt hb) _, (heap_setCell_other _ _ _ _ (by simp; omega)).trans h.2⟩
theorem Bk.call (h : Bk w b cs t V) (hb : Below V.heap.size V V') : Bk w b cs t V' := ⟨h.1, (hb.block _ (lt_of h.2)).trans h.2⟩
theorem Bk.new (h : RepB w r V) (cs : Array Value) (t : TypeId) : Bk w V.heap.size cs t (V.alloc (.cells cs t)) := ⟨lt_of h.2, heap_alloc_new _ _⟩
theorem Bk.other (h : Bk w b cs t V) (hn : b ≠ b') (j : Nat) (u : Value) : Bk w b cs t (V.setCell ⟨b', j, none⟩ u) := ⟨h.1, (heap_setCell_other _ _ _ _ (by simpa using hn)).trans h.2⟩
theorem Bk.set (h : Bk w b cs t V) (j : Nat) (u : Value) (hc : cs.setIfInBounds j u = cs') : Bk w b cs' t (V.setCell ⟨b, j, none⟩ u) := ⟨h.1, by rw [← hc]; exact heap_setCell_same _ _ _ _ _ _ h.2⟩
theorem RepS.call {b5 b6 : Nat} (h : RepS w r b5 b6 V) (hb : Below V.heap.size V V') : RepS w r b5 b6 V' := ⟨h.1.call hb, h.2.1.call hb, h.2.2.call hb⟩
theorem Bk.ne (h : Bk w b cs t V) : b ≠ V.heap.size := Nat.ne_of_lt (lt_of h.2)
end
theorem eq_acc {bal : Nat} (hb : bal < W256) (nonce : Nat) (code : List UInt8) (w : World) : (binOp .eql 82 (.agg #[.int .u64 nonce, .int .u64 (l3 bal : Nat), .int .u64 (l2 bal : Nat), .int .u64 (l1 bal : Nat), .int .u64 (l0 bal : Nat), .string (str code)]) (.agg #[.int .u64 0, .int .u64 0, .int .u64 0, .int .u64 0, .int .u64 0, .string ⟨#[]⟩])).run Tryz.prog w = .ok (.bool (decide (nonce = 0 ∧ bal = 0 ∧ code = []))) w := by
  have u3 := Tryz.underlying41
  have a3' := Tryz.isAgg41
  have z3 := Tryz.sizeOf41
  have u9 := Tryz.underlying9
  have a9 := Tryz.isAgg9
  have z9 := Tryz.sizeOf9
  have uW := Tryz.underlying61
  have aW := Tryz.isAgg61
  have zW := Tryz.sizeOf61
  have hS : Tryz.prog.underlying 82 = some (.struct (Tryz.prog.fieldsOf 82)) := by kernel_rfl
  have hp : Tryz.prog.stoodInHeld 82 = false := by kernel_rfl
  have hSW : Tryz.prog.underlying 61 = some (.struct (Tryz.prog.fieldsOf 61)) := by kernel_rfl
  have hpW : Tryz.prog.stoodInHeld 61 = false := by kernel_rfl
  rw [run_eql_struct, show (10000 : Nat) = 9999 + 1 from rfl, run_equalIn_agg w 9999 82 _ _ hS hp]
  simp only [Program.fieldsOf, Tryz.underlying82]
  go_simp
  have hc : (str code).toList = [] ↔ code = [] := by rw [ByteArray.toList_eq]; simp [str]
  by_cases h : nonce = 0 ∧ bal = 0 ∧ code = []
  · obtain ⟨rfl, rfl, rfl⟩ := h
    simp [lim_zero, hc.2 rfl]
  · have hf : (decide (nonce = 0) && (decide (bal = 0) && decide (code = []))) = false := by simp only [Bool.and_eq_false_iff, decide_eq_false_iff_not]; by_cases q1 : nonce = 0; by_cases q2 : bal = 0; exact Or.inr (Or.inr (fun q3 => h ⟨q1, q2, q3⟩)); exact Or.inr (Or.inl q2); exact Or.inl q1
    rw [hf]
    by_cases q1 : nonce = 0
    · by_cases q3 : code = []
      · have q2 : ¬ bal = 0 := fun q2 => h ⟨q1, q2, q3⟩
        by_cases p3 : l3 bal = 0 <;> by_cases p2 : l2 bal = 0 <;> by_cases p1 : l1 bal = 0 <;> by_cases p0 : l0 bal = 0 <;> simp [q1, p3, p2, p1, p0]
        exact absurd (lim_nil hb p0 p1 p2 p3) q2
      · have q4 : ¬ (str code).toList = [] := fun q => q3 (hc.1 q)
        simp only [q4, if_false]
        repeat' split
        all_goals rfl
    · rw [if_neg q1]
/-- What PutReply answers. -/
def putReplyV (kind : Int) (r : ReplyP) : Value := .tuple #[.string (str (if r.Ok kind then r.enc kind else [])), .bool (decide (r.Ok kind))]
theorem putReplyV_no {kind : Int} {r : ReplyP} (h : ¬ r.Ok kind) : putReplyV kind r = .tuple #[.string ⟨#[]⟩, .bool false] := by unfold putReplyV; rw [if_neg h]; simp [h]; rfl
theorem putReplyV_ok {kind : Int} {r : ReplyP} (h : r.Ok kind) : putReplyV kind r = .tuple #[.string (str (r.enc kind)), .bool true] := by unfold putReplyV; rw [if_pos h]; simp [h]
set_option maxRecDepth 100000 in
set_option maxHeartbeats 4000000 in
theorem putReply_c (kind : Int) {r : ReplyP} (hw : r.Wf) (w : World) : Calls Tryz.prog 154 #[.int .i64 kind, replyV r] w fun e w' => e = .returned (putReplyV kind r) ∧ Below w.heap.size w w' := by
  have K0 := Lib.hid (RepB.start w r)
  have HC := Lib.hid (fun W => number_c r.id hw.id W)
  unfold textV at HC
  have HW := Lib.hid hw
  clear hw
  unfold replyV
  go_enter Tryz.func154, Tryz.ntmps154
  go_wp2_with fail
  have H0 : RepB w r (w.alloc (.cells (replyCells r) 119)).drew := K0.out.call (Below.refl _ _).drew
  have HS := Lib.hid (fun (V : World) (hV : RepB w r V) => hV.cells)
  clear K0
  refine Drawn.start (fun V => RepB w r V) (fun _ => false) (by kernel_rfl) ?_
  refine Drawn.take 0 (some 8) (v := ?_) rfl rfl (by kernel_rfl) (by kernel_rfl) (by kernel_rfl) (by kernel_rfl) (by kernel_rfl) rfl (fun _ _ _ h => h) (Or.inl ⟨rfl, ?_⟩) H0 ?_
  rotate_left
  · intro W hW; have hW := HS.out W hW; go_simp; try with_reducible rfl
  simp only [put_list, List.set]
  refine Drawn.take 1 (some 9) (v := ?_) rfl rfl (by kernel_rfl) (by kernel_rfl) (by kernel_rfl) (by kernel_rfl) (by kernel_rfl) rfl (fun _ _ _ h => h) (Or.inl ⟨rfl, ?_⟩) H0 ?_
  rotate_left
  · intro W hW; have hW := HS.out W hW; go_simp; try with_reducible rfl
  simp only [put_list, List.set]
  refine Drawn.take 3 (some 11) (v := ?_) rfl rfl (by kernel_rfl) (by kernel_rfl) (by kernel_rfl) (by kernel_rfl) (by kernel_rfl) rfl (fun _ _ _ h => h) (Or.inl ⟨rfl, ?_⟩) H0 ?_
  rotate_left
  · intro W hW; have hW := HS.out W hW; go_simp; try with_reducible rfl
  simp only [put_list, List.set]
  refine Drawn.take 4 (some 12) (v := ?_) rfl rfl (by kernel_rfl) (by kernel_rfl) (by kernel_rfl) (by kernel_rfl) (by kernel_rfl) rfl (fun _ _ _ h => h) (Or.inl ⟨rfl, ?_⟩) H0 ?_
  rotate_left
  · intro W hW; have hW := HS.out W hW; go_simp; try with_reducible rfl
  simp only [put_list, List.set]
  unfold replyCells at H0
  generalize World.drew _ = V0 at H0 ⊢
  refine Drawn.cut (fun a V => ∃ b5 b6, a = ⟨((#[.int .i64 kind, (.agg #[.int .u64 r.id, .int .u64 r.nonce, .int .u64 (l3 r.bal : Nat), .int .u64 (l2 r.bal : Nat), .int .u64 (l1 r.bal : Nat), .int .u64 (l0 r.bal : Nat), .string (str r.code), .int .u64 (l3 r.value : Nat), .int .u64 (l2 r.value : Nat), .int .u64 (l1 r.value : Nat), .int .u64 (l0 r.value : Nat)]), undef, .pointer (some ⟨w.heap.size, 0, none⟩), .string ⟨#[]⟩, .bool false, .pointer (some ⟨b5, 0, none⟩), .pointer (some ⟨b6, 0, none⟩), .pointer (some ⟨w.heap.size, 0, none⟩), .int .u64 r.id, .agg #[.bool false, .string (str (num r.id)), .slice none 0 0], .pointer (some ⟨w.heap.size, 1, none⟩), .agg #[.int .u64 r.nonce, .int .u64 (l3 r.bal : Nat), .int .u64 (l2 r.bal : Nat), .int .u64 (l1 r.bal : Nat), .int .u64 (l0 r.bal : Nat), .string (str r.code)]] : Array Value).toList ++ List.replicate 43 undef).toArray, []⟩ ∧ RepB w r V ∧ Bk w b5 #[.bool false, .string (str (num r.id)), .slice none 0 0] 198 V ∧ Bk w b6 #[.int .u64 r.nonce, .int .u64 (l3 r.bal : Nat), .int .u64 (l2 r.bal : Nat), .int .u64 (l1 r.bal : Nat), .int .u64 (l0 r.bal : Nat), .string (str r.code)] 82 V ∧ b5 ≠ b6) (fun HL => ?_) ?_
  · clear HS
    refine Drawn.among [2, 5, 6] (by kernel_rfl) (by decide) ?_
    intro i hi
    simp only [List.mem_cons, List.not_mem_nil, or_false] at hi
    rcases hi with rfl | rfl | rfl
    · refine ⟨_, rfl, rfl, fun K hK => ?_⟩
      go_simp
      refine (HC.out _).mono ?_
      rintro e V1 ⟨rfl, hb⟩
      refine hK _ _ (fun _ _ => H0.call hb) ?_
      clear hK K
      replace H0 := H0.call hb
      clear hb
      try simp only [put_list, List.set]
      refine Drawn.among [5, 6] (by kernel_rfl) (by decide) ?_
      intro i hi
      simp only [List.mem_cons, List.not_mem_nil, or_false] at hi
      rcases hi with rfl | rfl
      · refine ⟨_, rfl, rfl, fun K hK => ?_⟩
        go_simp
        refine hK _ _ (fun _ _ => H0.call (bel_alloc _ _)) ?_
        clear hK K
        have h5 := Bk.new H0 #[.bool false, .string ⟨#[]⟩, .slice none 0 0] 198
        replace H0 := H0.call (bel_alloc _ (.cells #[.bool false, .string ⟨#[]⟩, .slice none 0 0] 198))
        generalize World.alloc _ _ = V2 at H0 h5  ⊢
        skip
        try simp only [put_list, List.set]
        refine Drawn.only 6 (by kernel_rfl) rfl rfl (fun K hK => ?_)
        go_simp
        refine hK _ _ (fun _ _ => H0.call (bel_alloc _ _)) ?_
        clear hK K
        have h6 := Bk.new H0 #[.int .u64 0, .int .u64 0, .int .u64 0, .int .u64 0, .int .u64 0, .string ⟨#[]⟩] 82
        have hne := h5.ne
        replace h5 := h5.call (bel_alloc _ (.cells #[.int .u64 0, .int .u64 0, .int .u64 0, .int .u64 0, .int .u64 0, .string ⟨#[]⟩] 82))
        replace H0 := H0.call (bel_alloc _ (.cells #[.int .u64 0, .int .u64 0, .int .u64 0, .int .u64 0, .int .u64 0, .string ⟨#[]⟩] 82))
        generalize World.alloc _ _ = V3 at H0 h6 h5 ⊢
        skip
        try simp only [put_list, List.set]
        refine Drawn.only 7 (by kernel_rfl) rfl rfl (fun K hK => ?_)
        obtain ⟨⟨c0, c1, c2⟩, z0, z1, z2⟩ := cells3 h5.2
        go_simp
        clear c0 c1 c2 z0 z1 z2
        refine hK _ _ (fun _ _ => (((H0.set h5.1 0 _).set h5.1 1 _).set h5.1 2 _)) ?_
        clear hK K
        replace h6 := (((h6.other hne.symm 0 (.bool false)).other hne.symm 1 (.string (str (num r.id)))).other hne.symm 2 (.slice none 0 0))
        replace H0 := (((H0.set h5.1 0 (.bool false)).set h5.1 1 (.string (str (num r.id)))).set h5.1 2 (.slice none 0 0))
        replace h5 := (((h5.set 0 (.bool false) rfl).set 1 (.string (str (num r.id))) rfl).set 2 (.slice none 0 0) rfl)
        generalize (((V3.setCell ⟨V1.heap.size, 0, none⟩ (.bool false)).setCell ⟨V1.heap.size, 1, none⟩ (.string (str (num r.id)))).setCell ⟨V1.heap.size, 2, none⟩ (.slice none 0 0)) = V4 at H0 h5 h6 ⊢
        try simp only [put_list, List.set]
        refine Drawn.only 8 (by kernel_rfl) rfl rfl (fun K hK => ?_)
        obtain ⟨⟨c0, c1, c2, c3, c4, c5⟩, z0, z1, z2, z3, z4, z5⟩ := cells6 h6.2
        go_simp
        clear c0 c1 c2 c3 c4 c5 z0 z1 z2 z3 z4 z5
        refine hK _ _ (fun _ _ => ((((((H0.set h6.1 0 _).set h6.1 1 _).set h6.1 2 _).set h6.1 3 _).set h6.1 4 _).set h6.1 5 _)) ?_
        clear hK K
        replace h5 := ((((((h5.other hne 0 (.int .u64 r.nonce)).other hne 1 (.int .u64 (l3 r.bal : Nat))).other hne 2 (.int .u64 (l2 r.bal : Nat))).other hne 3 (.int .u64 (l1 r.bal : Nat))).other hne 4 (.int .u64 (l0 r.bal : Nat))).other hne 5 (.string (str r.code)))
        replace H0 := ((((((H0.set h6.1 0 (.int .u64 r.nonce)).set h6.1 1 (.int .u64 (l3 r.bal : Nat))).set h6.1 2 (.int .u64 (l2 r.bal : Nat))).set h6.1 3 (.int .u64 (l1 r.bal : Nat))).set h6.1 4 (.int .u64 (l0 r.bal : Nat))).set h6.1 5 (.string (str r.code)))
        replace h6 := ((((((h6.set 0 (.int .u64 r.nonce) rfl).set 1 (.int .u64 (l3 r.bal : Nat)) rfl).set 2 (.int .u64 (l2 r.bal : Nat)) rfl).set 3 (.int .u64 (l1 r.bal : Nat)) rfl).set 4 (.int .u64 (l0 r.bal : Nat)) rfl).set 5 (.string (str r.code)) rfl)
        generalize ((((((V4.setCell ⟨V2.heap.size, 0, none⟩ (.int .u64 r.nonce)).setCell ⟨V2.heap.size, 1, none⟩ (.int .u64 (l3 r.bal : Nat))).setCell ⟨V2.heap.size, 2, none⟩ (.int .u64 (l2 r.bal : Nat))).setCell ⟨V2.heap.size, 3, none⟩ (.int .u64 (l1 r.bal : Nat))).setCell ⟨V2.heap.size, 4, none⟩ (.int .u64 (l0 r.bal : Nat))).setCell ⟨V2.heap.size, 5, none⟩ (.string (str r.code))) = V5 at H0 h5 h6 ⊢
        try simp only [put_list, List.set]
        refine Drawn.done (by kernel_rfl) ?_ _
        exact HL _ _ ⟨_, _, rfl, H0, h5, h6, hne⟩
      · refine ⟨_, rfl, rfl, fun K hK => ?_⟩
        go_simp
        refine hK _ _ (fun _ _ => H0.call (bel_alloc _ _)) ?_
        clear hK K
        have h6 := Bk.new H0 #[.int .u64 0, .int .u64 0, .int .u64 0, .int .u64 0, .int .u64 0, .string ⟨#[]⟩] 82
        replace H0 := H0.call (bel_alloc _ (.cells #[.int .u64 0, .int .u64 0, .int .u64 0, .int .u64 0, .int .u64 0, .string ⟨#[]⟩] 82))
        generalize World.alloc _ _ = V6 at H0 h6  ⊢
        skip
        try simp only [put_list, List.set]
        refine Drawn.only 5 (by kernel_rfl) rfl rfl (fun K hK => ?_)
        go_simp
        refine hK _ _ (fun _ _ => H0.call (bel_alloc _ _)) ?_
        clear hK K
        have h5 := Bk.new H0 #[.bool false, .string ⟨#[]⟩, .slice none 0 0] 198
        have hne := h6.ne.symm
        replace h6 := h6.call (bel_alloc _ (.cells #[.bool false, .string ⟨#[]⟩, .slice none 0 0] 198))
        replace H0 := H0.call (bel_alloc _ (.cells #[.bool false, .string ⟨#[]⟩, .slice none 0 0] 198))
        generalize World.alloc _ _ = V7 at H0 h5 h6 ⊢
        skip
        try simp only [put_list, List.set]
        refine Drawn.only 7 (by kernel_rfl) rfl rfl (fun K hK => ?_)
        obtain ⟨⟨c0, c1, c2⟩, z0, z1, z2⟩ := cells3 h5.2
        go_simp
        clear c0 c1 c2 z0 z1 z2
        refine hK _ _ (fun _ _ => (((H0.set h5.1 0 _).set h5.1 1 _).set h5.1 2 _)) ?_
        clear hK K
        replace h6 := (((h6.other hne.symm 0 (.bool false)).other hne.symm 1 (.string (str (num r.id)))).other hne.symm 2 (.slice none 0 0))
        replace H0 := (((H0.set h5.1 0 (.bool false)).set h5.1 1 (.string (str (num r.id)))).set h5.1 2 (.slice none 0 0))
        replace h5 := (((h5.set 0 (.bool false) rfl).set 1 (.string (str (num r.id))) rfl).set 2 (.slice none 0 0) rfl)
        generalize (((V7.setCell ⟨V6.heap.size, 0, none⟩ (.bool false)).setCell ⟨V6.heap.size, 1, none⟩ (.string (str (num r.id)))).setCell ⟨V6.heap.size, 2, none⟩ (.slice none 0 0)) = V8 at H0 h5 h6 ⊢
        try simp only [put_list, List.set]
        refine Drawn.only 8 (by kernel_rfl) rfl rfl (fun K hK => ?_)
        obtain ⟨⟨c0, c1, c2, c3, c4, c5⟩, z0, z1, z2, z3, z4, z5⟩ := cells6 h6.2
        go_simp
        clear c0 c1 c2 c3 c4 c5 z0 z1 z2 z3 z4 z5
        refine hK _ _ (fun _ _ => ((((((H0.set h6.1 0 _).set h6.1 1 _).set h6.1 2 _).set h6.1 3 _).set h6.1 4 _).set h6.1 5 _)) ?_
        clear hK K
        replace h5 := ((((((h5.other hne 0 (.int .u64 r.nonce)).other hne 1 (.int .u64 (l3 r.bal : Nat))).other hne 2 (.int .u64 (l2 r.bal : Nat))).other hne 3 (.int .u64 (l1 r.bal : Nat))).other hne 4 (.int .u64 (l0 r.bal : Nat))).other hne 5 (.string (str r.code)))
        replace H0 := ((((((H0.set h6.1 0 (.int .u64 r.nonce)).set h6.1 1 (.int .u64 (l3 r.bal : Nat))).set h6.1 2 (.int .u64 (l2 r.bal : Nat))).set h6.1 3 (.int .u64 (l1 r.bal : Nat))).set h6.1 4 (.int .u64 (l0 r.bal : Nat))).set h6.1 5 (.string (str r.code)))
        replace h6 := ((((((h6.set 0 (.int .u64 r.nonce) rfl).set 1 (.int .u64 (l3 r.bal : Nat)) rfl).set 2 (.int .u64 (l2 r.bal : Nat)) rfl).set 3 (.int .u64 (l1 r.bal : Nat)) rfl).set 4 (.int .u64 (l0 r.bal : Nat)) rfl).set 5 (.string (str r.code)) rfl)
        generalize ((((((V8.setCell ⟨V1.heap.size, 0, none⟩ (.int .u64 r.nonce)).setCell ⟨V1.heap.size, 1, none⟩ (.int .u64 (l3 r.bal : Nat))).setCell ⟨V1.heap.size, 2, none⟩ (.int .u64 (l2 r.bal : Nat))).setCell ⟨V1.heap.size, 3, none⟩ (.int .u64 (l1 r.bal : Nat))).setCell ⟨V1.heap.size, 4, none⟩ (.int .u64 (l0 r.bal : Nat))).setCell ⟨V1.heap.size, 5, none⟩ (.string (str r.code))) = V9 at H0 h5 h6 ⊢
        try simp only [put_list, List.set]
        refine Drawn.done (by kernel_rfl) ?_ _
        exact HL _ _ ⟨_, _, rfl, H0, h5, h6, hne⟩
    · refine ⟨_, rfl, rfl, fun K hK => ?_⟩
      go_simp
      refine hK _ _ (fun _ _ => H0.call (bel_alloc _ _)) ?_
      clear hK K
      have h5 := Bk.new H0 #[.bool false, .string ⟨#[]⟩, .slice none 0 0] 198
      replace H0 := H0.call (bel_alloc _ (.cells #[.bool false, .string ⟨#[]⟩, .slice none 0 0] 198))
      generalize World.alloc _ _ = V10 at H0 h5  ⊢
      skip
      try simp only [put_list, List.set]
      refine Drawn.among [2, 6] (by kernel_rfl) (by decide) ?_
      intro i hi
      simp only [List.mem_cons, List.not_mem_nil, or_false] at hi
      rcases hi with rfl | rfl
      · refine ⟨_, rfl, rfl, fun K hK => ?_⟩
        go_simp
        refine (HC.out _).mono ?_
        rintro e V11 ⟨rfl, hb⟩
        refine hK _ _ (fun _ _ => H0.call hb) ?_
        clear hK K
        replace h5 := h5.call hb
        replace H0 := H0.call hb
        clear hb
        try simp only [put_list, List.set]
        refine Drawn.only 6 (by kernel_rfl) rfl rfl (fun K hK => ?_)
        go_simp
        refine hK _ _ (fun _ _ => H0.call (bel_alloc _ _)) ?_
        clear hK K
        have h6 := Bk.new H0 #[.int .u64 0, .int .u64 0, .int .u64 0, .int .u64 0, .int .u64 0, .string ⟨#[]⟩] 82
        have hne := h5.ne
        replace h5 := h5.call (bel_alloc _ (.cells #[.int .u64 0, .int .u64 0, .int .u64 0, .int .u64 0, .int .u64 0, .string ⟨#[]⟩] 82))
        replace H0 := H0.call (bel_alloc _ (.cells #[.int .u64 0, .int .u64 0, .int .u64 0, .int .u64 0, .int .u64 0, .string ⟨#[]⟩] 82))
        generalize World.alloc _ _ = V12 at H0 h6 h5 ⊢
        skip
        try simp only [put_list, List.set]
        refine Drawn.only 7 (by kernel_rfl) rfl rfl (fun K hK => ?_)
        obtain ⟨⟨c0, c1, c2⟩, z0, z1, z2⟩ := cells3 h5.2
        go_simp
        clear c0 c1 c2 z0 z1 z2
        refine hK _ _ (fun _ _ => (((H0.set h5.1 0 _).set h5.1 1 _).set h5.1 2 _)) ?_
        clear hK K
        replace h6 := (((h6.other hne.symm 0 (.bool false)).other hne.symm 1 (.string (str (num r.id)))).other hne.symm 2 (.slice none 0 0))
        replace H0 := (((H0.set h5.1 0 (.bool false)).set h5.1 1 (.string (str (num r.id)))).set h5.1 2 (.slice none 0 0))
        replace h5 := (((h5.set 0 (.bool false) rfl).set 1 (.string (str (num r.id))) rfl).set 2 (.slice none 0 0) rfl)
        generalize (((V12.setCell ⟨V0.heap.size, 0, none⟩ (.bool false)).setCell ⟨V0.heap.size, 1, none⟩ (.string (str (num r.id)))).setCell ⟨V0.heap.size, 2, none⟩ (.slice none 0 0)) = V13 at H0 h5 h6 ⊢
        try simp only [put_list, List.set]
        refine Drawn.only 8 (by kernel_rfl) rfl rfl (fun K hK => ?_)
        obtain ⟨⟨c0, c1, c2, c3, c4, c5⟩, z0, z1, z2, z3, z4, z5⟩ := cells6 h6.2
        go_simp
        clear c0 c1 c2 c3 c4 c5 z0 z1 z2 z3 z4 z5
        refine hK _ _ (fun _ _ => ((((((H0.set h6.1 0 _).set h6.1 1 _).set h6.1 2 _).set h6.1 3 _).set h6.1 4 _).set h6.1 5 _)) ?_
        clear hK K
        replace h5 := ((((((h5.other hne 0 (.int .u64 r.nonce)).other hne 1 (.int .u64 (l3 r.bal : Nat))).other hne 2 (.int .u64 (l2 r.bal : Nat))).other hne 3 (.int .u64 (l1 r.bal : Nat))).other hne 4 (.int .u64 (l0 r.bal : Nat))).other hne 5 (.string (str r.code)))
        replace H0 := ((((((H0.set h6.1 0 (.int .u64 r.nonce)).set h6.1 1 (.int .u64 (l3 r.bal : Nat))).set h6.1 2 (.int .u64 (l2 r.bal : Nat))).set h6.1 3 (.int .u64 (l1 r.bal : Nat))).set h6.1 4 (.int .u64 (l0 r.bal : Nat))).set h6.1 5 (.string (str r.code)))
        replace h6 := ((((((h6.set 0 (.int .u64 r.nonce) rfl).set 1 (.int .u64 (l3 r.bal : Nat)) rfl).set 2 (.int .u64 (l2 r.bal : Nat)) rfl).set 3 (.int .u64 (l1 r.bal : Nat)) rfl).set 4 (.int .u64 (l0 r.bal : Nat)) rfl).set 5 (.string (str r.code)) rfl)
        generalize ((((((V13.setCell ⟨V11.heap.size, 0, none⟩ (.int .u64 r.nonce)).setCell ⟨V11.heap.size, 1, none⟩ (.int .u64 (l3 r.bal : Nat))).setCell ⟨V11.heap.size, 2, none⟩ (.int .u64 (l2 r.bal : Nat))).setCell ⟨V11.heap.size, 3, none⟩ (.int .u64 (l1 r.bal : Nat))).setCell ⟨V11.heap.size, 4, none⟩ (.int .u64 (l0 r.bal : Nat))).setCell ⟨V11.heap.size, 5, none⟩ (.string (str r.code))) = V14 at H0 h5 h6 ⊢
        try simp only [put_list, List.set]
        refine Drawn.done (by kernel_rfl) ?_ _
        exact HL _ _ ⟨_, _, rfl, H0, h5, h6, hne⟩
      · refine ⟨_, rfl, rfl, fun K hK => ?_⟩
        go_simp
        refine hK _ _ (fun _ _ => H0.call (bel_alloc _ _)) ?_
        clear hK K
        have h6 := Bk.new H0 #[.int .u64 0, .int .u64 0, .int .u64 0, .int .u64 0, .int .u64 0, .string ⟨#[]⟩] 82
        have hne := h5.ne
        replace h5 := h5.call (bel_alloc _ (.cells #[.int .u64 0, .int .u64 0, .int .u64 0, .int .u64 0, .int .u64 0, .string ⟨#[]⟩] 82))
        replace H0 := H0.call (bel_alloc _ (.cells #[.int .u64 0, .int .u64 0, .int .u64 0, .int .u64 0, .int .u64 0, .string ⟨#[]⟩] 82))
        generalize World.alloc _ _ = V15 at H0 h6 h5 ⊢
        skip
        try simp only [put_list, List.set]
        refine Drawn.only 2 (by kernel_rfl) rfl rfl (fun K hK => ?_)
        go_simp
        refine (HC.out _).mono ?_
        rintro e V16 ⟨rfl, hb⟩
        refine hK _ _ (fun _ _ => H0.call hb) ?_
        clear hK K
        replace h5 := h5.call hb
        replace h6 := h6.call hb
        replace H0 := H0.call hb
        clear hb
        try simp only [put_list, List.set]
        refine Drawn.only 7 (by kernel_rfl) rfl rfl (fun K hK => ?_)
        obtain ⟨⟨c0, c1, c2⟩, z0, z1, z2⟩ := cells3 h5.2
        go_simp
        clear c0 c1 c2 z0 z1 z2
        refine hK _ _ (fun _ _ => (((H0.set h5.1 0 _).set h5.1 1 _).set h5.1 2 _)) ?_
        clear hK K
        replace h6 := (((h6.other hne.symm 0 (.bool false)).other hne.symm 1 (.string (str (num r.id)))).other hne.symm 2 (.slice none 0 0))
        replace H0 := (((H0.set h5.1 0 (.bool false)).set h5.1 1 (.string (str (num r.id)))).set h5.1 2 (.slice none 0 0))
        replace h5 := (((h5.set 0 (.bool false) rfl).set 1 (.string (str (num r.id))) rfl).set 2 (.slice none 0 0) rfl)
        generalize (((V16.setCell ⟨V0.heap.size, 0, none⟩ (.bool false)).setCell ⟨V0.heap.size, 1, none⟩ (.string (str (num r.id)))).setCell ⟨V0.heap.size, 2, none⟩ (.slice none 0 0)) = V17 at H0 h5 h6 ⊢
        try simp only [put_list, List.set]
        refine Drawn.only 8 (by kernel_rfl) rfl rfl (fun K hK => ?_)
        obtain ⟨⟨c0, c1, c2, c3, c4, c5⟩, z0, z1, z2, z3, z4, z5⟩ := cells6 h6.2
        go_simp
        clear c0 c1 c2 c3 c4 c5 z0 z1 z2 z3 z4 z5
        refine hK _ _ (fun _ _ => ((((((H0.set h6.1 0 _).set h6.1 1 _).set h6.1 2 _).set h6.1 3 _).set h6.1 4 _).set h6.1 5 _)) ?_
        clear hK K
        replace h5 := ((((((h5.other hne 0 (.int .u64 r.nonce)).other hne 1 (.int .u64 (l3 r.bal : Nat))).other hne 2 (.int .u64 (l2 r.bal : Nat))).other hne 3 (.int .u64 (l1 r.bal : Nat))).other hne 4 (.int .u64 (l0 r.bal : Nat))).other hne 5 (.string (str r.code)))
        replace H0 := ((((((H0.set h6.1 0 (.int .u64 r.nonce)).set h6.1 1 (.int .u64 (l3 r.bal : Nat))).set h6.1 2 (.int .u64 (l2 r.bal : Nat))).set h6.1 3 (.int .u64 (l1 r.bal : Nat))).set h6.1 4 (.int .u64 (l0 r.bal : Nat))).set h6.1 5 (.string (str r.code)))
        replace h6 := ((((((h6.set 0 (.int .u64 r.nonce) rfl).set 1 (.int .u64 (l3 r.bal : Nat)) rfl).set 2 (.int .u64 (l2 r.bal : Nat)) rfl).set 3 (.int .u64 (l1 r.bal : Nat)) rfl).set 4 (.int .u64 (l0 r.bal : Nat)) rfl).set 5 (.string (str r.code)) rfl)
        generalize ((((((V17.setCell ⟨V10.heap.size, 0, none⟩ (.int .u64 r.nonce)).setCell ⟨V10.heap.size, 1, none⟩ (.int .u64 (l3 r.bal : Nat))).setCell ⟨V10.heap.size, 2, none⟩ (.int .u64 (l2 r.bal : Nat))).setCell ⟨V10.heap.size, 3, none⟩ (.int .u64 (l1 r.bal : Nat))).setCell ⟨V10.heap.size, 4, none⟩ (.int .u64 (l0 r.bal : Nat))).setCell ⟨V10.heap.size, 5, none⟩ (.string (str r.code))) = V18 at H0 h5 h6 ⊢
        try simp only [put_list, List.set]
        refine Drawn.done (by kernel_rfl) ?_ _
        exact HL _ _ ⟨_, _, rfl, H0, h5, h6, hne⟩
    · refine ⟨_, rfl, rfl, fun K hK => ?_⟩
      go_simp
      refine hK _ _ (fun _ _ => H0.call (bel_alloc _ _)) ?_
      clear hK K
      have h6 := Bk.new H0 #[.int .u64 0, .int .u64 0, .int .u64 0, .int .u64 0, .int .u64 0, .string ⟨#[]⟩] 82
      replace H0 := H0.call (bel_alloc _ (.cells #[.int .u64 0, .int .u64 0, .int .u64 0, .int .u64 0, .int .u64 0, .string ⟨#[]⟩] 82))
      generalize World.alloc _ _ = V19 at H0 h6  ⊢
      skip
      try simp only [put_list, List.set]
      refine Drawn.among [2, 5] (by kernel_rfl) (by decide) ?_
      intro i hi
      simp only [List.mem_cons, List.not_mem_nil, or_false] at hi
      rcases hi with rfl | rfl
      · refine ⟨_, rfl, rfl, fun K hK => ?_⟩
        go_simp
        refine (HC.out _).mono ?_
        rintro e V20 ⟨rfl, hb⟩
        refine hK _ _ (fun _ _ => H0.call hb) ?_
        clear hK K
        replace h6 := h6.call hb
        replace H0 := H0.call hb
        clear hb
        try simp only [put_list, List.set]
        refine Drawn.only 5 (by kernel_rfl) rfl rfl (fun K hK => ?_)
        go_simp
        refine hK _ _ (fun _ _ => H0.call (bel_alloc _ _)) ?_
        clear hK K
        have h5 := Bk.new H0 #[.bool false, .string ⟨#[]⟩, .slice none 0 0] 198
        have hne := h6.ne.symm
        replace h6 := h6.call (bel_alloc _ (.cells #[.bool false, .string ⟨#[]⟩, .slice none 0 0] 198))
        replace H0 := H0.call (bel_alloc _ (.cells #[.bool false, .string ⟨#[]⟩, .slice none 0 0] 198))
        generalize World.alloc _ _ = V21 at H0 h5 h6 ⊢
        skip
        try simp only [put_list, List.set]
        refine Drawn.only 7 (by kernel_rfl) rfl rfl (fun K hK => ?_)
        obtain ⟨⟨c0, c1, c2⟩, z0, z1, z2⟩ := cells3 h5.2
        go_simp
        clear c0 c1 c2 z0 z1 z2
        refine hK _ _ (fun _ _ => (((H0.set h5.1 0 _).set h5.1 1 _).set h5.1 2 _)) ?_
        clear hK K
        replace h6 := (((h6.other hne.symm 0 (.bool false)).other hne.symm 1 (.string (str (num r.id)))).other hne.symm 2 (.slice none 0 0))
        replace H0 := (((H0.set h5.1 0 (.bool false)).set h5.1 1 (.string (str (num r.id)))).set h5.1 2 (.slice none 0 0))
        replace h5 := (((h5.set 0 (.bool false) rfl).set 1 (.string (str (num r.id))) rfl).set 2 (.slice none 0 0) rfl)
        generalize (((V21.setCell ⟨V20.heap.size, 0, none⟩ (.bool false)).setCell ⟨V20.heap.size, 1, none⟩ (.string (str (num r.id)))).setCell ⟨V20.heap.size, 2, none⟩ (.slice none 0 0)) = V22 at H0 h5 h6 ⊢
        try simp only [put_list, List.set]
        refine Drawn.only 8 (by kernel_rfl) rfl rfl (fun K hK => ?_)
        obtain ⟨⟨c0, c1, c2, c3, c4, c5⟩, z0, z1, z2, z3, z4, z5⟩ := cells6 h6.2
        go_simp
        clear c0 c1 c2 c3 c4 c5 z0 z1 z2 z3 z4 z5
        refine hK _ _ (fun _ _ => ((((((H0.set h6.1 0 _).set h6.1 1 _).set h6.1 2 _).set h6.1 3 _).set h6.1 4 _).set h6.1 5 _)) ?_
        clear hK K
        replace h5 := ((((((h5.other hne 0 (.int .u64 r.nonce)).other hne 1 (.int .u64 (l3 r.bal : Nat))).other hne 2 (.int .u64 (l2 r.bal : Nat))).other hne 3 (.int .u64 (l1 r.bal : Nat))).other hne 4 (.int .u64 (l0 r.bal : Nat))).other hne 5 (.string (str r.code)))
        replace H0 := ((((((H0.set h6.1 0 (.int .u64 r.nonce)).set h6.1 1 (.int .u64 (l3 r.bal : Nat))).set h6.1 2 (.int .u64 (l2 r.bal : Nat))).set h6.1 3 (.int .u64 (l1 r.bal : Nat))).set h6.1 4 (.int .u64 (l0 r.bal : Nat))).set h6.1 5 (.string (str r.code)))
        replace h6 := ((((((h6.set 0 (.int .u64 r.nonce) rfl).set 1 (.int .u64 (l3 r.bal : Nat)) rfl).set 2 (.int .u64 (l2 r.bal : Nat)) rfl).set 3 (.int .u64 (l1 r.bal : Nat)) rfl).set 4 (.int .u64 (l0 r.bal : Nat)) rfl).set 5 (.string (str r.code)) rfl)
        generalize ((((((V22.setCell ⟨V0.heap.size, 0, none⟩ (.int .u64 r.nonce)).setCell ⟨V0.heap.size, 1, none⟩ (.int .u64 (l3 r.bal : Nat))).setCell ⟨V0.heap.size, 2, none⟩ (.int .u64 (l2 r.bal : Nat))).setCell ⟨V0.heap.size, 3, none⟩ (.int .u64 (l1 r.bal : Nat))).setCell ⟨V0.heap.size, 4, none⟩ (.int .u64 (l0 r.bal : Nat))).setCell ⟨V0.heap.size, 5, none⟩ (.string (str r.code))) = V23 at H0 h5 h6 ⊢
        try simp only [put_list, List.set]
        refine Drawn.done (by kernel_rfl) ?_ _
        exact HL _ _ ⟨_, _, rfl, H0, h5, h6, hne⟩
      · refine ⟨_, rfl, rfl, fun K hK => ?_⟩
        go_simp
        refine hK _ _ (fun _ _ => H0.call (bel_alloc _ _)) ?_
        clear hK K
        have h5 := Bk.new H0 #[.bool false, .string ⟨#[]⟩, .slice none 0 0] 198
        have hne := h6.ne.symm
        replace h6 := h6.call (bel_alloc _ (.cells #[.bool false, .string ⟨#[]⟩, .slice none 0 0] 198))
        replace H0 := H0.call (bel_alloc _ (.cells #[.bool false, .string ⟨#[]⟩, .slice none 0 0] 198))
        generalize World.alloc _ _ = V24 at H0 h5 h6 ⊢
        skip
        try simp only [put_list, List.set]
        refine Drawn.only 2 (by kernel_rfl) rfl rfl (fun K hK => ?_)
        go_simp
        refine (HC.out _).mono ?_
        rintro e V25 ⟨rfl, hb⟩
        refine hK _ _ (fun _ _ => H0.call hb) ?_
        clear hK K
        replace h5 := h5.call hb
        replace h6 := h6.call hb
        replace H0 := H0.call hb
        clear hb
        try simp only [put_list, List.set]
        refine Drawn.only 7 (by kernel_rfl) rfl rfl (fun K hK => ?_)
        obtain ⟨⟨c0, c1, c2⟩, z0, z1, z2⟩ := cells3 h5.2
        go_simp
        clear c0 c1 c2 z0 z1 z2
        refine hK _ _ (fun _ _ => (((H0.set h5.1 0 _).set h5.1 1 _).set h5.1 2 _)) ?_
        clear hK K
        replace h6 := (((h6.other hne.symm 0 (.bool false)).other hne.symm 1 (.string (str (num r.id)))).other hne.symm 2 (.slice none 0 0))
        replace H0 := (((H0.set h5.1 0 (.bool false)).set h5.1 1 (.string (str (num r.id)))).set h5.1 2 (.slice none 0 0))
        replace h5 := (((h5.set 0 (.bool false) rfl).set 1 (.string (str (num r.id))) rfl).set 2 (.slice none 0 0) rfl)
        generalize (((V25.setCell ⟨V19.heap.size, 0, none⟩ (.bool false)).setCell ⟨V19.heap.size, 1, none⟩ (.string (str (num r.id)))).setCell ⟨V19.heap.size, 2, none⟩ (.slice none 0 0)) = V26 at H0 h5 h6 ⊢
        try simp only [put_list, List.set]
        refine Drawn.only 8 (by kernel_rfl) rfl rfl (fun K hK => ?_)
        obtain ⟨⟨c0, c1, c2, c3, c4, c5⟩, z0, z1, z2, z3, z4, z5⟩ := cells6 h6.2
        go_simp
        clear c0 c1 c2 c3 c4 c5 z0 z1 z2 z3 z4 z5
        refine hK _ _ (fun _ _ => ((((((H0.set h6.1 0 _).set h6.1 1 _).set h6.1 2 _).set h6.1 3 _).set h6.1 4 _).set h6.1 5 _)) ?_
        clear hK K
        replace h5 := ((((((h5.other hne 0 (.int .u64 r.nonce)).other hne 1 (.int .u64 (l3 r.bal : Nat))).other hne 2 (.int .u64 (l2 r.bal : Nat))).other hne 3 (.int .u64 (l1 r.bal : Nat))).other hne 4 (.int .u64 (l0 r.bal : Nat))).other hne 5 (.string (str r.code)))
        replace H0 := ((((((H0.set h6.1 0 (.int .u64 r.nonce)).set h6.1 1 (.int .u64 (l3 r.bal : Nat))).set h6.1 2 (.int .u64 (l2 r.bal : Nat))).set h6.1 3 (.int .u64 (l1 r.bal : Nat))).set h6.1 4 (.int .u64 (l0 r.bal : Nat))).set h6.1 5 (.string (str r.code)))
        replace h6 := ((((((h6.set 0 (.int .u64 r.nonce) rfl).set 1 (.int .u64 (l3 r.bal : Nat)) rfl).set 2 (.int .u64 (l2 r.bal : Nat)) rfl).set 3 (.int .u64 (l1 r.bal : Nat)) rfl).set 4 (.int .u64 (l0 r.bal : Nat)) rfl).set 5 (.string (str r.code)) rfl)
        generalize ((((((V26.setCell ⟨V0.heap.size, 0, none⟩ (.int .u64 r.nonce)).setCell ⟨V0.heap.size, 1, none⟩ (.int .u64 (l3 r.bal : Nat))).setCell ⟨V0.heap.size, 2, none⟩ (.int .u64 (l2 r.bal : Nat))).setCell ⟨V0.heap.size, 3, none⟩ (.int .u64 (l1 r.bal : Nat))).setCell ⟨V0.heap.size, 4, none⟩ (.int .u64 (l0 r.bal : Nat))).setCell ⟨V0.heap.size, 5, none⟩ (.string (str r.code))) = V27 at H0 h5 h6 ⊢
        try simp only [put_list, List.set]
        refine Drawn.done (by kernel_rfl) ?_ _
        exact HL _ _ ⟨_, _, rfl, H0, h5, h6, hne⟩
  · clear HS H0
    rintro a V ⟨b5, b6, rfl, H0, h5, h6, hne⟩
    simp only [List.replicate_succ, List.replicate_zero, List.cons_append, List.nil_append]
    obtain ⟨c0, c1, c2, c3, c4, c5, c6, c7, c8, c9, c10⟩ := H0.cells
    obtain ⟨⟨d0, d1, d2⟩, _⟩ := cells3 h5.2
    obtain ⟨⟨e0, e1, e2, e3, e4, e5⟩, _⟩ := cells6 h6.2
    have HB := Lib.hid (And.intro H0 (And.intro h5 h6))
    have hsz := str_size r.code
    clear H0 h5 h6 hne
    by_cases h1 : kind = 1
    · subst h1
      by_cases h0 : r.value = 0
      · have heq := fun W => eq_zero HW.out.value W
        rw [show decide (r.value = 0) = true by simp [h0]] at heq
        unfold wordV at heq
        by_cases hl : r.code.length ≤ 24576
        · have HO := Lib.hid (show r.Ok 1 from ⟨hl, Or.inl ⟨rfl, h0⟩⟩)
          have hli : (r.code.length : Int) ≤ 24576 := by omega
          clear h0
          go_wp2_with fail
          have H0 : RepS w r b5 b6 V.drew := (show RepS w r b5 b6 V from HB.out).call (Below.refl _ _).drew
          have HS := Lib.hid (fun (U : World) (hU : RepS w r b5 b6 U) => hU.reads)
          have C1 := Lib.hid (fun W => number_c r.nonce HW.out.nonce W)
          have C2 := Lib.hid (fun W => wordText_c HW.out.bal W)
          have C3 := Lib.hid (fun W => text_c (str r.code) W)
          unfold textV at C1 C2 C3
          unfold wordV at C2
          clear c0 c1 c2 c3 c4 c5 c6 c7 c8 c9 c10 d0 d1 d2 e0 e1 e2 e3 e4 e5 heq hsz hli
          refine Drawn.start (fun U => RepS w r b5 b6 U) (fun _ => false) (by kernel_rfl) ?_
          refine Drawn.take 0 (some 28) (v := ?_) rfl rfl (by kernel_rfl) (by kernel_rfl) (by kernel_rfl) (by kernel_rfl) (by kernel_rfl) rfl (fun _ _ _ h => h) (Or.inl ⟨rfl, ?_⟩) H0 ?_
          rotate_left
          · intro W hW; have hW := HS.out W hW; go_simp; try with_reducible rfl
          simp only [put_list, List.set]
          refine Drawn.take 1 (some 29) (v := ?_) rfl rfl (by kernel_rfl) (by kernel_rfl) (by kernel_rfl) (by kernel_rfl) (by kernel_rfl) rfl (fun _ _ _ h => h) (Or.inl ⟨rfl, ?_⟩) H0 ?_
          rotate_left
          · intro W hW; have hW := HS.out W hW; go_simp; try with_reducible rfl
          simp only [put_list, List.set]
          refine Drawn.take 2 (some 30) (v := ?_) rfl rfl (by kernel_rfl) (by kernel_rfl) (by kernel_rfl) (by kernel_rfl) (by kernel_rfl) rfl (fun _ _ _ h => h) (Or.inl ⟨rfl, ?_⟩) H0 ?_
          rotate_left
          · intro W hW; have hW := HS.out W hW; go_simp; try with_reducible rfl
          simp only [put_list, List.set]
          refine Drawn.take 4 (some 32) (v := ?_) rfl rfl (by kernel_rfl) (by kernel_rfl) (by kernel_rfl) (by kernel_rfl) (by kernel_rfl) rfl (fun _ _ _ h => h) (Or.inl ⟨rfl, ?_⟩) H0 ?_
          rotate_left
          · intro W hW; have hW := HS.out W hW; go_simp; try with_reducible rfl
          simp only [put_list, List.set]
          refine Drawn.take 5 (some 33) (v := ?_) rfl rfl (by kernel_rfl) (by kernel_rfl) (by kernel_rfl) (by kernel_rfl) (by kernel_rfl) rfl (fun _ _ _ h => h) (Or.inl ⟨rfl, ?_⟩) H0 ?_
          rotate_left
          · intro W hW; have hW := HS.out W hW; go_simp; try with_reducible rfl
          simp only [put_list, List.set]
          refine Drawn.take 7 (some 35) (v := ?_) rfl rfl (by kernel_rfl) (by kernel_rfl) (by kernel_rfl) (by kernel_rfl) (by kernel_rfl) rfl (fun _ _ _ h => h) (Or.inl ⟨rfl, ?_⟩) H0 ?_
          rotate_left
          · intro W hW; have hW := HS.out W hW; go_simp; try with_reducible rfl
          simp only [put_list, List.set]
          refine Drawn.take 8 (some 36) (v := ?_) rfl rfl (by kernel_rfl) (by kernel_rfl) (by kernel_rfl) (by kernel_rfl) (by kernel_rfl) rfl (fun _ _ _ h => h) (Or.inl ⟨rfl, ?_⟩) H0 ?_
          rotate_left
          · intro W hW; have hW := HS.out W hW; go_simp; try with_reducible rfl
          simp only [put_list, List.set]
          generalize World.drew _ = V9 at H0 ⊢
          refine Drawn.only 3 (by kernel_rfl) rfl rfl (fun K hK => ?_)
          go_simp
          refine (C1.out _).mono ?_
          rintro e U3 ⟨rfl, hb⟩
          refine hK _ _ (fun _ _ => H0.call hb) ?_
          replace H0 := H0.call hb
          clear hK K hb
          try simp only [put_list, List.set]
          refine Drawn.only 6 (by kernel_rfl) rfl rfl (fun K hK => ?_)
          go_simp
          refine (C2.out _).mono ?_
          rintro e U6 ⟨rfl, hb⟩
          refine hK _ _ (fun _ _ => H0.call hb) ?_
          replace H0 := H0.call hb
          clear hK K hb
          try simp only [put_list, List.set]
          refine Drawn.only 9 (by kernel_rfl) rfl rfl (fun K hK => ?_)
          go_simp
          refine (C3.out _).mono ?_
          rintro e U9 ⟨rfl, hb⟩
          refine hK _ _ (fun _ _ => H0.call hb) ?_
          replace H0 := H0.call hb
          clear hK K hb
          try simp only [put_list, List.set]
          refine Drawn.only 10 (by kernel_rfl) rfl rfl (fun K hK => ?_)
          go_simp
          refine hK _ _ (fun _ _ => H0.call (bel_alloc _ _)) ?_
          clear hK K
          have hsl := (own_lit U9 (.text (num r.id) (.text (num r.nonce) (.text (wordL r.bal) (.text r.code .nil)))) #[.bool false, .string (str (num r.id)), .slice none 0 0, .bool false, .string (str (num r.nonce)), .slice none 0 0, .bool false, .string (str (wordL r.bal)), .slice none 0 0, .bool false, .string (str r.code), .slice none 0 0] ⟨_, rfl, _, rfl, _, rfl, _, rfl, rfl⟩ 4 rfl (by omega)).sl
          replace H0 := H0.call (bel_alloc U9 (.cells #[.bool false, .string (str (num r.id)), .slice none 0 0, .bool false, .string (str (num r.nonce)), .slice none 0 0, .bool false, .string (str (wordL r.bal)), .slice none 0 0, .bool false, .string (str r.code), .slice none 0 0] 198))
          generalize U9.alloc (.cells #[.bool false, .string (str (num r.id)), .slice none 0 0, .bool false, .string (str (num r.nonce)), .slice none 0 0, .bool false, .string (str (wordL r.bal)), .slice none 0 0, .bool false, .string (str r.code), .slice none 0 0] 198) = UL at H0 hsl ⊢
          try simp only [put_list, List.set]
          have hfo : r.fo 1 = .text (num r.id) (.text (num r.nonce) (.text (wordL r.bal) (.text r.code .nil))) := by unfold ReplyP.fo; rfl
          have hfl := ReplyP.fo_len HW.out HO.out
          rw [hfo] at hfl
          have CE := Lib.hid (encoded_c hsl (fun k hk => hk.2) (by simp [Fo.siz]) (by omega))
          rw [← hfo, show (It.list (r.fo 1)).enc = r.body 1 from rfl] at CE
          have CS := Lib.hid (fun W => summed_c (r.body 1) (by have := ReplyP.body_len HW.out HO.out; omega) W)
          have HF := Lib.hid (putReplyV_ok HO.out)
          clear hfo hfl hsl HS
          refine Drawn.only 11 (by kernel_rfl) rfl rfl (fun K hK => ?_)
          go_simp
          refine (CE.out).mono ?_
          rintro e U11 ⟨rfl, hb⟩
          refine hK _ _ (fun _ _ => H0.call hb) ?_
          replace H0 := H0.call hb
          clear hK K hb
          try simp only [put_list, List.set]
          refine Drawn.only 12 (by kernel_rfl) rfl rfl (fun K hK => ?_)
          go_simp
          refine (CS.out _).mono ?_
          rintro e U12 ⟨rfl, hb⟩
          refine hK _ _ (fun _ _ => H0.call hb) ?_
          replace H0 := H0.call hb
          clear hK K hb
          try simp only [put_list, List.set]
          refine Drawn.take 13 (some 4) (v := ?_) rfl rfl (by kernel_rfl) (by kernel_rfl) (by kernel_rfl) (by kernel_rfl) (by kernel_rfl) rfl (fun _ _ _ h => h) (Or.inl ⟨rfl, ?_⟩) H0 ?_
          rotate_left
          · intro W hW; go_simp; try with_reducible rfl
          simp only [put_list, List.set]
          refine Drawn.take 14 (some 5) (v := ?_) rfl rfl (by kernel_rfl) (by kernel_rfl) (by kernel_rfl) (by kernel_rfl) (by kernel_rfl) rfl (fun _ _ _ h => h) (Or.inl ⟨rfl, ?_⟩) H0 ?_
          rotate_left
          · intro W hW; go_simp; try with_reducible rfl
          simp only [put_list, List.set]
          refine Drawn.done (by kernel_rfl) ?_ _
          go_wp2_with fail
          go_ret2
          exact ⟨by rw [HF.out]; rfl, H0.1.1⟩
        · have HO := Lib.hid (putReplyV_no (kind := 1) (r := r) (fun h => hl h.1))
          have hli : ¬ (r.code.length : Int) ≤ 24576 := by omega
          clear h0 hl
          go_wp2_with fail
          go_ret2
          exact ⟨by rw [HO.out]; rfl, HB.out.1.1⟩
      · have heq := fun W => eq_zero HW.out.value W
        rw [show decide (r.value = 0) = false by simp [h0]] at heq
        unfold wordV at heq
        have HO := Lib.hid (putReplyV_no (kind := 1) (r := r) (fun h => by rcases h.2 with h | h; exact h0 h.2; exact absurd h.1 (by decide)))
        clear h0
        go_wp2_with fail
        go_ret2
        exact ⟨by rw [HO.out]; rfl, HB.out.1.1⟩
    · by_cases h2 : kind = 2
      · subst h2
        have heq := fun W => eq_acc HW.out.bal r.nonce r.code W
        by_cases hz : r.nonce = 0 ∧ r.bal = 0 ∧ r.code = []
        · rw [show decide (r.nonce = 0 ∧ r.bal = 0 ∧ r.code = []) = true by simp [hz]] at heq
          have HO := Lib.hid (show r.Ok 2 from ⟨by rw [hz.2.2]; simp, Or.inr ⟨rfl, hz⟩⟩)
          clear hz
          go_wp2_with fail
          have H0 : RepS w r b5 b6 V.drew := (show RepS w r b5 b6 V from HB.out).call (Below.refl _ _).drew
          have HS := Lib.hid (fun (U : World) (hU : RepS w r b5 b6 U) => hU.reads)
          have C2 := Lib.hid (fun W => wordText_c HW.out.value W)
          unfold textV at C2
          unfold wordV at C2
          clear c0 c1 c2 c3 c4 c5 c6 c7 c8 c9 c10 d0 d1 d2 e0 e1 e2 e3 e4 e5 heq hsz
          refine Drawn.start (fun U => RepS w r b5 b6 U) (fun _ => false) (by kernel_rfl) ?_
          refine Drawn.take 0 (some 49) (v := ?_) rfl rfl (by kernel_rfl) (by kernel_rfl) (by kernel_rfl) (by kernel_rfl) (by kernel_rfl) rfl (fun _ _ _ h => h) (Or.inl ⟨rfl, ?_⟩) H0 ?_
          rotate_left
          · intro W hW; have hW := HS.out W hW; go_simp; try with_reducible rfl
          simp only [put_list, List.set]
          refine Drawn.take 1 (some 50) (v := ?_) rfl rfl (by kernel_rfl) (by kernel_rfl) (by kernel_rfl) (by kernel_rfl) (by kernel_rfl) rfl (fun _ _ _ h => h) (Or.inl ⟨rfl, ?_⟩) H0 ?_
          rotate_left
          · intro W hW; have hW := HS.out W hW; go_simp; try with_reducible rfl
          simp only [put_list, List.set]
          refine Drawn.take 2 (some 51) (v := ?_) rfl rfl (by kernel_rfl) (by kernel_rfl) (by kernel_rfl) (by kernel_rfl) (by kernel_rfl) rfl (fun _ _ _ h => h) (Or.inl ⟨rfl, ?_⟩) H0 ?_
          rotate_left
          · intro W hW; have hW := HS.out W hW; go_simp; try with_reducible rfl
          simp only [put_list, List.set]
          generalize World.drew _ = V9 at H0 ⊢
          refine Drawn.only 3 (by kernel_rfl) rfl rfl (fun K hK => ?_)
          go_simp
          refine (C2.out _).mono ?_
          rintro e U3 ⟨rfl, hb⟩
          refine hK _ _ (fun _ _ => H0.call hb) ?_
          replace H0 := H0.call hb
          clear hK K hb
          try simp only [put_list, List.set]
          refine Drawn.only 4 (by kernel_rfl) rfl rfl (fun K hK => ?_)
          go_simp
          refine hK _ _ (fun _ _ => H0.call (bel_alloc _ _)) ?_
          clear hK K
          have hsl := (own_lit U3 (.text (num r.id) (.text (wordL r.value) .nil)) #[.bool false, .string (str (num r.id)), .slice none 0 0, .bool false, .string (str (wordL r.value)), .slice none 0 0] ⟨_, rfl, _, rfl, rfl⟩ 2 rfl (by omega)).sl
          replace H0 := H0.call (bel_alloc U3 (.cells #[.bool false, .string (str (num r.id)), .slice none 0 0, .bool false, .string (str (wordL r.value)), .slice none 0 0] 198))
          generalize U3.alloc (.cells #[.bool false, .string (str (num r.id)), .slice none 0 0, .bool false, .string (str (wordL r.value)), .slice none 0 0] 198) = UL at H0 hsl ⊢
          try simp only [put_list, List.set]
          have hfo : r.fo 2 = .text (num r.id) (.text (wordL r.value) .nil) := by unfold ReplyP.fo; rfl
          have hfl := ReplyP.fo_len HW.out HO.out
          rw [hfo] at hfl
          have CE := Lib.hid (encoded_c hsl (fun k hk => hk.2) (by simp [Fo.siz]) (by omega))
          rw [← hfo, show (It.list (r.fo 2)).enc = r.body 2 from rfl] at CE
          have CS := Lib.hid (fun W => summed_c (r.body 2) (by have := ReplyP.body_len HW.out HO.out; omega) W)
          have HF := Lib.hid (putReplyV_ok HO.out)
          clear hfo hfl hsl HS
          refine Drawn.only 5 (by kernel_rfl) rfl rfl (fun K hK => ?_)
          go_simp
          refine (CE.out).mono ?_
          rintro e U5 ⟨rfl, hb⟩
          refine hK _ _ (fun _ _ => H0.call hb) ?_
          replace H0 := H0.call hb
          clear hK K hb
          try simp only [put_list, List.set]
          refine Drawn.only 6 (by kernel_rfl) rfl rfl (fun K hK => ?_)
          go_simp
          refine (CS.out _).mono ?_
          rintro e U6 ⟨rfl, hb⟩
          refine hK _ _ (fun _ _ => H0.call hb) ?_
          replace H0 := H0.call hb
          clear hK K hb
          try simp only [put_list, List.set]
          refine Drawn.take 7 (some 4) (v := ?_) rfl rfl (by kernel_rfl) (by kernel_rfl) (by kernel_rfl) (by kernel_rfl) (by kernel_rfl) rfl (fun _ _ _ h => h) (Or.inl ⟨rfl, ?_⟩) H0 ?_
          rotate_left
          · intro W hW; go_simp; try with_reducible rfl
          simp only [put_list, List.set]
          refine Drawn.take 8 (some 5) (v := ?_) rfl rfl (by kernel_rfl) (by kernel_rfl) (by kernel_rfl) (by kernel_rfl) (by kernel_rfl) rfl (fun _ _ _ h => h) (Or.inl ⟨rfl, ?_⟩) H0 ?_
          rotate_left
          · intro W hW; go_simp; try with_reducible rfl
          simp only [put_list, List.set]
          refine Drawn.done (by kernel_rfl) ?_ _
          go_wp2_with fail
          go_ret2
          exact ⟨by rw [HF.out]; rfl, H0.1.1⟩
        · rw [show decide (r.nonce = 0 ∧ r.bal = 0 ∧ r.code = []) = false by simp only [decide_eq_false_iff_not]; exact hz] at heq
          have HO := Lib.hid (putReplyV_no (kind := 2) (r := r) (fun h => by rcases h.2 with h | h; exact absurd h.1 (by decide); exact hz h.2))
          clear hz
          go_wp2_with fail
          go_ret2
          exact ⟨by rw [HO.out]; rfl, HB.out.1.1⟩
      · have HO := Lib.hid (putReplyV_no (kind := kind) (r := r) (fun h => by rcases h.2 with h | h; exact h1 h.1; exact h2 h.1))
        have hb1 : (kind == 1) = false := by simp [h1]
        have hb2 : (kind == 2) = false := by simp [h2]
        go_wp2_with fail
        go_ret2
        exact ⟨by rw [HO.out]; rfl, HB.out.1.1⟩
end Go.Proofs.YtekoaheiapddiaaGreat
end
