/- Merged: Vz, Vza. -/
import Derived.Test.YtbhijjegkpjkcaaW15
import Derived.Test.YtbhijjegkpjkcaaW17
import Derived.Deep.CutRange
import Derived.Test.YtbhijjegkpjkcaaW13
section
namespace Go.Proofs.Ytbhijjegkpjkcaa
open Go.RowKit

/-- Some items more at once. -/
theorem wp_append_foR {o : Oper} {a : Act} {K : Act → World → Prop} {Q : Exit → Act → World → Prop} {W : World} (s x : Operand)
    (ho : o.op = .call { callee := .builtin .append, args := #[s, x], argTypes := #[63, 63] })
    (B : Nat) (v : Value) (f g : Fo) (m : Nat) (cs : List Value) (hs : a.eval s = v) (h : OwnR B f v W) (hm : m = g.len) (hone : ∀ u ∈ cs, u.oneCell' = true) (hcel : Cel (fun _ => False) g cs W)
    (q : Nat) (hx : a.eval x = .slice (some ⟨q, 0, none⟩) m m) (hz : W.heap[q]? = some (.cells cs.toArray 65 (0, 0))) (hB : B ≤ W.heap.size) (hn : f.len + m < 1000000)
    (hK : ∀ v' W', OwnR B (f.app g) v' W' → W.grownBy W' v.ownBlock → (v'.ownBlock = v.ownBlock ∨ v'.ownBlock = some W.heap.size) → K (a.put o.dst v') W') : Oper.wp Try.prog o a W K Q := by
  obtain ⟨i0, hi, hz0, hz1, hz2⟩ := info_parts infoItemR
  obtain ⟨S0, xs, hown, hc, hS0⟩ := h
  subst hm
  obtain ⟨v', W', hr, h1, h2, h3, h4⟩ := run_append_own_at (P := Try.prog) W B 63 o.type 65 i0 _ 3 48 Try.underlying63 hi hz0 hz1 hz2 rfl (by omega) v f.len xs hown ⟨q, 0, none⟩ g.len g.len cs hcel.length (by
    intro j u hj
    have e : (⟨q, 0, none⟩ : Addr).add j = ⟨q, j, none⟩ := by unfold Addr.add; split <;> simp_all
    rw [e, cell_of hz]
    simpa using hj) hone (by unfold maxLen; omega) (by omega) hB
  unfold Oper.wp execOp
  simp only [ho, resolve, invoke, builtin, Sem.run_bind, Sem.run_pure, Result.andThen_ok, List.map_toArray, List.map_cons, List.map_nil, hs, hx, hr]
  · refine hK v' W' ?_ h2 h4
    have hk0 : ∀ k, S0 k → W'.heap[k]? = W.heap[k]? := fun k hk => h2.block k (hS0 k hk).2.1 (fun e => (hS0 k hk).2.2 e.symm)
    refine ⟨S0, xs ++ cs, ?_, ?_, ?_⟩
    · rw [Fo.len_app]; exact h1
    · exact Cel.app ((hcel.kept (fun _ h => h.elim) _ _).mono (fun _ h => h.elim) _ _) _ _ (hc.kept hk0 _ _)
    · intro k hk
      have hkk := hS0 k hk
      refine ⟨hkk.1, Nat.lt_of_lt_of_le hkk.2.1 h2.size, ?_⟩
      rcases h4 with h4 | h4
      · rw [h4]; exact hkk.2.2
      · rw [h4]; intro e; injection e with e; omega
/-- The reference's reply in its box. -/
def RRepB (w : World) (r : ReplyP) (V : World) : Prop := Below w.heap.size w V ∧ V.heap[w.heap.size]? = some (.cells (replyCells r) 45 (0, 0))
theorem RRepB.cells {w V : World} {r : ReplyP} (h : RRepB w r V) : V.cell? ⟨w.heap.size, 0, none⟩ = some (.int .u64 r.id) ∧ V.cell? ⟨w.heap.size, 1, none⟩ = some (.int .u64 r.nonce) ∧ V.cell? ⟨w.heap.size, 2, none⟩ = some (.int .u64 (l3 r.bal : Nat)) ∧ V.cell? ⟨w.heap.size, 3, none⟩ = some (.int .u64 (l2 r.bal : Nat)) ∧ V.cell? ⟨w.heap.size, 4, none⟩ = some (.int .u64 (l1 r.bal : Nat)) ∧ V.cell? ⟨w.heap.size, 5, none⟩ = some (.int .u64 (l0 r.bal : Nat)) ∧ V.cell? ⟨w.heap.size, 6, none⟩ = some (.string (str r.code)) ∧ V.cell? ⟨w.heap.size, 7, none⟩ = some (.int .u64 (l3 r.value : Nat)) ∧ V.cell? ⟨w.heap.size, 8, none⟩ = some (.int .u64 (l2 r.value : Nat)) ∧ V.cell? ⟨w.heap.size, 9, none⟩ = some (.int .u64 (l1 r.value : Nat)) ∧ V.cell? ⟨w.heap.size, 10, none⟩ = some (.int .u64 (l0 r.value : Nat)) :=
  ⟨cell_of h.2 0, cell_of h.2 1, cell_of h.2 2, cell_of h.2 3, cell_of h.2 4, cell_of h.2 5, cell_of h.2 6, cell_of h.2 7, cell_of h.2 8, cell_of h.2 9, cell_of h.2 10⟩
theorem RRepB.call {w V V' : World} {r : ReplyP} (h : RRepB w r V) (hb : Below V.heap.size V V') : RRepB w r V' := ⟨h.1.trans (hb.mono h.1.size), (hb.block _ (lt_of h.2)).trans h.2⟩
theorem RRepB.start (w : World) (r : ReplyP) : RRepB w r (w.alloc (.cells (replyCells r) 45)) := ⟨(Below.refl _ _).alloc (Nat.le_refl _) _, heap_alloc_new _ _⟩
theorem fo1_cel (s : List UInt8) (W : World) : Cel (fun _ => False) (.text s .nil) [.bool false, .string (str s), .slice none 0 0] W := ⟨_, rfl, rfl⟩
set_option maxRecDepth 100000 in
set_option maxHeartbeats 8000000 in
theorem rputReply_c (kind : Int) {r : ReplyP} (hw : r.Wf) (w : World) : Calls Try.prog 15 #[.int .i64 kind, replyV r] w fun e w' => e = .returned (putReplyV kind r) ∧ Below w.heap.size w w' := by
  have HC1 := Lib.hid (fun W => rnumber_c r.id hw.id W)
  have HC2 := Lib.hid (fun W => rnumber_c r.nonce hw.nonce W)
  have HC3 := Lib.hid (fun W => rBytes_c hw.bal W)
  have HC4 := Lib.hid (fun W => rtext_c (str (wordL r.bal)) W)
  have HC5 := Lib.hid (fun W => rtext_c (str r.code) W)
  have HC6 := Lib.hid (fun W => rBytes_c hw.value W)
  have HC7 := Lib.hid (fun W => rtext_c (str (wordL r.value)) W)
  unfold textV at HC1 HC2 HC4 HC5 HC7
  unfold wordV at HC3 HC6
  have HQ := Lib.hid (fun W => eq_zero hw.value W)
  have HQ2 := Lib.hid (fun W => eq_acc hw.bal r.nonce r.code W)
  unfold wordV at HQ
  have K0 := Lib.hid (RRepB.start w r)
  have HW := Lib.hid hw
  obtain ⟨c0, c1, c2, c3, c4, c5, c6, c7, c8, c9, c10⟩ := K0.out.cells
  have hsz : (str r.code).size = r.code.length := str_size _
  clear hw
  unfold replyCells at c0 c1 c2 c3 c4 c5 c6 c7 c8 c9 c10
  unfold replyV
  go_enter Try.func15, Try.ntmps15
  go_wp2_with fail
  refine (HC1.out _).mono ?_
  rintro e w1 ⟨rfl, hb⟩
  have H1 : RRepB w r w1 := K0.out.call hb
  have H2 : RRepB w r (w1.alloc (.cells #[.bool false, .string (str (num r.id)), .slice none 0 0] 65)) := H1.call ((Below.refl _ _).alloc (Nat.le_refl _) _)
  have hown := own_litR w1 (.text (num r.id) .nil) #[.bool false, .string (str (num r.id)), .slice none 0 0] (fo1_cel _ _) 1 rfl (by omega)
  have HB := Lib.hid (And.intro H2 (And.intro hown (And.intro (show w.heap.size < w1.heap.size from lt_of H1.2) (show w1.heap.size ≤ (w1.alloc (.cells #[.bool false, .string (str (num r.id)), .slice none 0 0] 65)).heap.size by simp))))
  clear c0 c1 c2 c3 c4 c5 c6 c7 c8 c9 c10 hb K0 H1 hown HC1
  obtain ⟨c0, c1, c2, c3, c4, c5, c6, c7, c8, c9, c10⟩ := H2.cells
  clear H2
  by_cases hlong : 24576 < r.code.length
  · have hok : ¬ r.Ok kind := fun h => by have := h.1; omega
    have hlg : (24576 : Int) < ((str r.code).size : Int) := by rw [hsz]; omega
    clear hsz hlong
    have HO := Lib.hid (putReplyV_no hok)
    clear hok
    go_wp2_with fail
    go_ret2
    exact ⟨by rw [HO.out]; rfl, HB.out.1.1⟩
  · have hlg : ¬ (24576 : Int) < ((str r.code).size : Int) := by rw [hsz]; omega
    clear hsz
    by_cases h1 : kind = 1
    · subst h1
      by_cases h0 : r.value = 0
      · have hok : r.Ok 1 := ⟨by omega, Or.inl ⟨rfl, h0⟩⟩
        have heq := HQ.out
        rw [show decide (r.value = 0) = true by simp [h0]] at heq
        clear h0 hlong
        have HO := Lib.hid (putReplyV_ok hok)
        have HE := Lib.hid (fun (S : Nat → Prop) v W (h : SlF S (r.fo 1) v W) (hS : ∀ k, S k → k < W.heap.size) => renc_list h hS (by have := ReplyP.fo_len HW.out hok; omega))
        have hbl := ReplyP.body_len HW.out hok
        have hbs : (str (r.body 1)).size = (r.body 1).length := str_size _
        have HS5 := Lib.hid (fun W => rsum_c (s := str (r.body 1)) (by rw [hbs]; unfold maxLen; omega) W)
        have hc := conv_be4 (sumN (str (r.body 1))) (sumN_lt4 _)
        have hF : str (be4 (sumN (str (r.body 1)))) ++ str (r.body 1) = str (r.enc 1) := str_append _ _
        have hz4 : (str (be4 (sumN (str (r.body 1))))).size = 4 := by rw [str_size]; rfl
        have HR := Lib.hid hF
        have hn := sumN_lt4 (r.body 1)
        rw [show str (It.list (r.fo 1)).enc = str (r.body 1) from rfl] at HE
        generalize str (r.enc 1) = z at *
        generalize sumN (str (r.body 1)) = n at *
        generalize str (be4 n) = y at *
        generalize str (r.body 1) = x at *
        have hbig : ¬ 9223372036854775807 < y.size + x.size := by omega
        clear hF hbl hbs
        clear hok
        have HX := Lib.hid (show r.fo 1 = (Fo.text (num r.id) .nil).app (.text (num r.nonce) (.text (wordL r.bal) (.text r.code .nil))) from rfl)
        go_upto_region 6 with fail
        clear heq hlg c0 c1 c2 c3 c4 c5 c6 c7 c8 c9 c10
        have H0 : RRepB w r (w1.alloc (.cells #[.bool false, .string (str (num r.id)), .slice none 0 0] 65)).drew := HB.out.1.call (Below.refl _ _).drew
        have ho : OwnR w1.heap.size (.text (num r.id) .nil) (.slice (some ⟨w1.heap.size, 0, none⟩) 1 1) (w1.alloc (.cells #[.bool false, .string (str (num r.id)), .slice none 0 0] 65)).drew := HB.out.2.1.kept (fun _ _ _ => rfl) (Nat.le_refl _)
        have hq1 : w.heap.size < w1.heap.size ∧ w1.heap.size ≤ (w1.alloc (.cells #[.bool false, .string (str (num r.id)), .slice none 0 0] 65)).drew.heap.size := ⟨HB.out.2.2.1, HB.out.2.2.2⟩
        generalize (w1.alloc (.cells #[.bool false, .string (str (num r.id)), .slice none 0 0] 65)) = U at *
        generalize w1.heap.size = q9 at *
        have HS := Lib.hid (fun (V : World) (hV : RRepB w r V) => hV.cells)
        refine Drawn.start (fun V => RRepB w r V) (fun _ => false) (by kernel_rfl) ?_
        refine Drawn.take 0 (some 28) (v := ?_) rfl rfl (by kernel_rfl) (by kernel_rfl) (by kernel_rfl) (by kernel_rfl) (by kernel_rfl) rfl (fun _ _ _ h => h) (Or.inl ⟨rfl, ?_⟩) H0 ?_
        rotate_left
        · intro W hW; have hW := HS.out W hW; go_simp; try with_reducible rfl
        simp only [put_list, List.set]
        refine Drawn.take 1 (some 29) (v := ?_) rfl rfl (by kernel_rfl) (by kernel_rfl) (by kernel_rfl) (by kernel_rfl) (by kernel_rfl) rfl (fun _ _ _ h => h) (Or.inl ⟨rfl, ?_⟩) H0 ?_
        rotate_left
        · intro W hW; have hW := HS.out W hW; go_simp; try with_reducible rfl
        simp only [put_list, List.set]
        refine Drawn.take 2 (some 30) (v := ?_) rfl rfl (by kernel_rfl) (by kernel_rfl) (by kernel_rfl) (by kernel_rfl) (by kernel_rfl) rfl (fun _ _ _ h => h) (Or.inl ⟨rfl, ?_⟩) H0 ?_
        rotate_left
        · intro W hW; have hW := HS.out W hW; go_simp; try with_reducible rfl
        simp only [put_list, List.set]
        refine Drawn.take 3 (some 31) (v := ?_) rfl rfl (by kernel_rfl) (by kernel_rfl) (by kernel_rfl) (by kernel_rfl) (by kernel_rfl) rfl (fun _ _ _ h => h) (Or.inl ⟨rfl, ?_⟩) H0 ?_
        rotate_left
        · intro W hW; have hW := HS.out W hW; go_simp; try with_reducible rfl
        simp only [put_list, List.set]
        refine Drawn.take 5 (some 33) (v := ?_) rfl rfl (by kernel_rfl) (by kernel_rfl) (by kernel_rfl) (by kernel_rfl) (by kernel_rfl) rfl (fun _ _ _ h => h) (Or.inl ⟨rfl, ?_⟩) H0 ?_
        rotate_left
        · intro W hW; have hW := HS.out W hW; go_simp; try with_reducible rfl
        simp only [put_list, List.set]
        refine Drawn.take 6 (some 34) (v := ?_) rfl rfl (by kernel_rfl) (by kernel_rfl) (by kernel_rfl) (by kernel_rfl) (by kernel_rfl) rfl (fun _ _ _ h => h) (Or.inl ⟨rfl, ?_⟩) H0 ?_
        rotate_left
        · intro W hW; have hW := HS.out W hW; go_simp; try with_reducible rfl
        simp only [put_list, List.set]
        refine Drawn.take 7 (some 35) (v := ?_) rfl rfl (by kernel_rfl) (by kernel_rfl) (by kernel_rfl) (by kernel_rfl) (by kernel_rfl) rfl (fun _ _ _ h => h) (Or.inl ⟨rfl, ?_⟩) H0 ?_
        rotate_left
        · intro W hW; have hW := HS.out W hW; go_simp; try with_reducible rfl
        simp only [put_list, List.set]
        refine Drawn.take 10 (some 38) (v := ?_) rfl rfl (by kernel_rfl) (by kernel_rfl) (by kernel_rfl) (by kernel_rfl) (by kernel_rfl) rfl (fun _ _ _ h => h) (Or.inl ⟨rfl, ?_⟩) H0 ?_
        rotate_left
        · intro W hW; have hW := HS.out W hW; go_simp; try with_reducible rfl
        simp only [put_list, List.set]
        refine Drawn.take 11 (some 39) (v := ?_) rfl rfl (by kernel_rfl) (by kernel_rfl) (by kernel_rfl) (by kernel_rfl) (by kernel_rfl) rfl (fun _ _ _ h => h) (Or.inl ⟨rfl, ?_⟩) H0 ?_
        rotate_left
        · intro W hW; have hW := HS.out W hW; go_simp; try with_reducible rfl
        simp only [put_list, List.set]
        refine Drawn.take 12 (some 40) (v := ?_) rfl rfl (by kernel_rfl) (by kernel_rfl) (by kernel_rfl) (by kernel_rfl) (by kernel_rfl) rfl (fun _ _ _ h => h) (Or.inl ⟨rfl, ?_⟩) H0 ?_
        rotate_left
        · intro W hW; have hW := HS.out W hW; go_simp; try with_reducible rfl
        simp only [put_list, List.set]
        refine Drawn.only 4 (by kernel_rfl) rfl rfl (fun K hK => ?_)
        go_simp
        refine (HC2.out _).mono ?_
        rintro e V4 ⟨rfl, hb⟩
        refine hK _ _ (fun _ _ => H0.call hb) ?_
        replace H0 := H0.call hb
        replace ho := ho.kept (fun k _ hk => hb.block k hk) hb.size
        replace hq1 := And.intro hq1.1 (Nat.le_trans hq1.2 hb.size)
        clear hK K hb
        try simp only [put_list, List.set]
        refine Drawn.only 8 (by kernel_rfl) rfl rfl (fun K hK => ?_)
        go_simp
        refine (HC3.out _).mono ?_
        rintro e V8 ⟨rfl, hb⟩
        refine hK _ _ (fun _ _ => H0.call hb) ?_
        replace H0 := H0.call hb
        replace ho := ho.kept (fun k _ hk => hb.block k hk) hb.size
        replace hq1 := And.intro hq1.1 (Nat.le_trans hq1.2 hb.size)
        clear hK K hb
        try simp only [put_list, List.set]
        refine Drawn.only 9 (by kernel_rfl) rfl rfl (fun K hK => ?_)
        go_simp
        refine (HC4.out _).mono ?_
        rintro e V9 ⟨rfl, hb⟩
        refine hK _ _ (fun _ _ => H0.call hb) ?_
        replace H0 := H0.call hb
        replace ho := ho.kept (fun k _ hk => hb.block k hk) hb.size
        replace hq1 := And.intro hq1.1 (Nat.le_trans hq1.2 hb.size)
        clear hK K hb
        try simp only [put_list, List.set]
        refine Drawn.only 13 (by kernel_rfl) rfl rfl (fun K hK => ?_)
        go_simp
        refine (HC5.out _).mono ?_
        rintro e V13 ⟨rfl, hb⟩
        refine hK _ _ (fun _ _ => H0.call hb) ?_
        replace H0 := H0.call hb
        replace ho := ho.kept (fun k _ hk => hb.block k hk) hb.size
        replace hq1 := And.intro hq1.1 (Nat.le_trans hq1.2 hb.size)
        clear hK K hb
        try simp only [put_list, List.set]
        refine Drawn.only 14 (by kernel_rfl) rfl rfl (fun K hK => ?_)
        go_simp
        have hb : Below V13.heap.size V13 (V13.alloc (.cells #[.bool false, .string (str (num r.nonce)), .slice none 0 0, .bool false, .string (str (wordL r.bal)), .slice none 0 0, .bool false, .string (str r.code), .slice none 0 0] 65)) := (Below.refl _ _).alloc (Nat.le_refl _) _
        have hz := heap_alloc_new V13 (.cells #[.bool false, .string (str (num r.nonce)), .slice none 0 0, .bool false, .string (str (wordL r.bal)), .slice none 0 0, .bool false, .string (str r.code), .slice none 0 0] 65)
        refine hK _ _ (fun _ _ => H0.call hb) ?_
        replace H0 := H0.call hb
        replace ho := ho.kept (fun k _ hk => hb.block k hk) hb.size
        replace hq1 := And.intro hq1.1 (Nat.le_trans hq1.2 hb.size)
        clear hK K hb
        try simp only [put_list, List.set]
        generalize V13.alloc (.cells #[.bool false, .string (str (num r.nonce)), .slice none 0 0, .bool false, .string (str (wordL r.bal)), .slice none 0 0, .bool false, .string (str r.code), .slice none 0 0] 65) = U1 at *
        generalize V13.heap.size = q13 at *
        refine Drawn.only 15 (by kernel_rfl) rfl rfl (fun K hK => ?_)
        refine wp_append_foR _ _ rfl q9 (.slice (some ⟨q9, 0, none⟩) 1 1) _ (.text (num r.nonce) (.text (wordL r.bal) (.text r.code .nil))) 3 [.bool false, .string (str (num r.nonce)), .slice none 0 0, .bool false, .string (str (wordL r.bal)), .slice none 0 0, .bool false, .string (str r.code), .slice none 0 0] (by rfl) ho rfl (by intro u hu; simp only [List.mem_cons, List.not_mem_nil, or_false] at hu; rcases hu with rfl | rfl | rfl | rfl | rfl | rfl | rfl | rfl | rfl <;> rfl) (fo3_cel _ _ _ _) q13 (by rfl) hz hq1.2 (by simp [Fo.len]) ?_
        intro v4 W4 ho4 hg4 _
        rw [← HX.out] at ho4
        have hsl4 := ho4.sl
        obtain ⟨a4, m4, n4, rfl⟩ := hsl4.form
        have hbl4 : Below w.heap.size w W4 := H0.1.grown hg4 H0.1.size (fun j hj => by have := (ho.blk j hj).1; have := hq1.1; omega)
        have H4 := Lib.hid (And.intro hsl4 hbl4)
        have HS4 : RRepB w r W4 := ⟨hbl4, (hg4.block _ (lt_of H0.2) (fun e => by have := (ho.blk _ e.symm).1; have := hq1.1; omega)).trans H0.2⟩
        refine hK _ _ (fun _ _ => HS4) ?_
        clear hK K hsl4 hbl4 hg4 ho4 hz ho H0
        try simp only [put_list, List.set]
        refine Drawn.take 16 (some 6) (v := ?_) rfl rfl (by kernel_rfl) (by kernel_rfl) (by kernel_rfl) (by kernel_rfl) (by kernel_rfl) rfl (fun _ _ _ h => h) (Or.inl ⟨rfl, ?_⟩) HS4 ?_
        rotate_left
        · intro W hW; have hW := HS.out W hW; go_simp; try with_reducible rfl
        try simp only [put_list, List.set]
        refine Drawn.done (by kernel_rfl) ?_ _
        clear HS4 HS hq1
        go_wp2_with (first
          | (go_at_call 26; refine (HE.out _ _ _ H4.out.1 (fun k hk => hk.2)).mono ?_; rintro e w5 ⟨rfl, h5⟩; have H5 := Lib.hid h5; clear h5)
          | (go_at_call 33; refine (HS5.out _).mono ?_; rintro e w6 ⟨rfl, rfl⟩))
        go_ret2
        exact ⟨by rw [HO.out, ← HR.out]; rfl, by
          have hb := H4.out.2.trans (H5.out.mono H4.out.2.size)
          exact hb.alloc hb.size _⟩
      · have hok : ¬ r.Ok 1 := fun h => by rcases h.2 with h | h; exact h0 h.2; exact absurd h.1 (by decide)
        have heq := HQ.out
        rw [show decide (r.value = 0) = false by simp [h0]] at heq
        clear h0 hlong
        have HO := Lib.hid (putReplyV_no hok)
        clear hok
        go_wp2_with fail
        go_ret2
        exact ⟨by rw [HO.out]; rfl, HB.out.1.1⟩
    · by_cases h2 : kind = 2
      · subst h2
        by_cases h0 : r.nonce = 0 ∧ r.bal = 0 ∧ r.code = []
        · have hok : r.Ok 2 := ⟨by omega, Or.inr ⟨rfl, h0⟩⟩
          have heq := HQ2.out
          rw [show decide (r.nonce = 0 ∧ r.bal = 0 ∧ r.code = []) = true by simp [h0]] at heq
          clear h0 hlong h1
          have HO := Lib.hid (putReplyV_ok hok)
          have HE := Lib.hid (fun (S : Nat → Prop) v W (h : SlF S (r.fo 2) v W) (hS : ∀ k, S k → k < W.heap.size) => renc_list h hS (by have := ReplyP.fo_len HW.out hok; omega))
          have hbl := ReplyP.body_len HW.out hok
          have hbs : (str (r.body 2)).size = (r.body 2).length := str_size _
          have HS5 := Lib.hid (fun W => rsum_c (s := str (r.body 2)) (by rw [hbs]; unfold maxLen; omega) W)
          have hc := conv_be4 (sumN (str (r.body 2))) (sumN_lt4 _)
          have hF : str (be4 (sumN (str (r.body 2)))) ++ str (r.body 2) = str (r.enc 2) := str_append _ _
          have hz4 : (str (be4 (sumN (str (r.body 2))))).size = 4 := by rw [str_size]; rfl
          have HR := Lib.hid hF
          have hn := sumN_lt4 (r.body 2)
          rw [show str (It.list (r.fo 2)).enc = str (r.body 2) from rfl] at HE
          generalize str (r.enc 2) = z at *
          generalize sumN (str (r.body 2)) = n at *
          generalize str (be4 n) = y at *
          generalize str (r.body 2) = x at *
          have hbig : ¬ 9223372036854775807 < y.size + x.size := by omega
          clear hF hbl hbs
          clear hok
          have HX := Lib.hid (show r.fo 2 = (Fo.text (num r.id) .nil).app ((It.text (wordL r.value)).fo .nil) from rfl)
          obtain ⟨hB8, hB9⟩ := HB.out.2.2
          go_upto_region 8 with fail
          generalize (w1.alloc (.cells #[.bool false, .string (str (num r.id)), .slice none 0 0] 65)) = U at *
          go_wp2_with (first
            | (go_at_call 25; refine (HC6.out _).mono ?_; rintro e w2 ⟨rfl, h3⟩; have HM := Lib.hid h3; clear h3)
            | (go_at_call 24; refine (HC7.out _).mono ?_; rintro e w3 ⟨rfl, h4⟩; have h3 := HM.out.trans (h4.mono HM.out.size); have hown3 := (HB.out.2.1.kept (fun k _ hk => h3.block k hk) h3.size).kept (fun k _ hk => Below.heap_alloc w3 (.cells #[.bool false, .string (str (wordL r.value)), .slice none 0 0] 65) k hk) (by simp); have hz3 := heap_alloc_new w3 (.cells #[.bool false, .string (str (wordL r.value)), .slice none 0 0] 65); have hbs3 : w1.heap.size ≤ (w3.alloc (.cells #[.bool false, .string (str (wordL r.value)), .slice none 0 0] 65)).heap.size := (by have := h3.size; simp; omega); have hb3 := (HB.out.1.1.trans (h3.mono HB.out.1.1.size)).alloc (Nat.le_trans HB.out.1.1.size h3.size) (.cells #[.bool false, .string (str (wordL r.value)), .slice none 0 0] 65); have H3 := Lib.hid (And.intro hown3 (And.intro hz3 hb3)); clear h3 h4 hown3 hz3 hb3)
            | (at_builtin; refine wpList_append_itemR rfl _ _ rfl w1.heap.size (.slice (some ⟨w1.heap.size, 0, none⟩) 1 1) _ (.text (wordL r.value)) false (str (wordL r.value)) (.slice none 0 0) (fun _ => False) (by rfl) H3.out.1 (fun _ h => h.elim) rfl ⟨[], rfl, rfl⟩ _ (by rfl) H3.out.2.1 hbs3 (by simp [Fo.len]) ?_; intro v4 W4 ho4 hg4 _; rw [← HX.out] at ho4; have hsl4 := ho4.sl; obtain ⟨a4, m4, n4, rfl⟩ := hsl4.form; have hbl : Below w.heap.size w W4 := H3.out.2.2.grown hg4 H3.out.2.2.size (fun j hj => (by have := (H3.out.1.blk j hj).1; omega)); have H4 := Lib.hid (And.intro hsl4 hbl); clear ho4 hg4 hsl4 hbl)
            | (go_at_call 26; refine (HE.out _ _ _ H4.out.1 (fun k hk => hk.2)).mono ?_; rintro e w5 ⟨rfl, h5⟩; have H5 := Lib.hid h5; clear h5)
            | (go_at_call 33; refine (HS5.out _).mono ?_; rintro e w6 ⟨rfl, rfl⟩))
          go_ret2
          exact ⟨by rw [HO.out, ← HR.out]; rfl, by
            have hb := H4.out.2.trans (H5.out.mono H4.out.2.size)
            exact hb.alloc hb.size _⟩
        · have hok : ¬ r.Ok 2 := fun h => by rcases h.2 with h | h; exact absurd h.1 (by decide); exact h0 h.2
          have heq := HQ2.out
          rw [show decide (r.nonce = 0 ∧ r.bal = 0 ∧ r.code = []) = false by simp [h0]] at heq
          clear h0 hlong h1
          have HO := Lib.hid (putReplyV_no hok)
          clear hok
          go_wp2_with fail
          go_ret2
          exact ⟨by rw [HO.out]; rfl, HB.out.1.1⟩
      · have hok : ¬ r.Ok kind := fun h => by rcases h.2 with h | h; exact h1 h.1; exact h2 h.1
        have hb1 : (kind == 1) = false := by simp [h1]
        have hb2 : (kind == 2) = false := by simp [h2]
        clear hlong
        have HO := Lib.hid (putReplyV_no hok)
        clear hok
        go_wp2_with fail
        go_ret2
        exact ⟨by rw [HO.out]; rfl, HB.out.1.1⟩
end Go.Proofs.Ytbhijjegkpjkcaa
end
section
namespace Go.Proofs.Ytbhijjegkpjkcaa
open Go.RowKit

def ofT (x : It) : Nat := if x.txt.length ≤ 32 then ofL x.txt else 0
theorem ofT_lt (x : It) : ofT x < W256 := by
  unfold ofT
  split
  · rename_i h; exact ofL_lt h
  · show 0 < W256; decide
theorem ofT_word {n : Nat} (h : n < W256) : ofT (.text (wordL n)) = n := by
  show (if (wordL n).length ≤ 32 then ofL (wordL n) else 0) = n
  rw [if_pos (by rw [wordL_len]; omega), ofL_word h]
theorem reply2_of {b : ReplyP} (hw : b.Wf) (ho : b.Ok 2) {x0 x1 : It} {r : Fo} (h : x0.fo (x1.fo r) = b.fo 2) : (⟨(smallR x0).1, 0, 0, [], ofT x1⟩ : ReplyP) = b := by
  unfold ReplyP.fo at h
  rw [if_neg (by decide)] at h
  obtain ⟨e0, h1⟩ := it_text h
  obtain ⟨e1, h2⟩ := it_text h1
  subst e0 e1
  have hk : b.nonce = 0 ∧ b.bal = 0 ∧ b.code = [] := by rcases ho.2 with h | h; exact absurd h.1 (by decide); exact h.2
  obtain ⟨i, n, l, c, v⟩ := b
  obtain ⟨rfl, rfl, rfl⟩ := hk
  rw [small_num hw.id, ofT_word hw.value]
theorem reply1_of {b : ReplyP} (hw : b.Wf) (ho : b.Ok 1) {x0 x1 x2 x3 : It} {r : Fo} (h : x0.fo (x1.fo (x2.fo (x3.fo r))) = b.fo 1) : (⟨(smallR x0).1, (smallR x1).1, ofT x2, x3.txt, 0⟩ : ReplyP) = b := by
  unfold ReplyP.fo at h
  rw [if_pos rfl] at h
  obtain ⟨e0, h1⟩ := it_text h
  obtain ⟨e1, h2⟩ := it_text h1
  obtain ⟨e2, h3⟩ := it_text h2
  obtain ⟨e3, h4⟩ := it_text h3
  subst e0 e1 e2 e3
  have hk : b.value = 0 := by rcases ho.2 with h | h; exact h.2; exact absurd h.1 (by decide)
  obtain ⟨i, n, l, c, v⟩ := b
  obtain rfl : v = 0 := hk
  rw [small_num hw.id, small_num hw.nonce, ofT_word hw.bal]
  rfl
theorem rfo_len {kind : Int} {b : ReplyP} : 2 ≤ (b.fo kind).len ∧ (kind = 1 → (b.fo kind).len = 4) := by
  unfold ReplyP.fo
  split <;> rename_i h <;> simp [Fo.len, h]
theorem fo_two {f : Fo} (h : 2 ≤ f.len) : ∃ x0 x1 r, f = It.fo x0 (It.fo x1 r) := by
  rcases f.cases_it with rfl | ⟨x0, f1, rfl⟩
  · simp [Fo.len] at h
  rw [fo_len] at h
  rcases f1.cases_it with rfl | ⟨x1, r, rfl⟩
  · simp [Fo.len] at h
  exact ⟨x0, x1, r, rfl⟩
/-- The first item's cells, and the rest. -/
theorem Ga.first {w W : World} {S : Nat → Prop} {x : It} {r : Fo} {g o : Nat} {L : List (Nat × Array Value × TypeId)} (h : Ga w S (x.fo r) g o L W) :
    (∃ b a n c, W.cell? ⟨g, o, none⟩ = some (.bool b) ∧ W.cell? ⟨g, o + 1, none⟩ = some (.string (str x.txt)) ∧ W.cell? ⟨g, o + 2, none⟩ = some (.slice a n c) ∧ ItV S x (.agg #[.bool b, .string (str x.txt), .slice a n c]) W) ∧ Ga w S r g (o + 3) L W := by
  obtain ⟨b0, t0, a0, n0, c0, p0, p1, p2, p3, h1⟩ := At_cons h.at_
  obtain ⟨b', l', e⟩ := p3.txt
  injection e with e
  simp at e
  obtain rfl := e.2.1
  exact ⟨⟨b0, _, _, _, p0, p1, p2, p3⟩, h.kb, h1, h.lt, h.sg⟩
set_option maxRecDepth 100000 in
set_option maxHeartbeats 16000000 in
theorem rgetReply_c (kind : Int) (s : List UInt8) (w : World) : Calls Try.prog 18 #[.int .i64 kind, .string (str s)] w fun e w' => GetReplyR kind s w e w' := by
  have HD := Lib.hid (fun V => rdecode_n (s.drop 4) V)
  have K0 := Lib.hid ((Kb.start w).box #[.int .u64 0, .int .u64 0, .int .u64 0, .int .u64 0, .int .u64 0, .int .u64 0, .string ⟨#[]⟩, .int .u64 0, .int .u64 0, .int .u64 0, .int .u64 0] 45)
  have HT := Lib.hid (str_eq · s)
  have hsl : (str s).extract 4 (str s).size = str (s.drop 4) := by rw [str_drop]
  have hsz := str_size s
  generalize str (s.drop 4) = y2 at *
  generalize str s = y at *
  by_cases h4 : s.length < 4
  · have hs4 : (y.size : Int) < 4 := by omega
    have HN := Lib.hid (show ReplyIs kind s none from fun a _ _ h => by have := congrArg List.length h; rw [reply_len] at this; omega)
    clear h4 hsl hsz K0 HD HT
    go_enter Try.func18, Try.ntmps18
    go_wp2_with fail
    exact bodyPost_ret (results_cell_slot Try.results18 _ _ _ _ _ _ _ _ rfl rfl (heap_alloc_new _ _) Try.underlying45 rfl (by kernel_rfl)) rfl ⟨none, HN.out, rfl, (Below.refl _ _).alloc (Nat.le_refl _) _⟩
  have hs4 : ¬ (y.size : Int) < 4 := by omega
  have hs5 : (4 : Int) ≤ (y.size : Int) := by omega
  clear hsz
  go_enter Try.func18, Try.ntmps18
  go_wp2_with fail
  refine (HD.out _).mono ?_
  rintro e w1 ⟨v, rfl, hv, hb⟩
  obtain ⟨b2, t2, u2, rfl, hi⟩ := SlF_inner hv
  obtain ⟨a2, n2, c2, rfl⟩ := hi.form
  have K1 := Lib.hid ((K0.out.call hb).box #[.bool b2, .string t2, .slice a2 n2 c2] 65)
  have hs1 := hb.size
  clear hv hb HD K0 hsl hs4 hs5
  simp only [alloc_size] at hs1 hi
  by_cases her : (decV (s.drop 4)).2 = 0
  · have HX := Lib.hid (fun (a : ReplyP) (hw : a.Wf) (ho : a.Ok kind) (h : a.enc kind = s) => show (decV (s.drop 4)).1.inner = a.fo kind from by
      have := decV_of (x := a.it kind) (s := s.drop 4) (by rw [← h]; exact ReplyP.body_of.symm) (by have := ReplyP.body_len hw ho; unfold ReplyP.body at this; omega) (a.dep kind)
      rw [this]; rfl)
    rw [her]
    clear her
    generalize (decV (s.drop 4)).1.inner = f at *
    have hlen : n2 = f.len := by
      rcases hi with ⟨h1, h2⟩ | ⟨g, o, c, h1, _⟩
      · injection h1 with _ h1; rw [h1, h2]; rfl
      · injection h1 with _ h1
    by_cases h3 : 2 ≤ f.len
    · obtain ⟨x0, x1, r, rfl⟩ := fo_two h3
      have hn3 : ¬ (n2 : Int) < 2 := by omega
      obtain ⟨g, o, rfl, hgs, hat⟩ : ∃ g o, a2 = some ⟨g, o, none⟩ ∧ (w.heap.size + 1 ≤ g ∧ g < w1.heap.size) ∧ (x0.fo (x1.fo r)).At (fun k => w.heap.size + 1 ≤ k ∧ k < w1.heap.size) g o w1 := by
        rcases hi with ⟨_, h2⟩ | ⟨g, o, c, h1, h2, h4, h5⟩
        · cases x0 <;> simp [It.fo] at h2
        · injection h1 with h1; exact ⟨g, o, h1, h2, h5⟩
      have G1 := Lib.hid (show Ga w (fun k => w.heap.size + 1 ≤ k ∧ k < w1.heap.size) (x0.fo (x1.fo r)) g o _ _ from ⟨K1.out, Fo.At.kept (fun k hk => Below.heap_alloc w1 _ k hk.2) _ g o hgs hat, fun k hk => Nat.lt_of_lt_of_le hk.2 (by simp), hgs⟩)
      have hrl : n2 = r.len + 2 := by rw [hlen, fo_len, fo_len]
      have HR := Lib.hid hrl
      have hi0 : (0 : Int) < (n2 : Int) := by omega
      have hi1 : (1 : Int) < (n2 : Int) := by omega
      clear hi hat hlen h3 K1 hrl
      obtain ⟨⟨i0, i1, i2⟩, _⟩ := cells3 (G1.out.kb.get (.head _))
      have HW := Lib.hid (show w.heap.size + 1 < w1.heap.size from by have := hgs; omega)
      have HL := Lib.hid (show (∀ k, (w.heap.size + 1 ≤ k ∧ k < w1.heap.size) → k ≠ w1.heap.size + 1) ∧ (∀ p ∈ ([(w1.heap.size, #[.bool b2, .string t2, .slice (some ⟨g, o, none⟩) n2 c2], 65), (w.heap.size, #[.int .u64 0, .int .u64 0, .int .u64 0, .int .u64 0, .int .u64 0, .int .u64 0, .string ⟨#[]⟩, .int .u64 0, .int .u64 0, .int .u64 0, .int .u64 0], 45)] : List (Nat × Array Value × TypeId)), p.1 ≠ w1.heap.size + 1) ∧ w.heap.size ≤ w1.heap.size + 1 from
        ⟨fun k hk => by omega, fun p hp => by
          have := HW.out
          simp only [List.mem_cons, List.not_mem_nil, or_false] at hp
          rcases hp with rfl | rfl <;> simp only <;> omega, by have := HW.out; omega⟩)
      have G2 := Lib.hid (G1.out.box #[.int .u64 0, .int .u64 0, .int .u64 0, .int .u64 0, .int .u64 0, .int .u64 0, .string ⟨#[]⟩, .int .u64 0, .int .u64 0, .int .u64 0, .int .u64 0] 45)
      simp only [alloc_size] at G2
      obtain ⟨⟨xb0, a0, m0, k0, q0, q1, q2, q3⟩, _⟩ := G2.out.first
      have HQ := Lib.hid q3
      clear q3 G1 hgs
      go_wp2_with fail
      generalize w1.heap.size = g1 at *
      refine (rsmall_it _ _ _ _ HQ.out).mono ?_
      rintro e w3 ⟨rfl, hb⟩
      have G3 := Lib.hid (G2.out.call hb)
      clear hb G2 HQ i0 i1 i2 q0 q1 q2
      obtain ⟨hcl, z0, z1, z2, z3, z4, z5, z6, z7, z8, z9, z10⟩ := cells11 (G3.out.kb.get (.head _))
      have G4 := Lib.hid (G3.out.set HL.out.2.2 HL.out.1 HL.out.2.1 0 (.int .u64 ((smallR x0).1 : Nat)) (cs' := #[.int .u64 ((smallR x0).1 : Nat), .int .u64 0, .int .u64 0, .int .u64 0, .int .u64 0, .int .u64 0, .string ⟨#[]⟩, .int .u64 0, .int .u64 0, .int .u64 0, .int .u64 0]) rfl)
      clear G3
      obtain ⟨⟨i0, i1, i2⟩, _⟩ := cells3 (G4.out.kb.get (.tail _ (.head _)))
      by_cases h2 : kind = 2
      · subst h2
        have HC := Lib.hid (fun V => rOf_c x1.txt V)
        rw [show (if x1.txt.length ≤ 32 then ofL x1.txt else 0) = ofT x1 from rfl] at HC
        obtain ⟨_, GN⟩ := G4.out.first
        obtain ⟨⟨xb1, a1, m1, k1, q0, q1, q2, _⟩, _⟩ := GN.first
        clear GN
        go_wp2_with fail
        refine (HC.out _).mono ?_
        rintro e w5 ⟨rfl, hb⟩
        have G5 := Lib.hid (G4.out.call hb)
        clear hb G4 HC q0 q1 q2 z0 z1 z2 z3 z4 z5 z6 z7 z8 z9 z10 i0 i1 i2 hcl
        obtain ⟨hcl, z0, z1, z2, z3, z4, z5, z6, z7, z8, z9, z10⟩ := cells11 (G5.out.kb.get (.head _))
        have G6 := Lib.hid ((((G5.out.set HL.out.2.2 HL.out.1 HL.out.2.1 7 (.int .u64 (l3 (ofT x1) : Nat)) rfl).set HL.out.2.2 HL.out.1 HL.out.2.1 8 (.int .u64 (l2 (ofT x1) : Nat)) rfl).set HL.out.2.2 HL.out.1 HL.out.2.1 9 (.int .u64 (l1 (ofT x1) : Nat)) rfl).set HL.out.2.2 HL.out.1 HL.out.2.1 10 (.int .u64 (l0 (ofT x1) : Nat)) (cs' := #[.int .u64 ((smallR x0).1 : Nat), .int .u64 0, .int .u64 0, .int .u64 0, .int .u64 0, .int .u64 0, .string ⟨#[]⟩, .int .u64 (l3 (ofT x1) : Nat), .int .u64 (l2 (ofT x1) : Nat), .int .u64 (l1 (ofT x1) : Nat), .int .u64 (l0 (ofT x1) : Nat)]) rfl)
        clear G5
        unfold wordV
        obtain ⟨a, ha⟩ : ∃ a : ReplyP, a = ⟨(smallR x0).1, 0, 0, [], ofT x1⟩ := ⟨_, rfl⟩
        have hea : (#[.int .u64 ((smallR x0).1 : Nat), .int .u64 0, .int .u64 0, .int .u64 0, .int .u64 0, .int .u64 0, .string ⟨#[]⟩, .int .u64 (l3 (ofT x1) : Nat), .int .u64 (l2 (ofT x1) : Nat), .int .u64 (l1 (ofT x1) : Nat), .int .u64 (l0 (ofT x1) : Nat)] : Array Value) = replyCells a := by rw [ha]; unfold replyCells; simp [lim_zero]; try rfl
        have G8 := Lib.hid (G6.out.cast hea)
        have HPa := Lib.hid (show a.Wf ∧ (∀ b : ReplyP, b.Wf → b.Ok 2 → b.enc 2 = s → a = b) from by rw [ha]; exact ⟨⟨small_lt _, by show 0 < M64; decide, by show 0 < W256; decide, ofT_lt _⟩, fun b hw ho h => reply2_of hw ho (HX.out b hw ho h)⟩)
        have hcA := G8.out.kb.get (.head _)
        unfold replyCells at hcA
        obtain ⟨⟨d0, d1, d2, d3, d4, d5, d6, d7, d8, d9, d10⟩, _⟩ := cells11 hcA
        clear hcA
        obtain ⟨⟨j0, j1, j2⟩, _⟩ := cells3 (G8.out.kb.get (.tail _ (.head _)))
        clear hea ha G6
        go_wp2_with fail
        refine (rputReply_c 2 HPa.out.1 _).mono ?_
        rintro e w9 ⟨rfl, hb⟩
        have G9 := Lib.hid (G8.out.call hb)
        clear hb G8 d0 d1 d2 d3 d4 d5 d6 d7 d8 d9 d10 j0 j1 j2 hcl
        have HN := Lib.hid (show ¬ (a.Ok 2 ∧ a.enc 2 = s) → ReplyIs 2 s none from fun hn b hw ho h => hn (by
          have := HPa.out.2 b hw ho h
          subst this
          exact ⟨ho, h⟩))
        obtain ⟨_, z0, z1, z2, z3, z4, z5, z6, z7, z8, z9, z10⟩ := cells11 (G9.out.kb.get (.tail _ (.tail _ (.head _))))
        by_cases hok : a.Ok 2
        · rw [putReplyV_ok hok]
          by_cases he : a.enc 2 = s
          · have hcmp : ((str (a.enc 2)).toList == y.toList) = true := by rw [HT.out, he]; simp
            have HO := Lib.hid (show ReplyIs 2 s (some a) from ⟨HPa.out.1, hok, he⟩)
            have hcA := G9.out.kb.get (.head _)
            unfold replyCells at hcA
            obtain ⟨⟨d0, d1, d2, d3, d4, d5, d6, d7, d8, d9, d10⟩, _⟩ := cells11 hcA
            clear hcA
            have hR := Lib.hid (set11 (G9.out.kb.get (.tail _ (.tail _ (.head _)))) (.int .u64 a.id) (.int .u64 a.nonce) (.int .u64 (l3 a.bal : Nat)) (.int .u64 (l2 a.bal : Nat)) (.int .u64 (l1 a.bal : Nat)) (.int .u64 (l0 a.bal : Nat)) (.string (str a.code)) (.int .u64 (l3 a.value : Nat)) (.int .u64 (l2 a.value : Nat)) (.int .u64 (l1 a.value : Nat)) (.int .u64 (l0 a.value : Nat)))
            have hB := Lib.hid (Below.set11 (b := w.heap.size) G9.out.kb.below (Nat.le_refl _) (.int .u64 a.id) (.int .u64 a.nonce) (.int .u64 (l3 a.bal : Nat)) (.int .u64 (l2 a.bal : Nat)) (.int .u64 (l1 a.bal : Nat)) (.int .u64 (l0 a.bal : Nat)) (.string (str a.code)) (.int .u64 (l3 a.value : Nat)) (.int .u64 (l2 a.value : Nat)) (.int .u64 (l1 a.value : Nat)) (.int .u64 (l0 a.value : Nat)))
            clear hok he HN G9 HT
            generalize str (a.enc 2) = z at *
            go_wp2_with fail
            exact bodyPost_ret (results_cell_slot Try.results18 _ _ _ _ _ _ _ _ rfl rfl hR.out Try.underlying45 rfl (by kernel_rfl)) rfl ⟨some a, HO.out, rfl, hB.out⟩
          · have hcmp : ((str (a.enc 2)).toList == y.toList) = false := by rw [HT.out]; simp [he]
            have HO := Lib.hid (HN.out (fun h => he h.2))
            have hR := Lib.hid (set11 (G9.out.kb.get (.tail _ (.tail _ (.head _)))) (.int .u64 0) (.int .u64 0) (.int .u64 0) (.int .u64 0) (.int .u64 0) (.int .u64 0) (.string ⟨#[]⟩) (.int .u64 0) (.int .u64 0) (.int .u64 0) (.int .u64 0))
            have hB := Lib.hid (Below.set11 (b := w.heap.size) G9.out.kb.below (Nat.le_refl _) (.int .u64 0) (.int .u64 0) (.int .u64 0) (.int .u64 0) (.int .u64 0) (.int .u64 0) (.string ⟨#[]⟩) (.int .u64 0) (.int .u64 0) (.int .u64 0) (.int .u64 0))
            clear hok he HN G9 HT
            generalize str (a.enc 2) = z at *
            go_wp2_with fail
            exact bodyPost_ret (results_cell_slot Try.results18 _ _ _ _ _ _ _ _ rfl rfl hR.out Try.underlying45 rfl (by kernel_rfl)) rfl ⟨none, HO.out, rfl, hB.out⟩
        · rw [putReplyV_no hok]
          have HO := Lib.hid (HN.out (fun h => hok h.1))
          have hR := Lib.hid (set11 (G9.out.kb.get (.tail _ (.tail _ (.head _)))) (.int .u64 0) (.int .u64 0) (.int .u64 0) (.int .u64 0) (.int .u64 0) (.int .u64 0) (.string ⟨#[]⟩) (.int .u64 0) (.int .u64 0) (.int .u64 0) (.int .u64 0))
          have hB := Lib.hid (Below.set11 (b := w.heap.size) G9.out.kb.below (Nat.le_refl _) (.int .u64 0) (.int .u64 0) (.int .u64 0) (.int .u64 0) (.int .u64 0) (.int .u64 0) (.string ⟨#[]⟩) (.int .u64 0) (.int .u64 0) (.int .u64 0) (.int .u64 0))
          clear hok HN G9 HT
          go_wp2_with fail
          exact bodyPost_ret (results_cell_slot Try.results18 _ _ _ _ _ _ _ _ rfl rfl hR.out Try.underlying45 rfl (by kernel_rfl)) rfl ⟨none, HO.out, rfl, hB.out⟩
      · by_cases h1 : kind = 1
        · subst h1
          by_cases hr4 : 2 ≤ r.len
          · obtain ⟨x2, x3, r', rfl⟩ := fo_two hr4
            have hn4 : (3 : Int) < (n2 : Int) := by have := HR.out; omega
            have hi2 : (2 : Int) < (n2 : Int) := by omega
            obtain ⟨_, GN⟩ := G4.out.first
            obtain ⟨⟨xb1, a1, m1, k1, q0, q1, q2, q3⟩, _⟩ := GN.first
            have HQ := Lib.hid q3
            clear GN q3
            go_wp2_with fail
            refine (rsmall_it _ _ _ _ HQ.out).mono ?_
            rintro e w5 ⟨rfl, hb⟩
            have G5 := Lib.hid (G4.out.call hb)
            clear hb G4 HQ q0 q1 q2 z0 z1 z2 z3 z4 z5 z6 z7 z8 z9 z10 i0 i1 i2 hcl
            obtain ⟨hcl, z0, z1, z2, z3, z4, z5, z6, z7, z8, z9, z10⟩ := cells11 (G5.out.kb.get (.head _))
            have G6 := Lib.hid (G5.out.set HL.out.2.2 HL.out.1 HL.out.2.1 1 (.int .u64 ((smallR x1).1 : Nat)) (cs' := #[.int .u64 ((smallR x0).1 : Nat), .int .u64 ((smallR x1).1 : Nat), .int .u64 0, .int .u64 0, .int .u64 0, .int .u64 0, .string ⟨#[]⟩, .int .u64 0, .int .u64 0, .int .u64 0, .int .u64 0]) rfl)
            clear G5
            obtain ⟨⟨i0, i1, i2⟩, _⟩ := cells3 (G6.out.kb.get (.tail _ (.head _)))
            have HC := Lib.hid (fun V => rOf_c x2.txt V)
            rw [show (if x2.txt.length ≤ 32 then ofL x2.txt else 0) = ofT x2 from rfl] at HC
            obtain ⟨_, GN⟩ := G6.out.first
            obtain ⟨_, GN⟩ := GN.first
            obtain ⟨⟨xb2, a2, m2, k2, q0, q1, q2, _⟩, _⟩ := GN.first
            clear GN
            simp only [Nat.add_assoc, Nat.reduceAdd] at q0 q1 q2
            go_wp2_with fail
            refine (HC.out _).mono ?_
            rintro e w7 ⟨rfl, hb⟩
            have G7 := Lib.hid (G6.out.call hb)
            clear hb G6 HC q0 q1 q2 z0 z1 z2 z3 z4 z5 z6 z7 z8 z9 z10 i0 i1 i2 hcl
            obtain ⟨hcl, z0, z1, z2, z3, z4, z5, z6, z7, z8, z9, z10⟩ := cells11 (G7.out.kb.get (.head _))
            have G7a := Lib.hid ((((G7.out.set HL.out.2.2 HL.out.1 HL.out.2.1 2 (.int .u64 (l3 (ofT x2) : Nat)) rfl).set HL.out.2.2 HL.out.1 HL.out.2.1 3 (.int .u64 (l2 (ofT x2) : Nat)) rfl).set HL.out.2.2 HL.out.1 HL.out.2.1 4 (.int .u64 (l1 (ofT x2) : Nat)) rfl).set HL.out.2.2 HL.out.1 HL.out.2.1 5 (.int .u64 (l0 (ofT x2) : Nat)) (cs' := #[.int .u64 ((smallR x0).1 : Nat), .int .u64 ((smallR x1).1 : Nat), .int .u64 (l3 (ofT x2) : Nat), .int .u64 (l2 (ofT x2) : Nat), .int .u64 (l1 (ofT x2) : Nat), .int .u64 (l0 (ofT x2) : Nat), .string ⟨#[]⟩, .int .u64 0, .int .u64 0, .int .u64 0, .int .u64 0]) rfl)
            clear G7
            obtain ⟨⟨i0, i1, i2⟩, _⟩ := cells3 (G7a.out.kb.get (.tail _ (.head _)))
            obtain ⟨hcl2, y0, y1, y2', y3, y4, y5, y6, y7, y8, y9, y10⟩ := cells11 (G7a.out.kb.get (.head _))
            obtain ⟨_, GN⟩ := G7a.out.first
            obtain ⟨_, GN⟩ := GN.first
            obtain ⟨_, GN⟩ := GN.first
            obtain ⟨⟨xb3, a3, m3, k3, q0, q1, q2, _⟩, _⟩ := GN.first
            clear GN
            simp only [Nat.add_assoc, Nat.reduceAdd] at q0 q1 q2
            have hi3 : (3 : Int) < (n2 : Int) := hn4
            have G6 := Lib.hid (G7a.out.set HL.out.2.2 HL.out.1 HL.out.2.1 6 (.string (str x3.txt)) (cs' := #[.int .u64 ((smallR x0).1 : Nat), .int .u64 ((smallR x1).1 : Nat), .int .u64 (l3 (ofT x2) : Nat), .int .u64 (l2 (ofT x2) : Nat), .int .u64 (l1 (ofT x2) : Nat), .int .u64 (l0 (ofT x2) : Nat), .string (str x3.txt), .int .u64 0, .int .u64 0, .int .u64 0, .int .u64 0]) rfl)
            clear G7a
            unfold wordV
            obtain ⟨a, ha⟩ : ∃ a : ReplyP, a = ⟨(smallR x0).1, (smallR x1).1, ofT x2, x3.txt, 0⟩ := ⟨_, rfl⟩
            have hea : (#[.int .u64 ((smallR x0).1 : Nat), .int .u64 ((smallR x1).1 : Nat), .int .u64 (l3 (ofT x2) : Nat), .int .u64 (l2 (ofT x2) : Nat), .int .u64 (l1 (ofT x2) : Nat), .int .u64 (l0 (ofT x2) : Nat), .string (str x3.txt), .int .u64 0, .int .u64 0, .int .u64 0, .int .u64 0] : Array Value) = replyCells a := by rw [ha]; unfold replyCells; simp [lim_zero]; try rfl
            have G8 := Lib.hid (G6.out.cast hea)
            have HPa := Lib.hid (show a.Wf ∧ (∀ b : ReplyP, b.Wf → b.Ok 1 → b.enc 1 = s → a = b) from by rw [ha]; exact ⟨⟨small_lt _, small_lt _, ofT_lt _, by show 0 < W256; decide⟩, fun b hw ho h => reply1_of hw ho (HX.out b hw ho h)⟩)
            have hcA := G8.out.kb.get (.head _)
            unfold replyCells at hcA
            obtain ⟨⟨d0, d1, d2, d3, d4, d5, d6, d7, d8, d9, d10⟩, _⟩ := cells11 hcA
            clear hcA
            obtain ⟨⟨j0, j1, j2⟩, _⟩ := cells3 (G8.out.kb.get (.tail _ (.head _)))
            clear hea ha G6
            go_wp2_with fail
            refine (rputReply_c 1 HPa.out.1 _).mono ?_
            rintro e w9 ⟨rfl, hb⟩
            have G9 := Lib.hid (G8.out.call hb)
            clear hb G8 d0 d1 d2 d3 d4 d5 d6 d7 d8 d9 d10 j0 j1 j2 hcl
            have HN := Lib.hid (show ¬ (a.Ok 1 ∧ a.enc 1 = s) → ReplyIs 1 s none from fun hn b hw ho h => hn (by
              have := HPa.out.2 b hw ho h
              subst this
              exact ⟨ho, h⟩))
            obtain ⟨_, z0, z1, z2, z3, z4, z5, z6, z7, z8, z9, z10⟩ := cells11 (G9.out.kb.get (.tail _ (.tail _ (.head _))))
            by_cases hok : a.Ok 1
            · rw [putReplyV_ok hok]
              by_cases he : a.enc 1 = s
              · have hcmp : ((str (a.enc 1)).toList == y.toList) = true := by rw [HT.out, he]; simp
                have HO := Lib.hid (show ReplyIs 1 s (some a) from ⟨HPa.out.1, hok, he⟩)
                have hcA := G9.out.kb.get (.head _)
                unfold replyCells at hcA
                obtain ⟨⟨d0, d1, d2, d3, d4, d5, d6, d7, d8, d9, d10⟩, _⟩ := cells11 hcA
                clear hcA
                have hR := Lib.hid (set11 (G9.out.kb.get (.tail _ (.tail _ (.head _)))) (.int .u64 a.id) (.int .u64 a.nonce) (.int .u64 (l3 a.bal : Nat)) (.int .u64 (l2 a.bal : Nat)) (.int .u64 (l1 a.bal : Nat)) (.int .u64 (l0 a.bal : Nat)) (.string (str a.code)) (.int .u64 (l3 a.value : Nat)) (.int .u64 (l2 a.value : Nat)) (.int .u64 (l1 a.value : Nat)) (.int .u64 (l0 a.value : Nat)))
                have hB := Lib.hid (Below.set11 (b := w.heap.size) G9.out.kb.below (Nat.le_refl _) (.int .u64 a.id) (.int .u64 a.nonce) (.int .u64 (l3 a.bal : Nat)) (.int .u64 (l2 a.bal : Nat)) (.int .u64 (l1 a.bal : Nat)) (.int .u64 (l0 a.bal : Nat)) (.string (str a.code)) (.int .u64 (l3 a.value : Nat)) (.int .u64 (l2 a.value : Nat)) (.int .u64 (l1 a.value : Nat)) (.int .u64 (l0 a.value : Nat)))
                clear hok he HN G9 HT
                generalize str (a.enc 1) = z at *
                go_wp2_with fail
                exact bodyPost_ret (results_cell_slot Try.results18 _ _ _ _ _ _ _ _ rfl rfl hR.out Try.underlying45 rfl (by kernel_rfl)) rfl ⟨some a, HO.out, rfl, hB.out⟩
              · have hcmp : ((str (a.enc 1)).toList == y.toList) = false := by rw [HT.out]; simp [he]
                have HO := Lib.hid (HN.out (fun h => he h.2))
                have hR := Lib.hid (set11 (G9.out.kb.get (.tail _ (.tail _ (.head _)))) (.int .u64 0) (.int .u64 0) (.int .u64 0) (.int .u64 0) (.int .u64 0) (.int .u64 0) (.string ⟨#[]⟩) (.int .u64 0) (.int .u64 0) (.int .u64 0) (.int .u64 0))
                have hB := Lib.hid (Below.set11 (b := w.heap.size) G9.out.kb.below (Nat.le_refl _) (.int .u64 0) (.int .u64 0) (.int .u64 0) (.int .u64 0) (.int .u64 0) (.int .u64 0) (.string ⟨#[]⟩) (.int .u64 0) (.int .u64 0) (.int .u64 0) (.int .u64 0))
                clear hok he HN G9 HT
                generalize str (a.enc 1) = z at *
                go_wp2_with fail
                exact bodyPost_ret (results_cell_slot Try.results18 _ _ _ _ _ _ _ _ rfl rfl hR.out Try.underlying45 rfl (by kernel_rfl)) rfl ⟨none, HO.out, rfl, hB.out⟩
            · rw [putReplyV_no hok]
              have HO := Lib.hid (HN.out (fun h => hok h.1))
              have hR := Lib.hid (set11 (G9.out.kb.get (.tail _ (.tail _ (.head _)))) (.int .u64 0) (.int .u64 0) (.int .u64 0) (.int .u64 0) (.int .u64 0) (.int .u64 0) (.string ⟨#[]⟩) (.int .u64 0) (.int .u64 0) (.int .u64 0) (.int .u64 0))
              have hB := Lib.hid (Below.set11 (b := w.heap.size) G9.out.kb.below (Nat.le_refl _) (.int .u64 0) (.int .u64 0) (.int .u64 0) (.int .u64 0) (.int .u64 0) (.int .u64 0) (.string ⟨#[]⟩) (.int .u64 0) (.int .u64 0) (.int .u64 0) (.int .u64 0))
              clear hok HN G9 HT
              go_wp2_with fail
              exact bodyPost_ret (results_cell_slot Try.results18 _ _ _ _ _ _ _ _ rfl rfl hR.out Try.underlying45 rfl (by kernel_rfl)) rfl ⟨none, HO.out, rfl, hB.out⟩
          · have hn4 : ¬ (3 : Int) < (n2 : Int) := by have := HR.out; omega
            obtain ⟨a, ha⟩ : ∃ a : ReplyP, a = ⟨(smallR x0).1, 0, 0, [], 0⟩ := ⟨_, rfl⟩
            have hea : (#[.int .u64 ((smallR x0).1 : Nat), .int .u64 0, .int .u64 0, .int .u64 0, .int .u64 0, .int .u64 0, .string ⟨#[]⟩, .int .u64 0, .int .u64 0, .int .u64 0, .int .u64 0] : Array Value) = replyCells a := by rw [ha]; unfold replyCells; simp [lim_zero]; try rfl
            have G8 := Lib.hid (G4.out.cast hea)
            have HPa := Lib.hid (show a.Wf ∧ (∀ b : ReplyP, b.Wf → b.Ok 1 → b.enc 1 = s → a = b) from by rw [ha]; exact ⟨⟨small_lt _, by show 0 < M64; decide, by show 0 < W256; decide, by show 0 < W256; decide⟩, fun b hw ho h => by
                          have e := congrArg Fo.len (HX.out b hw ho h)
                          rw [rfo_len.2 rfl, fo_len, fo_len] at e
                          omega⟩)
            have hcA := G8.out.kb.get (.head _)
            unfold replyCells at hcA
            obtain ⟨⟨d0, d1, d2, d3, d4, d5, d6, d7, d8, d9, d10⟩, _⟩ := cells11 hcA
            clear hcA
            obtain ⟨⟨j0, j1, j2⟩, _⟩ := cells3 (G8.out.kb.get (.tail _ (.head _)))
            clear hea ha G4
            go_wp2_with fail
            refine (rputReply_c 1 HPa.out.1 _).mono ?_
            rintro e w9 ⟨rfl, hb⟩
            have G9 := Lib.hid (G8.out.call hb)
            clear hb G8 d0 d1 d2 d3 d4 d5 d6 d7 d8 d9 d10 j0 j1 j2 hcl
            have HN := Lib.hid (show ¬ (a.Ok 1 ∧ a.enc 1 = s) → ReplyIs 1 s none from fun hn b hw ho h => hn (by
              have := HPa.out.2 b hw ho h
              subst this
              exact ⟨ho, h⟩))
            obtain ⟨_, z0, z1, z2, z3, z4, z5, z6, z7, z8, z9, z10⟩ := cells11 (G9.out.kb.get (.tail _ (.tail _ (.head _))))
            by_cases hok : a.Ok 1
            · rw [putReplyV_ok hok]
              by_cases he : a.enc 1 = s
              · have hcmp : ((str (a.enc 1)).toList == y.toList) = true := by rw [HT.out, he]; simp
                have HO := Lib.hid (show ReplyIs 1 s (some a) from ⟨HPa.out.1, hok, he⟩)
                have hcA := G9.out.kb.get (.head _)
                unfold replyCells at hcA
                obtain ⟨⟨d0, d1, d2, d3, d4, d5, d6, d7, d8, d9, d10⟩, _⟩ := cells11 hcA
                clear hcA
                have hR := Lib.hid (set11 (G9.out.kb.get (.tail _ (.tail _ (.head _)))) (.int .u64 a.id) (.int .u64 a.nonce) (.int .u64 (l3 a.bal : Nat)) (.int .u64 (l2 a.bal : Nat)) (.int .u64 (l1 a.bal : Nat)) (.int .u64 (l0 a.bal : Nat)) (.string (str a.code)) (.int .u64 (l3 a.value : Nat)) (.int .u64 (l2 a.value : Nat)) (.int .u64 (l1 a.value : Nat)) (.int .u64 (l0 a.value : Nat)))
                have hB := Lib.hid (Below.set11 (b := w.heap.size) G9.out.kb.below (Nat.le_refl _) (.int .u64 a.id) (.int .u64 a.nonce) (.int .u64 (l3 a.bal : Nat)) (.int .u64 (l2 a.bal : Nat)) (.int .u64 (l1 a.bal : Nat)) (.int .u64 (l0 a.bal : Nat)) (.string (str a.code)) (.int .u64 (l3 a.value : Nat)) (.int .u64 (l2 a.value : Nat)) (.int .u64 (l1 a.value : Nat)) (.int .u64 (l0 a.value : Nat)))
                clear hok he HN G9 HT
                generalize str (a.enc 1) = z at *
                go_wp2_with fail
                exact bodyPost_ret (results_cell_slot Try.results18 _ _ _ _ _ _ _ _ rfl rfl hR.out Try.underlying45 rfl (by kernel_rfl)) rfl ⟨some a, HO.out, rfl, hB.out⟩
              · have hcmp : ((str (a.enc 1)).toList == y.toList) = false := by rw [HT.out]; simp [he]
                have HO := Lib.hid (HN.out (fun h => he h.2))
                have hR := Lib.hid (set11 (G9.out.kb.get (.tail _ (.tail _ (.head _)))) (.int .u64 0) (.int .u64 0) (.int .u64 0) (.int .u64 0) (.int .u64 0) (.int .u64 0) (.string ⟨#[]⟩) (.int .u64 0) (.int .u64 0) (.int .u64 0) (.int .u64 0))
                have hB := Lib.hid (Below.set11 (b := w.heap.size) G9.out.kb.below (Nat.le_refl _) (.int .u64 0) (.int .u64 0) (.int .u64 0) (.int .u64 0) (.int .u64 0) (.int .u64 0) (.string ⟨#[]⟩) (.int .u64 0) (.int .u64 0) (.int .u64 0) (.int .u64 0))
                clear hok he HN G9 HT
                generalize str (a.enc 1) = z at *
                go_wp2_with fail
                exact bodyPost_ret (results_cell_slot Try.results18 _ _ _ _ _ _ _ _ rfl rfl hR.out Try.underlying45 rfl (by kernel_rfl)) rfl ⟨none, HO.out, rfl, hB.out⟩
            · rw [putReplyV_no hok]
              have HO := Lib.hid (HN.out (fun h => hok h.1))
              have hR := Lib.hid (set11 (G9.out.kb.get (.tail _ (.tail _ (.head _)))) (.int .u64 0) (.int .u64 0) (.int .u64 0) (.int .u64 0) (.int .u64 0) (.int .u64 0) (.string ⟨#[]⟩) (.int .u64 0) (.int .u64 0) (.int .u64 0) (.int .u64 0))
              have hB := Lib.hid (Below.set11 (b := w.heap.size) G9.out.kb.below (Nat.le_refl _) (.int .u64 0) (.int .u64 0) (.int .u64 0) (.int .u64 0) (.int .u64 0) (.int .u64 0) (.string ⟨#[]⟩) (.int .u64 0) (.int .u64 0) (.int .u64 0) (.int .u64 0))
              clear hok HN G9 HT
              go_wp2_with fail
              exact bodyPost_ret (results_cell_slot Try.results18 _ _ _ _ _ _ _ _ rfl rfl hR.out Try.underlying45 rfl (by kernel_rfl)) rfl ⟨none, HO.out, rfl, hB.out⟩
        · have hb1 : (kind == 1) = false := by simp [h1]
          have hb2 : (kind == 2) = false := by simp [h2]
          obtain ⟨a, ha⟩ : ∃ a : ReplyP, a = ⟨(smallR x0).1, 0, 0, [], 0⟩ := ⟨_, rfl⟩
          have hea : (#[.int .u64 ((smallR x0).1 : Nat), .int .u64 0, .int .u64 0, .int .u64 0, .int .u64 0, .int .u64 0, .string ⟨#[]⟩, .int .u64 0, .int .u64 0, .int .u64 0, .int .u64 0] : Array Value) = replyCells a := by rw [ha]; unfold replyCells; simp [lim_zero]; try rfl
          have G8 := Lib.hid (G4.out.cast hea)
          have HPa := Lib.hid (show a.Wf ∧ (∀ b : ReplyP, b.Wf → b.Ok kind → b.enc kind = s → a = b) from by rw [ha]; exact ⟨⟨small_lt _, by show 0 < M64; decide, by show 0 < W256; decide, by show 0 < W256; decide⟩, fun b hw ho h => by
                      rcases ho.2 with h | h
                      · exact absurd h.1 h1
                      · exact absurd h.1 h2⟩)
          have hcA := G8.out.kb.get (.head _)
          unfold replyCells at hcA
          obtain ⟨⟨d0, d1, d2, d3, d4, d5, d6, d7, d8, d9, d10⟩, _⟩ := cells11 hcA
          clear hcA
          obtain ⟨⟨j0, j1, j2⟩, _⟩ := cells3 (G8.out.kb.get (.tail _ (.head _)))
          clear hea ha G4
          go_wp2_with fail
          refine (rputReply_c kind HPa.out.1 _).mono ?_
          rintro e w9 ⟨rfl, hb⟩
          have G9 := Lib.hid (G8.out.call hb)
          clear hb G8 d0 d1 d2 d3 d4 d5 d6 d7 d8 d9 d10 j0 j1 j2 hcl
          have HN := Lib.hid (show ¬ (a.Ok kind ∧ a.enc kind = s) → ReplyIs kind s none from fun hn b hw ho h => hn (by
            have := HPa.out.2 b hw ho h
            subst this
            exact ⟨ho, h⟩))
          obtain ⟨_, z0, z1, z2, z3, z4, z5, z6, z7, z8, z9, z10⟩ := cells11 (G9.out.kb.get (.tail _ (.tail _ (.head _))))
          by_cases hok : a.Ok kind
          · rw [putReplyV_ok hok]
            by_cases he : a.enc kind = s
            · have hcmp : ((str (a.enc kind)).toList == y.toList) = true := by rw [HT.out, he]; simp
              have HO := Lib.hid (show ReplyIs kind s (some a) from ⟨HPa.out.1, hok, he⟩)
              have hcA := G9.out.kb.get (.head _)
              unfold replyCells at hcA
              obtain ⟨⟨d0, d1, d2, d3, d4, d5, d6, d7, d8, d9, d10⟩, _⟩ := cells11 hcA
              clear hcA
              have hR := Lib.hid (set11 (G9.out.kb.get (.tail _ (.tail _ (.head _)))) (.int .u64 a.id) (.int .u64 a.nonce) (.int .u64 (l3 a.bal : Nat)) (.int .u64 (l2 a.bal : Nat)) (.int .u64 (l1 a.bal : Nat)) (.int .u64 (l0 a.bal : Nat)) (.string (str a.code)) (.int .u64 (l3 a.value : Nat)) (.int .u64 (l2 a.value : Nat)) (.int .u64 (l1 a.value : Nat)) (.int .u64 (l0 a.value : Nat)))
              have hB := Lib.hid (Below.set11 (b := w.heap.size) G9.out.kb.below (Nat.le_refl _) (.int .u64 a.id) (.int .u64 a.nonce) (.int .u64 (l3 a.bal : Nat)) (.int .u64 (l2 a.bal : Nat)) (.int .u64 (l1 a.bal : Nat)) (.int .u64 (l0 a.bal : Nat)) (.string (str a.code)) (.int .u64 (l3 a.value : Nat)) (.int .u64 (l2 a.value : Nat)) (.int .u64 (l1 a.value : Nat)) (.int .u64 (l0 a.value : Nat)))
              clear hok he HN G9 HT
              generalize str (a.enc kind) = z at *
              go_wp2_with fail
              exact bodyPost_ret (results_cell_slot Try.results18 _ _ _ _ _ _ _ _ rfl rfl hR.out Try.underlying45 rfl (by kernel_rfl)) rfl ⟨some a, HO.out, rfl, hB.out⟩
            · have hcmp : ((str (a.enc kind)).toList == y.toList) = false := by rw [HT.out]; simp [he]
              have HO := Lib.hid (HN.out (fun h => he h.2))
              have hR := Lib.hid (set11 (G9.out.kb.get (.tail _ (.tail _ (.head _)))) (.int .u64 0) (.int .u64 0) (.int .u64 0) (.int .u64 0) (.int .u64 0) (.int .u64 0) (.string ⟨#[]⟩) (.int .u64 0) (.int .u64 0) (.int .u64 0) (.int .u64 0))
              have hB := Lib.hid (Below.set11 (b := w.heap.size) G9.out.kb.below (Nat.le_refl _) (.int .u64 0) (.int .u64 0) (.int .u64 0) (.int .u64 0) (.int .u64 0) (.int .u64 0) (.string ⟨#[]⟩) (.int .u64 0) (.int .u64 0) (.int .u64 0) (.int .u64 0))
              clear hok he HN G9 HT
              generalize str (a.enc kind) = z at *
              go_wp2_with fail
              exact bodyPost_ret (results_cell_slot Try.results18 _ _ _ _ _ _ _ _ rfl rfl hR.out Try.underlying45 rfl (by kernel_rfl)) rfl ⟨none, HO.out, rfl, hB.out⟩
          · rw [putReplyV_no hok]
            have HO := Lib.hid (HN.out (fun h => hok h.1))
            have hR := Lib.hid (set11 (G9.out.kb.get (.tail _ (.tail _ (.head _)))) (.int .u64 0) (.int .u64 0) (.int .u64 0) (.int .u64 0) (.int .u64 0) (.int .u64 0) (.string ⟨#[]⟩) (.int .u64 0) (.int .u64 0) (.int .u64 0) (.int .u64 0))
            have hB := Lib.hid (Below.set11 (b := w.heap.size) G9.out.kb.below (Nat.le_refl _) (.int .u64 0) (.int .u64 0) (.int .u64 0) (.int .u64 0) (.int .u64 0) (.int .u64 0) (.string ⟨#[]⟩) (.int .u64 0) (.int .u64 0) (.int .u64 0) (.int .u64 0))
            clear hok HN G9 HT
            go_wp2_with fail
            exact bodyPost_ret (results_cell_slot Try.results18 _ _ _ _ _ _ _ _ rfl rfl hR.out Try.underlying45 rfl (by kernel_rfl)) rfl ⟨none, HO.out, rfl, hB.out⟩
    · have HN := Lib.hid (show ReplyIs kind s none from fun a hw ho h => h3 (by rw [HX.out a hw ho h]; exact rfo_len.1))
      have hn3 : (n2 : Int) < 2 := by omega
      obtain ⟨⟨i0, i1, i2⟩, _⟩ := cells3 (K1.out.get (.head _))
      obtain ⟨_, z0, z1, z2, z3, z4, z5, z6, z7, z8, z9, z10⟩ := cells11 (K1.out.get (.tail _ (.head _)))
      have hR := Lib.hid (set11 (K1.out.get (.tail _ (.head _))) (.int .u64 0) (.int .u64 0) (.int .u64 0) (.int .u64 0) (.int .u64 0) (.int .u64 0) (.string ⟨#[]⟩) (.int .u64 0) (.int .u64 0) (.int .u64 0) (.int .u64 0))
      have hB := Lib.hid (Below.set11 (b := w.heap.size) K1.out.below (Nat.le_refl _) (.int .u64 0) (.int .u64 0) (.int .u64 0) (.int .u64 0) (.int .u64 0) (.int .u64 0) (.string ⟨#[]⟩) (.int .u64 0) (.int .u64 0) (.int .u64 0) (.int .u64 0))
      clear hi HX hlen h3 K1 HT
      generalize w1.heap.size = g1 at *
      go_wp2_with fail
      exact bodyPost_ret (results_cell_slot Try.results18 _ _ _ _ _ _ _ _ rfl rfl hR.out Try.underlying45 rfl (by kernel_rfl)) rfl ⟨none, HN.out, rfl, hB.out⟩
  · have HN := Lib.hid (show ReplyIs kind s none from fun a hw ho h => her (by
      rw [decV_of (x := a.it kind) (s := s.drop 4) (by rw [← h]; exact ReplyP.body_of.symm) (by have := ReplyP.body_len hw ho; unfold ReplyP.body at this; omega) (a.dep kind)]))
    generalize (decV (s.drop 4)).2 = er at *
    have hne : ¬ (er : Int) = 0 := by omega
    obtain ⟨_, z0, z1, z2, z3, z4, z5, z6, z7, z8, z9, z10⟩ := cells11 (K1.out.get (.tail _ (.head _)))
    have hR := Lib.hid (set11 (K1.out.get (.tail _ (.head _))) (.int .u64 0) (.int .u64 0) (.int .u64 0) (.int .u64 0) (.int .u64 0) (.int .u64 0) (.string ⟨#[]⟩) (.int .u64 0) (.int .u64 0) (.int .u64 0) (.int .u64 0))
    have hB := Lib.hid (Below.set11 (b := w.heap.size) K1.out.below (Nat.le_refl _) (.int .u64 0) (.int .u64 0) (.int .u64 0) (.int .u64 0) (.int .u64 0) (.int .u64 0) (.string ⟨#[]⟩) (.int .u64 0) (.int .u64 0) (.int .u64 0) (.int .u64 0))
    clear hi K1 HT
    go_wp2_with fail
    exact bodyPost_ret (results_cell_slot Try.results18 _ _ _ _ _ _ _ _ rfl rfl hR.out Try.underlying45 rfl (by kernel_rfl)) rfl ⟨none, HN.out, rfl, hB.out⟩
end Go.Proofs.Ytbhijjegkpjkcaa
end
