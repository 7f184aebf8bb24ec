/- Merged: Vu, Vv, Vz. -/
import Derived.Test.YtekoaheiapddiaaGreatU21
import Derived.Test.YtekoaheiapddiaaGreatU17
import Derived.Test.YtekoaheiapddiaaGreatU16
import Derived.Test.YtekoaheiapddiaaGreatU18
import Derived.Test.YtekoaheiapddiaaGreatU05
import Derived.Deep.CutRange
section
namespace Go.Proofs.YtekoaheiapddiaaGreat
open Go.RowKit Go.Joins

def rbP (x k j : Nat) : Nat := if j < k then byteOf x (31 - j) else 0
theorem rbP_zero (x : Nat) : rbP x 0 = fun _ => 0 := by funext j; unfold rbP; rw [if_neg (by omega)]
theorem rbP_step (x k j : Nat) : upd (rbP x k) k (byteOf x (31 - k)) j = rbP x (k + 1) j := by
  unfold upd rbP
  by_cases e : j = k
  · subst e; rw [if_pos rfl, if_pos (by omega)]
  · rw [if_neg e]
    by_cases h : j < k
    · rw [if_pos h, if_pos (by omega)]
    · rw [if_neg h, if_neg (by omega)]
theorem byteOf_lt (x j : Nat) : byteOf x j < 256 := Nat.mod_lt _ (by decide)
theorem rbP_lt (x k j : Nat) : rbP x k j < 256 := by
  unfold rbP; split
  · exact byteOf_lt _ _
  · omega
theorem rbP_all (x : Nat) : txt 32 (rbP x 32) = str (wordL x) := by
  have h := txt_byteAt (bytesOf x)
  rw [bytesOf_size] at h
  rw [← bytesOf_str, ← h]
  refine txt_congr fun j hj => ?_
  have h1 := byteAt_bytes x j hj
  have h2 : byteAtK (bytesOf x) j = byteAt (bytesOf x) j := rfl
  rw [h2, h1]
  unfold rbP
  rw [if_pos hj]
theorem rmake32 (W : World) : (Instr.makeSlice 218 (.int .i64 32) (.int .i64 32)).run Tryz.prog W = .ok (.slice (some ⟨W.heap.size, 0, none⟩) 32 32) (W.alloc (.cells (madeCells #[.int .u8 0] 32) 5)) := by
  obtain ⟨i0, hi, hz0, hz1, hz2⟩ := info_parts infoByte
  have h := run_makeSlice (P := Tryz.prog) W 218 5 i0 _ Tryz.underlying218 hi hz0 .i64 .i64 32 32 (by omega) (by omega) (by rw [hz1]; decide) (by rw [hz2]; decide) (by decide)
  rw [hz1] at h
  exact h
theorem Bt.made (W : World) (n x : Nat) : Bt W.heap.size n (rbP x 0) (W.alloc (.cells (madeCells #[.int .u8 0] n) 5)) := fun j hj => by
  refine ⟨?_, free_of (heap_alloc_new W _) j⟩
  rw [cell_of (heap_alloc_new W _) j, ← Array.getElem?_toList, toList_madeCells_one, List.getElem?_replicate, if_pos hj, rbP_zero]
  rfl
set_option maxRecDepth 100000 in
set_option maxHeartbeats 2000000 in
theorem rBytes_c {n : Nat} (hn : n < W256) (w : World) : Calls Tryz.prog 114 #[wordV n] w fun e w' => e = .returned (.string (str (wordL n))) ∧ Below w.heap.size w w' := by
  have HD := Lib.hid (fun V => Digits_b (dig_of hn) V)
  have K0 := Lib.hid ((Kb.start w).box #[.int .u64 (l3 n : Nat), .int .u64 (l2 n : Nat), .int .u64 (l1 n : Nat), .int .u64 (l0 n : Nat)] 61)
  have hmk := rmake32
  clear hn
  unfold wordV
  go_enter Tryz.func114, Tryz.ntmps114
  go_wp2_with fail
  refine (HD.out _).mono ?_
  rintro e w1 ⟨v, rfl, ⟨g, cap, rfl, hg, hc⟩, hb⟩
  have hB1 := Lib.hid (K0.out.call hb).below
  have hal : Below w1.heap.size w1 (w1.alloc (.cells (madeCells #[.int .u8 0] 32) 5)) := (Below.refl _ _).alloc (Nat.le_refl _) _
  have H0 := Lib.hid (show Below w.heap.size w (w1.alloc (.cells (madeCells #[.int .u8 0] 32) 5)) ∧ (∀ j, j < 32 → (w1.alloc (.cells (madeCells #[.int .u8 0] 32) 5)).cell? ⟨g, j, none⟩ = some (.int .i64 (byteOf n j : Nat))) ∧ Bt w1.heap.size 32 (rbP n 0) (w1.alloc (.cells (madeCells #[.int .u8 0] 32) 5)) from
    ⟨hB1.out.trans (hal.mono hB1.out.size), fun j hj => (hal.cell (p := ⟨g, j, none⟩) hg).trans (hc j hj), Bt.made w1 32 n⟩)
  have HG := Lib.hid (And.intro (Nat.ne_of_lt hg) hB1.out.size)
  clear hb hg hc hal HD K0 hB1
  go_wp2_with fail
  generalize w1.alloc (.cells (madeCells #[.int .u8 0] 32) 5) = W1 at *
  generalize hg1 : w1.heap.size = g1 at *
  go_loopw [5] (fun i wr => ∃ k : Nat, i = .int .i64 k ∧ k ≤ 32 ∧ Below w.heap.size w wr ∧ (∀ j, j < 32 → wr.cell? ⟨g, j, none⟩ = some (.int .i64 (byteOf n j : Nat))) ∧ Bt g1 32 (rbP n k) wr) (fun i _ => 32 - (intOf i).toNat)
  case atStart => exact ⟨0, rfl, by omega, H0.out⟩
  case round =>
    clear H0
    obtain ⟨k, rfl, hk, hB, hc, ht⟩ := hrel
    by_cases hk32 : k < 32
    · obtain ⟨q, hq⟩ : ∃ q, q = 31 - k := ⟨_, rfl⟩
      have hq31 : q ≤ 31 := by omega
      have hq' : 31 - (k : Int) = (q : Int) := by omega
      have hcq := hc q (by omega)
      have hz := byteOf_lt n q
      have hset := ht.set hk32 (byteOf n q)
      have hset' := hset.congr (Q := rbP n (k + 1)) (fun j _ => by rw [hq]; exact rbP_step n k j)
      have d0 := (ht k hk32).1
      have e0 := (ht k hk32).2
      have HN := Lib.hid (And.intro hB (And.intro hc hset'))
      clear hB hc ht hset hset' hq
      generalize byteOf n q = z at *
      have hw1 : IntKind.u8.wrap (z : Int) = (z : Int) := by rw [IntKind.wrap_u8]; omega
      have hw2 : (z : Int) % 256 = (z : Int) := by omega
      have hkl : (k : Int) < 32 := by omega
      clear hz hk32
      go_wp2_with fail
      go_roundw
      case rel => exact ⟨k + 1, by go_num, by omega, HN.out.1.setCell (p := ⟨g1, k, none⟩) HG.out.2 _, fun j hj => (World.cell?_setCell_other _ _ _ _ (by intro e; injection e with e1 e2; exact HG.out.1 e1.symm)).trans (HN.out.2.1 j hj), HN.out.2.2⟩
      case measure => simp [intOf]; omega
    · obtain rfl : k = 32 := by omega
      have hcv := ht.conv (rbP_lt n 32) 32
      rw [rbP_all] at hcv
      have HB := Lib.hid hB
      clear hB hc ht hk32
      go_wp2_with fail
      go_ret
      exact ⟨rfl, HB.out⟩

end Go.Proofs.YtekoaheiapddiaaGreat
end
section
namespace Go.Proofs.YtekoaheiapddiaaGreat
open Go.RowKit

set_option maxRecDepth 100000 in
theorem rtext_c (s : ByteArray) (w : World) : Calls Tryz.prog 113 #[.string s] w fun e w' => e = .returned (textV s) ∧ Below w.heap.size w w' := by
  have H := Lib.hid (And.intro ((Below.refl w.heap.size w).alloc (Nat.le_refl _) (.cells #[.bool false, .string s, .slice none 0 0] 125)) (heap_alloc_new w (.cells #[.bool false, .string s, .slice none 0 0] 125)))
  unfold textV
  go_enter Tryz.func113, Tryz.ntmps113
  go_wp2_with fail
  exact bodyPost_ret (results_cell_row Tryz.results113 _ _ _ _ _ _ _ rfl H.out.2 Tryz.underlying125 rfl (by kernel_rfl)) rfl ⟨rfl, H.out.1⟩
set_option maxRecDepth 100000 in
theorem rnumber_c (n : Nat) (hn : n < M64) (w : World) : Calls Tryz.prog 112 #[.int .u64 n] w fun e w' => e = .returned (textV (str (num n))) ∧ Below w.heap.size w w' := by
  have HC := Lib.hid (fun V => rbytes_c n hn V)
  have h0 := heap_alloc_new w (.cells #[.bool false, .string ⟨#[]⟩, .slice none 0 0] 125)
  have H := Lib.hid (And.intro ((Below.refl w.heap.size w).alloc (Nat.le_refl _) (.cells #[.bool false, .string ⟨#[]⟩, .slice none 0 0] 125)) h0)
  clear h0 hn
  generalize str (num n) = t at *
  unfold textV
  go_enter Tryz.func112, Tryz.ntmps112
  go_wp2_with fail
  refine (HC.out _).mono ?_
  rintro e w1 ⟨rfl, hb⟩
  have h1 := (hb.block _ (lt_of H.out.2)).trans H.out.2
  obtain ⟨_, z0, z1, z2⟩ := cells3 h1
  have H1 := Lib.hid (And.intro (H.out.1.trans (hb.mono H.out.1.size)) h1)
  clear h1 hb H
  go_wp2_with fail
  exact bodyPost_ret (results_cell_row Tryz.results112 _ _ _ _ _ _ _ rfl (heap_set3 H1.out.2 _ _ _) Tryz.underlying125 rfl (by kernel_rfl)) rfl ⟨rfl, below_set3 H1.out.1 (Nat.le_refl _) _ _ _⟩
/-- A row of the reference's items just made. -/
theorem own_litR (W : World) (f : Fo) (cs : Array Value) (hc : Cel (fun _ => False) f cs.toList W) (n : Nat) (hn : n = f.len) (hm : n ≤ 1000) : OwnR W.heap.size f (.slice (some ⟨W.heap.size, 0, none⟩) n n) (W.alloc (.cells cs 125)) := by
  subst hn
  have hl : cs.size = f.len * 3 := by rw [← Array.length_toList]; exact hc.length
  refine ⟨fun _ => False, cs.toList, ⟨by rw [Array.length_toList]; exact hl, Or.inr ⟨W.heap.size, f.len, cs, rfl, Nat.le_refl _, heap_alloc_new _ _, Nat.le_refl _, by unfold maxLen; omega, hl, ?_⟩⟩, hc.kept (fun _ h => h.elim) _ _, fun _ h => h.elim⟩
  rw [List.take_of_length_le (by rw [Array.length_toList]; omega)]
/-- The list of items as bytes. -/
theorem renc_list {S : Nat → Prop} {f : Fo} {v : Value} {w : World} (h : SlF S f v w) (hS : ∀ k, S k → k < w.heap.size) (hl : f.enc.length ≤ 60000) :
    Calls Tryz.prog 115 #[.agg #[.bool true, .string ⟨#[]⟩, v]] w fun e w' => e = .returned (.string (str (It.list f).enc)) ∧ Below w.heap.size w w' :=
  renc_c (.list f) (by have := It.list_len f (by omega); omega) S _ w hS ⟨v, rfl, h⟩
end Go.Proofs.YtekoaheiapddiaaGreat
end
section
namespace Go.Proofs.YtekoaheiapddiaaGreat
open Go.RowKit

/-- Some items more at once. -/
theorem wp_append_foR {o : Oper} {a : Act} {K : Act → World → Prop} {Q : Exit → Act → World → Prop} {W : World} (s x : Operand)
    (ho : o.op = .call { callee := .builtin .append, args := #[s, x], argTypes := #[123, 123] })
    (B : Nat) (v : Value) (f g : Fo) (m : Nat) (cs : List Value) (hs : a.eval s = v) (h : OwnR B f v W) (hm : m = g.len) (hone : ∀ u ∈ cs, u.oneCell' = true) (hcel : Cel (fun _ => False) g cs W)
    (q : Nat) (hx : a.eval x = .slice (some ⟨q, 0, none⟩) m m) (hz : W.heap[q]? = some (.cells cs.toArray 125 (0, 0))) (hB : B ≤ W.heap.size) (hn : f.len + m < 1000000)
    (hK : ∀ v' W', OwnR B (f.app g) v' W' → W.grownBy W' v.ownBlock → (v'.ownBlock = v.ownBlock ∨ v'.ownBlock = some W.heap.size) → K (a.put o.dst v') W') : Oper.wp Tryz.prog o a W K Q := by
  obtain ⟨i0, hi, hz0, hz1, hz2⟩ := info_parts infoItemR
  obtain ⟨S0, xs, hown, hc, hS0⟩ := h
  subst hm
  obtain ⟨v', W', hr, h1, h2, h3, h4⟩ := run_append_own_at (P := Tryz.prog) W B 123 o.type 125 i0 _ 3 48 Tryz.underlying123 hi hz0 hz1 hz2 rfl (by omega) v f.len xs hown ⟨q, 0, none⟩ g.len g.len cs hcel.length (by
    intro j u hj
    have e : (⟨q, 0, none⟩ : Addr).add j = ⟨q, j, none⟩ := by unfold Addr.add; split <;> simp_all
    rw [e, cell_of hz]
    simpa using hj) hone (by unfold maxLen; omega) (by omega) hB
  unfold Oper.wp execOp
  simp only [ho, resolve, invoke, builtin, Sem.run_bind, Sem.run_pure, Result.andThen_ok, List.map_toArray, List.map_cons, List.map_nil, hs, hx, hr]
  · refine hK v' W' ?_ h2 h4
    have hk0 : ∀ k, S0 k → W'.heap[k]? = W.heap[k]? := fun k hk => h2.block k (hS0 k hk).2.1 (fun e => (hS0 k hk).2.2 e.symm)
    refine ⟨S0, xs ++ cs, ?_, ?_, ?_⟩
    · rw [Fo.len_app]; exact h1
    · exact Cel.app ((hcel.kept (fun _ h => h.elim) _ _).mono (fun _ h => h.elim) _ _) _ _ (hc.kept hk0 _ _)
    · intro k hk
      have hkk := hS0 k hk
      refine ⟨hkk.1, Nat.lt_of_lt_of_le hkk.2.1 h2.size, ?_⟩
      rcases h4 with h4 | h4
      · rw [h4]; exact hkk.2.2
      · rw [h4]; intro e; injection e with e; omega
/-- The reference's reply in its box. -/
def RRepB (w : World) (r : ReplyP) (V : World) : Prop := Below w.heap.size w V ∧ V.heap[w.heap.size]? = some (.cells (replyCells r) 131 (0, 0))
theorem RRepB.cells {w V : World} {r : ReplyP} (h : RRepB w r V) : V.cell? ⟨w.heap.size, 0, none⟩ = some (.int .u64 r.id) ∧ V.cell? ⟨w.heap.size, 1, none⟩ = some (.int .u64 r.nonce) ∧ V.cell? ⟨w.heap.size, 2, none⟩ = some (.int .u64 (l3 r.bal : Nat)) ∧ V.cell? ⟨w.heap.size, 3, none⟩ = some (.int .u64 (l2 r.bal : Nat)) ∧ V.cell? ⟨w.heap.size, 4, none⟩ = some (.int .u64 (l1 r.bal : Nat)) ∧ V.cell? ⟨w.heap.size, 5, none⟩ = some (.int .u64 (l0 r.bal : Nat)) ∧ V.cell? ⟨w.heap.size, 6, none⟩ = some (.string (str r.code)) ∧ V.cell? ⟨w.heap.size, 7, none⟩ = some (.int .u64 (l3 r.value : Nat)) ∧ V.cell? ⟨w.heap.size, 8, none⟩ = some (.int .u64 (l2 r.value : Nat)) ∧ V.cell? ⟨w.heap.size, 9, none⟩ = some (.int .u64 (l1 r.value : Nat)) ∧ V.cell? ⟨w.heap.size, 10, none⟩ = some (.int .u64 (l0 r.value : Nat)) :=
  ⟨cell_of h.2 0, cell_of h.2 1, cell_of h.2 2, cell_of h.2 3, cell_of h.2 4, cell_of h.2 5, cell_of h.2 6, cell_of h.2 7, cell_of h.2 8, cell_of h.2 9, cell_of h.2 10⟩
theorem RRepB.call {w V V' : World} {r : ReplyP} (h : RRepB w r V) (hb : Below V.heap.size V V') : RRepB w r V' := ⟨h.1.trans (hb.mono h.1.size), (hb.block _ (lt_of h.2)).trans h.2⟩
theorem RRepB.start (w : World) (r : ReplyP) : RRepB w r (w.alloc (.cells (replyCells r) 131)) := ⟨(Below.refl _ _).alloc (Nat.le_refl _) _, heap_alloc_new _ _⟩
theorem fo1_cel (s : List UInt8) (W : World) : Cel (fun _ => False) (.text s .nil) [.bool false, .string (str s), .slice none 0 0] W := ⟨_, rfl, rfl⟩
set_option maxRecDepth 100000 in
set_option maxHeartbeats 8000000 in
theorem rputReply_c (kind : Int) {r : ReplyP} (hw : r.Wf) (w : World) : Calls Tryz.prog 60 #[.int .i64 kind, replyV r] w fun e w' => e = .returned (putReplyV kind r) ∧ Below w.heap.size w w' := by
  have HC1 := Lib.hid (fun W => rnumber_c r.id hw.id W)
  have HC2 := Lib.hid (fun W => rnumber_c r.nonce hw.nonce W)
  have HC3 := Lib.hid (fun W => rBytes_c hw.bal W)
  have HC4 := Lib.hid (fun W => rtext_c (str (wordL r.bal)) W)
  have HC5 := Lib.hid (fun W => rtext_c (str r.code) W)
  have HC6 := Lib.hid (fun W => rBytes_c hw.value W)
  have HC7 := Lib.hid (fun W => rtext_c (str (wordL r.value)) W)
  unfold textV at HC1 HC2 HC4 HC5 HC7
  unfold wordV at HC3 HC6
  have HQ := Lib.hid (fun W => eq_zero hw.value W)
  have HQ2 := Lib.hid (fun W => eq_acc hw.bal r.nonce r.code W)
  unfold wordV at HQ
  have K0 := Lib.hid (RRepB.start w r)
  have HW := Lib.hid hw
  obtain ⟨c0, c1, c2, c3, c4, c5, c6, c7, c8, c9, c10⟩ := K0.out.cells
  have hsz : (str r.code).size = r.code.length := str_size _
  clear hw
  unfold replyCells at c0 c1 c2 c3 c4 c5 c6 c7 c8 c9 c10
  unfold replyV
  go_enter Tryz.func60, Tryz.ntmps60
  go_wp2_with fail
  refine (HC1.out _).mono ?_
  rintro e w1 ⟨rfl, hb⟩
  have H1 : RRepB w r w1 := K0.out.call hb
  have H2 : RRepB w r (w1.alloc (.cells #[.bool false, .string (str (num r.id)), .slice none 0 0] 125)) := H1.call ((Below.refl _ _).alloc (Nat.le_refl _) _)
  have hown := own_litR w1 (.text (num r.id) .nil) #[.bool false, .string (str (num r.id)), .slice none 0 0] (fo1_cel _ _) 1 rfl (by omega)
  have HB := Lib.hid (And.intro H2 (And.intro hown (And.intro (show w.heap.size < w1.heap.size from lt_of H1.2) (show w1.heap.size ≤ (w1.alloc (.cells #[.bool false, .string (str (num r.id)), .slice none 0 0] 125)).heap.size by simp))))
  clear c0 c1 c2 c3 c4 c5 c6 c7 c8 c9 c10 hb K0 H1 hown HC1
  obtain ⟨c0, c1, c2, c3, c4, c5, c6, c7, c8, c9, c10⟩ := H2.cells
  clear H2
  by_cases hlong : 24576 < r.code.length
  · have hok : ¬ r.Ok kind := fun h => by have := h.1; omega
    have hlg : (24576 : Int) < ((str r.code).size : Int) := by rw [hsz]; omega
    clear hsz hlong
    have HO := Lib.hid (putReplyV_no hok)
    clear hok
    go_wp2_with fail
    go_ret2
    exact ⟨by rw [HO.out]; rfl, HB.out.1.1⟩
  · have hlg : ¬ (24576 : Int) < ((str r.code).size : Int) := by rw [hsz]; omega
    clear hsz
    by_cases h1 : kind = 1
    · subst h1
      by_cases h0 : r.value = 0
      · have hok : r.Ok 1 := ⟨by omega, Or.inl ⟨rfl, h0⟩⟩
        have heq := HQ.out
        rw [show decide (r.value = 0) = true by simp [h0]] at heq
        clear h0 hlong
        have HO := Lib.hid (putReplyV_ok hok)
        have HE := Lib.hid (fun (S : Nat → Prop) v W (h : SlF S (r.fo 1) v W) (hS : ∀ k, S k → k < W.heap.size) => renc_list h hS (by have := ReplyP.fo_len HW.out hok; omega))
        have hbl := ReplyP.body_len HW.out hok
        have hbs : (str (r.body 1)).size = (r.body 1).length := str_size _
        have HS5 := Lib.hid (fun W => rsum_c (s := str (r.body 1)) (by rw [hbs]; unfold maxLen; omega) W)
        have hc := conv_be4 (sumN (str (r.body 1))) (sumN_lt4 _)
        have hF : str (be4 (sumN (str (r.body 1)))) ++ str (r.body 1) = str (r.enc 1) := str_append _ _
        have hz4 : (str (be4 (sumN (str (r.body 1))))).size = 4 := by rw [str_size]; rfl
        have HR := Lib.hid hF
        have hn := sumN_lt4 (r.body 1)
        rw [show str (It.list (r.fo 1)).enc = str (r.body 1) from rfl] at HE
        generalize str (r.enc 1) = z at *
        generalize sumN (str (r.body 1)) = n at *
        generalize str (be4 n) = y at *
        generalize str (r.body 1) = x at *
        have hbig : ¬ 9223372036854775807 < y.size + x.size := by omega
        clear hF hbl hbs
        clear hok
        have HX := Lib.hid (show r.fo 1 = (Fo.text (num r.id) .nil).app (.text (num r.nonce) (.text (wordL r.bal) (.text r.code .nil))) from rfl)
        go_upto_region 6 with fail
        clear heq hlg c0 c1 c2 c3 c4 c5 c6 c7 c8 c9 c10
        have H0 : RRepB w r (w1.alloc (.cells #[.bool false, .string (str (num r.id)), .slice none 0 0] 125)).drew := HB.out.1.call (Below.refl _ _).drew
        have ho : OwnR w1.heap.size (.text (num r.id) .nil) (.slice (some ⟨w1.heap.size, 0, none⟩) 1 1) (w1.alloc (.cells #[.bool false, .string (str (num r.id)), .slice none 0 0] 125)).drew := HB.out.2.1.kept (fun _ _ _ => rfl) (Nat.le_refl _)
        have hq1 : w.heap.size < w1.heap.size ∧ w1.heap.size ≤ (w1.alloc (.cells #[.bool false, .string (str (num r.id)), .slice none 0 0] 125)).drew.heap.size := ⟨HB.out.2.2.1, HB.out.2.2.2⟩
        generalize (w1.alloc (.cells #[.bool false, .string (str (num r.id)), .slice none 0 0] 125)) = U at *
        generalize w1.heap.size = q9 at *
        have HS := Lib.hid (fun (V : World) (hV : RRepB w r V) => hV.cells)
        refine Drawn.start (fun V => RRepB w r V) (fun _ => false) (by kernel_rfl) ?_
        refine Drawn.take 0 (some 28) (v := ?_) rfl rfl (by kernel_rfl) (by kernel_rfl) (by kernel_rfl) (by kernel_rfl) (by kernel_rfl) rfl (fun _ _ _ h => h) (Or.inl ⟨rfl, ?_⟩) H0 ?_
        rotate_left
        · intro W hW; have hW := HS.out W hW; go_simp; try with_reducible rfl
        simp only [put_list, List.set]
        refine Drawn.take 1 (some 29) (v := ?_) rfl rfl (by kernel_rfl) (by kernel_rfl) (by kernel_rfl) (by kernel_rfl) (by kernel_rfl) rfl (fun _ _ _ h => h) (Or.inl ⟨rfl, ?_⟩) H0 ?_
        rotate_left
        · intro W hW; have hW := HS.out W hW; go_simp; try with_reducible rfl
        simp only [put_list, List.set]
        refine Drawn.take 2 (some 30) (v := ?_) rfl rfl (by kernel_rfl) (by kernel_rfl) (by kernel_rfl) (by kernel_rfl) (by kernel_rfl) rfl (fun _ _ _ h => h) (Or.inl ⟨rfl, ?_⟩) H0 ?_
        rotate_left
        · intro W hW; have hW := HS.out W hW; go_simp; try with_reducible rfl
        simp only [put_list, List.set]
        refine Drawn.take 3 (some 31) (v := ?_) rfl rfl (by kernel_rfl) (by kernel_rfl) (by kernel_rfl) (by kernel_rfl) (by kernel_rfl) rfl (fun _ _ _ h => h) (Or.inl ⟨rfl, ?_⟩) H0 ?_
        rotate_left
        · intro W hW; have hW := HS.out W hW; go_simp; try with_reducible rfl
        simp only [put_list, List.set]
        refine Drawn.take 5 (some 33) (v := ?_) rfl rfl (by kernel_rfl) (by kernel_rfl) (by kernel_rfl) (by kernel_rfl) (by kernel_rfl) rfl (fun _ _ _ h => h) (Or.inl ⟨rfl, ?_⟩) H0 ?_
        rotate_left
        · intro W hW; have hW := HS.out W hW; go_simp; try with_reducible rfl
        simp only [put_list, List.set]
        refine Drawn.take 6 (some 34) (v := ?_) rfl rfl (by kernel_rfl) (by kernel_rfl) (by kernel_rfl) (by kernel_rfl) (by kernel_rfl) rfl (fun _ _ _ h => h) (Or.inl ⟨rfl, ?_⟩) H0 ?_
        rotate_left
        · intro W hW; have hW := HS.out W hW; go_simp; try with_reducible rfl
        simp only [put_list, List.set]
        refine Drawn.take 7 (some 35) (v := ?_) rfl rfl (by kernel_rfl) (by kernel_rfl) (by kernel_rfl) (by kernel_rfl) (by kernel_rfl) rfl (fun _ _ _ h => h) (Or.inl ⟨rfl, ?_⟩) H0 ?_
        rotate_left
        · intro W hW; have hW := HS.out W hW; go_simp; try with_reducible rfl
        simp only [put_list, List.set]
        refine Drawn.take 10 (some 38) (v := ?_) rfl rfl (by kernel_rfl) (by kernel_rfl) (by kernel_rfl) (by kernel_rfl) (by kernel_rfl) rfl (fun _ _ _ h => h) (Or.inl ⟨rfl, ?_⟩) H0 ?_
        rotate_left
        · intro W hW; have hW := HS.out W hW; go_simp; try with_reducible rfl
        simp only [put_list, List.set]
        refine Drawn.take 11 (some 39) (v := ?_) rfl rfl (by kernel_rfl) (by kernel_rfl) (by kernel_rfl) (by kernel_rfl) (by kernel_rfl) rfl (fun _ _ _ h => h) (Or.inl ⟨rfl, ?_⟩) H0 ?_
        rotate_left
        · intro W hW; have hW := HS.out W hW; go_simp; try with_reducible rfl
        simp only [put_list, List.set]
        refine Drawn.take 12 (some 40) (v := ?_) rfl rfl (by kernel_rfl) (by kernel_rfl) (by kernel_rfl) (by kernel_rfl) (by kernel_rfl) rfl (fun _ _ _ h => h) (Or.inl ⟨rfl, ?_⟩) H0 ?_
        rotate_left
        · intro W hW; have hW := HS.out W hW; go_simp; try with_reducible rfl
        simp only [put_list, List.set]
        refine Drawn.only 4 (by kernel_rfl) rfl rfl (fun K hK => ?_)
        go_simp
        refine (HC2.out _).mono ?_
        rintro e V4 ⟨rfl, hb⟩
        refine hK _ _ (fun _ _ => H0.call hb) ?_
        replace H0 := H0.call hb
        replace ho := ho.kept (fun k _ hk => hb.block k hk) hb.size
        replace hq1 := And.intro hq1.1 (Nat.le_trans hq1.2 hb.size)
        clear hK K hb
        try simp only [put_list, List.set]
        refine Drawn.only 8 (by kernel_rfl) rfl rfl (fun K hK => ?_)
        go_simp
        refine (HC3.out _).mono ?_
        rintro e V8 ⟨rfl, hb⟩
        refine hK _ _ (fun _ _ => H0.call hb) ?_
        replace H0 := H0.call hb
        replace ho := ho.kept (fun k _ hk => hb.block k hk) hb.size
        replace hq1 := And.intro hq1.1 (Nat.le_trans hq1.2 hb.size)
        clear hK K hb
        try simp only [put_list, List.set]
        refine Drawn.only 9 (by kernel_rfl) rfl rfl (fun K hK => ?_)
        go_simp
        refine (HC4.out _).mono ?_
        rintro e V9 ⟨rfl, hb⟩
        refine hK _ _ (fun _ _ => H0.call hb) ?_
        replace H0 := H0.call hb
        replace ho := ho.kept (fun k _ hk => hb.block k hk) hb.size
        replace hq1 := And.intro hq1.1 (Nat.le_trans hq1.2 hb.size)
        clear hK K hb
        try simp only [put_list, List.set]
        refine Drawn.only 13 (by kernel_rfl) rfl rfl (fun K hK => ?_)
        go_simp
        refine (HC5.out _).mono ?_
        rintro e V13 ⟨rfl, hb⟩
        refine hK _ _ (fun _ _ => H0.call hb) ?_
        replace H0 := H0.call hb
        replace ho := ho.kept (fun k _ hk => hb.block k hk) hb.size
        replace hq1 := And.intro hq1.1 (Nat.le_trans hq1.2 hb.size)
        clear hK K hb
        try simp only [put_list, List.set]
        refine Drawn.only 14 (by kernel_rfl) rfl rfl (fun K hK => ?_)
        go_simp
        have hb : Below V13.heap.size V13 (V13.alloc (.cells #[.bool false, .string (str (num r.nonce)), .slice none 0 0, .bool false, .string (str (wordL r.bal)), .slice none 0 0, .bool false, .string (str r.code), .slice none 0 0] 125)) := (Below.refl _ _).alloc (Nat.le_refl _) _
        have hz := heap_alloc_new V13 (.cells #[.bool false, .string (str (num r.nonce)), .slice none 0 0, .bool false, .string (str (wordL r.bal)), .slice none 0 0, .bool false, .string (str r.code), .slice none 0 0] 125)
        refine hK _ _ (fun _ _ => H0.call hb) ?_
        replace H0 := H0.call hb
        replace ho := ho.kept (fun k _ hk => hb.block k hk) hb.size
        replace hq1 := And.intro hq1.1 (Nat.le_trans hq1.2 hb.size)
        clear hK K hb
        try simp only [put_list, List.set]
        generalize V13.alloc (.cells #[.bool false, .string (str (num r.nonce)), .slice none 0 0, .bool false, .string (str (wordL r.bal)), .slice none 0 0, .bool false, .string (str r.code), .slice none 0 0] 125) = U1 at *
        generalize V13.heap.size = q13 at *
        refine Drawn.only 15 (by kernel_rfl) rfl rfl (fun K hK => ?_)
        refine wp_append_foR _ _ rfl q9 (.slice (some ⟨q9, 0, none⟩) 1 1) _ (.text (num r.nonce) (.text (wordL r.bal) (.text r.code .nil))) 3 [.bool false, .string (str (num r.nonce)), .slice none 0 0, .bool false, .string (str (wordL r.bal)), .slice none 0 0, .bool false, .string (str r.code), .slice none 0 0] (by rfl) ho rfl (by intro u hu; simp only [List.mem_cons, List.not_mem_nil, or_false] at hu; rcases hu with rfl | rfl | rfl | rfl | rfl | rfl | rfl | rfl | rfl <;> rfl) (fo3_cel _ _ _ _) q13 (by rfl) hz hq1.2 (by simp [Fo.len]) ?_
        intro v4 W4 ho4 hg4 _
        rw [← HX.out] at ho4
        have hsl4 := ho4.sl
        obtain ⟨a4, m4, n4, rfl⟩ := hsl4.form
        have hbl4 : Below w.heap.size w W4 := H0.1.grown hg4 H0.1.size (fun j hj => by have := (ho.blk j hj).1; have := hq1.1; omega)
        have H4 := Lib.hid (And.intro hsl4 hbl4)
        have HS4 : RRepB w r W4 := ⟨hbl4, (hg4.block _ (lt_of H0.2) (fun e => by have := (ho.blk _ e.symm).1; have := hq1.1; omega)).trans H0.2⟩
        refine hK _ _ (fun _ _ => HS4) ?_
        clear hK K hsl4 hbl4 hg4 ho4 hz ho H0
        try simp only [put_list, List.set]
        refine Drawn.take 16 (some 6) (v := ?_) rfl rfl (by kernel_rfl) (by kernel_rfl) (by kernel_rfl) (by kernel_rfl) (by kernel_rfl) rfl (fun _ _ _ h => h) (Or.inl ⟨rfl, ?_⟩) HS4 ?_
        rotate_left
        · intro W hW; have hW := HS.out W hW; go_simp; try with_reducible rfl
        try simp only [put_list, List.set]
        refine Drawn.done (by kernel_rfl) ?_ _
        clear HS4 HS hq1
        go_wp2_with (first
          | (go_at_call 115; refine (HE.out _ _ _ H4.out.1 (fun k hk => hk.2)).mono ?_; rintro e w5 ⟨rfl, h5⟩; have H5 := Lib.hid h5; clear h5)
          | (go_at_call 116; refine (HS5.out _).mono ?_; rintro e w6 ⟨rfl, rfl⟩))
        go_ret2
        exact ⟨by rw [HO.out, ← HR.out]; rfl, by
          have hb := H4.out.2.trans (H5.out.mono H4.out.2.size)
          exact hb.alloc hb.size _⟩
      · have hok : ¬ r.Ok 1 := fun h => by rcases h.2 with h | h; exact h0 h.2; exact absurd h.1 (by decide)
        have heq := HQ.out
        rw [show decide (r.value = 0) = false by simp [h0]] at heq
        clear h0 hlong
        have HO := Lib.hid (putReplyV_no hok)
        clear hok
        go_wp2_with fail
        go_ret2
        exact ⟨by rw [HO.out]; rfl, HB.out.1.1⟩
    · by_cases h2 : kind = 2
      · subst h2
        by_cases h0 : r.nonce = 0 ∧ r.bal = 0 ∧ r.code = []
        · have hok : r.Ok 2 := ⟨by omega, Or.inr ⟨rfl, h0⟩⟩
          have heq := HQ2.out
          rw [show decide (r.nonce = 0 ∧ r.bal = 0 ∧ r.code = []) = true by simp [h0]] at heq
          clear h0 hlong h1
          have HO := Lib.hid (putReplyV_ok hok)
          have HE := Lib.hid (fun (S : Nat → Prop) v W (h : SlF S (r.fo 2) v W) (hS : ∀ k, S k → k < W.heap.size) => renc_list h hS (by have := ReplyP.fo_len HW.out hok; omega))
          have hbl := ReplyP.body_len HW.out hok
          have hbs : (str (r.body 2)).size = (r.body 2).length := str_size _
          have HS5 := Lib.hid (fun W => rsum_c (s := str (r.body 2)) (by rw [hbs]; unfold maxLen; omega) W)
          have hc := conv_be4 (sumN (str (r.body 2))) (sumN_lt4 _)
          have hF : str (be4 (sumN (str (r.body 2)))) ++ str (r.body 2) = str (r.enc 2) := str_append _ _
          have hz4 : (str (be4 (sumN (str (r.body 2))))).size = 4 := by rw [str_size]; rfl
          have HR := Lib.hid hF
          have hn := sumN_lt4 (r.body 2)
          rw [show str (It.list (r.fo 2)).enc = str (r.body 2) from rfl] at HE
          generalize str (r.enc 2) = z at *
          generalize sumN (str (r.body 2)) = n at *
          generalize str (be4 n) = y at *
          generalize str (r.body 2) = x at *
          have hbig : ¬ 9223372036854775807 < y.size + x.size := by omega
          clear hF hbl hbs
          clear hok
          have HX := Lib.hid (show r.fo 2 = (Fo.text (num r.id) .nil).app ((It.text (wordL r.value)).fo .nil) from rfl)
          obtain ⟨hB8, hB9⟩ := HB.out.2.2
          go_upto_region 8 with fail
          generalize (w1.alloc (.cells #[.bool false, .string (str (num r.id)), .slice none 0 0] 125)) = U at *
          go_wp2_with (first
            | (go_at_call 114; refine (HC6.out _).mono ?_; rintro e w2 ⟨rfl, h3⟩; have HM := Lib.hid h3; clear h3)
            | (go_at_call 113; refine (HC7.out _).mono ?_; rintro e w3 ⟨rfl, h4⟩; have h3 := HM.out.trans (h4.mono HM.out.size); have hown3 := (HB.out.2.1.kept (fun k _ hk => h3.block k hk) h3.size).kept (fun k _ hk => Below.heap_alloc w3 (.cells #[.bool false, .string (str (wordL r.value)), .slice none 0 0] 125) k hk) (by simp); have hz3 := heap_alloc_new w3 (.cells #[.bool false, .string (str (wordL r.value)), .slice none 0 0] 125); have hbs3 : w1.heap.size ≤ (w3.alloc (.cells #[.bool false, .string (str (wordL r.value)), .slice none 0 0] 125)).heap.size := (by have := h3.size; simp; omega); have hb3 := (HB.out.1.1.trans (h3.mono HB.out.1.1.size)).alloc (Nat.le_trans HB.out.1.1.size h3.size) (.cells #[.bool false, .string (str (wordL r.value)), .slice none 0 0] 125); have H3 := Lib.hid (And.intro hown3 (And.intro hz3 hb3)); clear h3 h4 hown3 hz3 hb3)
            | (at_builtin; refine wpList_append_itemR rfl _ _ rfl w1.heap.size (.slice (some ⟨w1.heap.size, 0, none⟩) 1 1) _ (.text (wordL r.value)) false (str (wordL r.value)) (.slice none 0 0) (fun _ => False) (by rfl) H3.out.1 (fun _ h => h.elim) rfl ⟨[], rfl, rfl⟩ _ (by rfl) H3.out.2.1 hbs3 (by simp [Fo.len]) ?_; intro v4 W4 ho4 hg4 _; rw [← HX.out] at ho4; have hsl4 := ho4.sl; obtain ⟨a4, m4, n4, rfl⟩ := hsl4.form; have hbl : Below w.heap.size w W4 := H3.out.2.2.grown hg4 H3.out.2.2.size (fun j hj => (by have := (H3.out.1.blk j hj).1; omega)); have H4 := Lib.hid (And.intro hsl4 hbl); clear ho4 hg4 hsl4 hbl)
            | (go_at_call 115; refine (HE.out _ _ _ H4.out.1 (fun k hk => hk.2)).mono ?_; rintro e w5 ⟨rfl, h5⟩; have H5 := Lib.hid h5; clear h5)
            | (go_at_call 116; refine (HS5.out _).mono ?_; rintro e w6 ⟨rfl, rfl⟩))
          go_ret2
          exact ⟨by rw [HO.out, ← HR.out]; rfl, by
            have hb := H4.out.2.trans (H5.out.mono H4.out.2.size)
            exact hb.alloc hb.size _⟩
        · have hok : ¬ r.Ok 2 := fun h => by rcases h.2 with h | h; exact absurd h.1 (by decide); exact h0 h.2
          have heq := HQ2.out
          rw [show decide (r.nonce = 0 ∧ r.bal = 0 ∧ r.code = []) = false by simp [h0]] at heq
          clear h0 hlong h1
          have HO := Lib.hid (putReplyV_no hok)
          clear hok
          go_wp2_with fail
          go_ret2
          exact ⟨by rw [HO.out]; rfl, HB.out.1.1⟩
      · have hok : ¬ r.Ok kind := fun h => by rcases h.2 with h | h; exact h1 h.1; exact h2 h.1
        have hb1 : (kind == 1) = false := by simp [h1]
        have hb2 : (kind == 2) = false := by simp [h2]
        clear hlong
        have HO := Lib.hid (putReplyV_no hok)
        clear hok
        go_wp2_with fail
        go_ret2
        exact ⟨by rw [HO.out]; rfl, HB.out.1.1⟩
end Go.Proofs.YtekoaheiapddiaaGreat
end
