/- WarmLogs (written by genJza.py). -/
import Derived.Test.YtginibphicmmmaaJz
namespace Go.Proofs.Ytginibphicmmmaa
open Go.RowKit Go.Maps Go.Shelf Mp

/-- Boxes more, that are new. -/
theorem StJ.grow {b n : Nat} {L : List Cg} {J : World → Prop} {gt : Nat → Prop} {B T : List (Nat × Obj)} {W V V' : World} (h : StJ L b n J gt B W V) (hb : Below V.heap.size V V') (hT : ∀ p ∈ T, V'.heap[p.1]? = some p.2 ∧ V.heap.size ≤ p.1) : StJ L b n J gt (T ++ B) W V' := by
  obtain ⟨x, M⟩ := h
  have A := M.an.call hb
  refine ⟨x, ⟨A.ob, A.chg, fun p hp => ?_⟩, M.ob.below hb, M.off, fun p hp => ?_⟩
  · rcases List.mem_append.1 hp with hp | hp
    · obtain ⟨h1, h2⟩ := hT p hp
      exact ⟨h1, Nat.le_trans M.an.chg.size h2, fun e => by have := M.an.ob.lt _ e; omega⟩
    · exact A.box p hp
  · rcases List.mem_append.1 hp with hp | hp
    · exact fun e => by have := M.ob.lt _ e; have := (hT p hp).2; omega
    · exact M.box p hp
def lgL (ls : List LogP) : List Cg := ls.reverse.map Cg.log
theorem lgL_snoc (ls : List LogP) (l : LogP) : lgL (ls ++ [l]) = .log l :: lgL ls := by simp [lgL]
theorem logs_rev : ∀ r : List LogP, logsOf (r.map Cg.log) = r.reverse
  | [] => rfl
  | l :: r => by
    show logsOf (r.map Cg.log) ++ [l] = _
    rw [logs_rev r]; simp
theorem logs_lgL (ls : List LogP) : logsOf (lgL ls) = ls := by unfold lgL; rw [logs_rev, List.reverse_reverse]
theorem take_snoc {α : Type} {ls : List α} {i : Nat} {l : α} (h : ls[i]? = some l) : ls.take (i + 1) = ls.take i ++ [l] := by rw [List.take_add_one, h]; rfl
theorem le10 {i N len : Nat} (h : i ≤ N) (hN : N = min len 10) : i ≤ 10 := by omega
theorem few10 {i : Nat} (h : i ≤ 10) : i < 1000000000 := by omega
theorem wrap10 {i : Nat} (h : i ≤ 10) : wrap64 ((i : Int) + 1) = (i : Int) + 1 := IntWalk.wrap64_in _ ⟨by omega, by omega⟩
theorem max10 {i : Nat} (h : i ≤ 10) : i + 1 ≤ maxLen := by unfold maxLen; omega
theorem bytes10 {i : Nat} (h : i ≤ 10) : (i + 1) * 56 ≤ 140737488355328 := by omega
theorem box3 {V : World} {q : Nat} {v0 v1 v2 : Value} {t : TypeId} (h : V.heap[q]? = some (.cells #[v0, v1, v2] t (0, 0))) : (V.cell? ⟨q, 0, none⟩ = some v0 ∧ V.cell? ⟨q, 1, none⟩ = some v1 ∧ V.cell? ⟨q, 2, none⟩ = some v2) ∧ V.frozen? ⟨q, 1, none⟩ = false :=
  ⟨⟨cell_of h 0, cell_of h 1, cell_of h 2⟩, free_of h 1⟩
theorem box3_set {V : World} {q : Nat} {v0 v1 v2 : Value} {t : TypeId} (h : V.heap[q]? = some (.cells #[v0, v1, v2] t (0, 0))) (u : Value) : (V.setCell ⟨q, 1, none⟩ u).heap[q]? = some (.cells #[v0, u, v2] t (0, 0)) := by
  have e := heap_setCell_same _ _ 1 _ _ u h
  simpa using e
theorem fresh_top {V V' : World} {t : Value} {ws : List Wq} (ht : V'.ownsRow V.heap.size 46 4 t ws.length (wordsC ws)) : ∃ T : List (Nat × Obj), (∀ p ∈ T, V'.heap[p.1]? = some p.2 ∧ V.heap.size ≤ p.1) ∧ TopAt T t ws := by
  rcases ht.2 with ⟨e1, e2⟩ | ⟨g2, cap2, cur, e1, hB, hg, h1, h2, h3, h4⟩
  · exact ⟨[], fun _ h => (by cases h), Or.inl ⟨List.length_eq_zero_iff.1 e2, e1⟩⟩
  · exact ⟨[(g2, .cells cur 46 (0, 0))], fun p hp => by rw [List.mem_singleton] at hp; subst hp; exact ⟨hg, hB⟩, Or.inr ⟨g2, cap2, cur, e1, List.mem_singleton.2 rfl, h1, h2, h3, h4⟩⟩
theorem ints_at {cur : Array Value} {ws : List Wq} (h : cur.toList.take (ws.length * 4) = (ws.map Wq.cells).flatten) {j : Nat} (hj : j < ws.length) : ∃ a : Int, cur[j * 4]? = some (.int .u64 a) := by
  have h1 := wordsC_at ws j ws[j] (List.getElem?_eq_getElem hj) 0 (by omega)
  have e1 : cur[j * 4]? = (cur.toList.take (ws.length * 4))[j * 4]? := by rw [List.getElem?_take_of_lt (by omega)]; simp
  refine ⟨(ws[j].a : Nat), ?_⟩
  rw [e1, h]
  exact h1
theorem ints_set {cur : Array Value} {n k : Nat} {x : Int} (h : ∀ j, j < n → ∃ a : Int, cur[j * 4]? = some (.int .u64 a)) : ∀ j, j < n → ∃ a : Int, (cur.setIfInBounds (k * 4) (.int .u64 x))[j * 4]? = some (.int .u64 a) := by
  intro j hj
  obtain ⟨a, ha⟩ := h j hj
  by_cases e : k * 4 = j * 4
  · have hlt : j * 4 < cur.size := (Array.getElem?_eq_some_iff.1 ha).1
    rw [e, Array.getElem?_setIfInBounds_self]
    exact ⟨x, by simp [hlt]⟩
  · rw [Array.getElem?_setIfInBounds_ne e]; exact ⟨a, ha⟩
set_option maxRecDepth 100000 in
set_option maxHeartbeats 16000000 in
theorem wlogs_c {pa : Option Addr} {len cap : Nat} {ls : List LogP} {W : World} (hA : ∀ i l, ls[i]? = some l → ∃ g o tv, pa = some ⟨g, o, none⟩ ∧ g < W.heap.size ∧ W.cell? ⟨g, o + i * 3, none⟩ = some (.string (str l.addr)) ∧ W.cell? ⟨g, o + (i * 3 + 1), none⟩ = some tv ∧ W.cell? ⟨g, o + (i * 3 + 2), none⟩ = some (.string (str l.data)) ∧ WordsAt W tv l.tops)
    (hl : ls.length = len) (hc : len ≤ cap) (hn : pa = none → cap = 0) (hok : ∀ l ∈ ls, l.addr.length ≤ 140737488351232 ∧ l.data.length ≤ 140737488351232 ∧ l.tops.length * 32 ≤ 140737488351232) :
    Calls Try.prog 5 #[.slice pa len cap] W fun e W' => e = .returned (.bool true) ∧ Below W.heap.size W W' := by
  obtain ⟨N, hN⟩ : ∃ N, N = min len 10 := ⟨_, rfl⟩
  have hs := slice_head (z := 3) Try.underlying39 (fun w => by kernel_rfl) pa len N cap (by omega) hn
  have HH := Lib.hid (And.intro hA (And.intro hl (And.intro hN hok)))
  have hq : ∀ q : Int, q = (if (10 : Int) < (len : Int) then 10 else (len : Int)) → q = (N : Int) := fun q hq => by
    subst hq hN
    split <;> omega
  have HQ := Lib.hid hq
  clear hA hl hc hn hN hq hok
  go_enter Try.func5, Try.ntmps5
  go_wp2_with fail
  refine (exam_c _).mono ?_
  rintro e V0 ⟨rfl, h9⟩
  have CN := Lib.hid (St.new (W := W) (V := V0) (B := []) h9 (fun _ h => by cases h))
  unfold ptr at CN
  clear h9
  go_wp2_with fail
  refine CN.out.mono ?_
  rintro e V1 ⟨b, rfl, h9⟩
  have H1 := Lib.hid (h9.with.own (gt' := wtF (.slice none 0 0) []) ⟨rfl, rfl, rfl, Nat.le_refl _, fun _ _ _ => rfl, fun k h => by rcases h with h | ⟨_, h⟩ <;> cases h⟩ (Wt.nil V1).ob)
  clear CN h9
  go_upto_region 10 with (refine run_min2 (by rfl) _ _ _ (by rfl) (len : Int) 10 (by rfl) (by rfl) ?_; intro q hq0; obtain rfl := HQ.out q hq0; clear hq0)
  go_loopw [5, 6] (fun wv iv wr => ∃ i : Nat, i ≤ N ∧ iv = .int .i64 (i : Nat) ∧ ∃ ts fx, StJ (lgL (ls.take i)) b i (Wt (ls.take i) wv ts fx) (wtF wv fx) [] W wr ∧ ∀ p ∈ fx, wv.ownBlock ≠ some p.1) (fun _ iv _ => N - (intOf iv).toNat)
  case atStart => exact ⟨0, Nat.zero_le _, rfl, [], [], H1.out, fun _ h => by cases h⟩
  case round =>
    obtain ⟨i, hi, rfl, ts, fx, h, hfv⟩ := hrel
    have hi10 : i ≤ 10 := le10 hi HH.out.2.2.1
    by_cases hlt : i < N
    · obtain ⟨l, hl⟩ : ∃ l, ls[i]? = some l := ⟨_, List.getElem?_eq_getElem (by have := HH.out.2.1; have := HH.out.2.2.1; omega)⟩
      obtain ⟨g, og, tv, hpa, hg, k0, k1, k2, hwd⟩ := HH.out.1 i l hl
      subst hpa
      have hB := h.below
      have w0 : wr.cell? ⟨g, og + i * 3, none⟩ = some (.string (str l.addr)) := (World.cell?_of_block (hB.block g hg)).trans k0
      have w1 : wr.cell? ⟨g, og + i * 3 + 1, none⟩ = some tv := by rw [Nat.add_assoc]; exact (World.cell?_of_block (hB.block g hg)).trans k1
      have w2 : wr.cell? ⟨g, og + i * 3 + 2, none⟩ = some (.string (str l.data)) := by rw [Nat.add_assoc]; exact (World.cell?_of_block (hB.block g hg)).trans k2
      have hwd2 : WordsAt wr tv l.tops := hwd.below hB
      have hlok := HH.out.2.2.2 l (List.mem_of_getElem? hl)
      have hli : (i : Int) < (N : Int) := int_lt' hlt
      have hwi := wrap10 hi10
      obtain ⟨ta, tc, htv⟩ : ∃ ta tc, tv = .slice ta l.tops.length tc := by obtain ⟨a, c, e, _⟩ := hwd; exact ⟨a, c, e⟩
      obtain ⟨nt, hnt⟩ : ∃ nt, nt = l.tops.length := ⟨_, rfl⟩
      rw [← hnt] at htv
      subst htv
      obtain ⟨av, cv, hwv⟩ : ∃ a c, u5 = .slice a i c := by
        obtain ⟨a, c, e⟩ := own_any h.it.row
        exact ⟨a, c, by rw [e, List.length_take, Nat.min_eq_left (by have := HH.out.2.1; have := HH.out.2.2.1; omega)]⟩
      subst hwv
      have HX := Lib.hid (And.intro h (And.intro hl (And.intro hwd2 (And.intro hlok (And.intro hnt (And.intro hlt (And.intro hfv hi10)))))))
      clear h hl hwd hwd2 hlok hnt hlt hfv k0 k1 k2 hB hi hg H1 hs
      go_upto_region 13 with fail
      have HA := Lib.hid (HX.out.1.alloc (.cells #[.string (str l.addr), .slice ta nt tc, .string (str l.data)] 33))
      have HWd := Lib.hid (HX.out.2.2.1.below ((Below.refl _ wr).alloc (Nat.le_refl _) (.cells #[.string (str l.addr), .slice ta nt tc, .string (str l.data)] 33)))
      clear w0 w1 w2
      obtain ⟨q, hq⟩ : ∃ q, q = wr.heap.size := ⟨_, rfl⟩
      rw [← hq] at HA ⊢
      clear hq
      generalize World.alloc wr _ = V2 at HA HWd ⊢
      obtain ⟨⟨x0, x1, x2⟩, f1⟩ := box3 (HA.out.at (q := q) (List.mem_cons_self ..))
      go_upto_region 14 with (at_builtin; refine wpList_append_words (by rfl) _ (by rfl) (by rfl) HWd.out (Nat.le_trans HX.out.2.2.2.1.2.2 (by decide)) (Nat.le_refl _) ?_; intro t1 V3 r1 g1; obtain ⟨a1, c1, e1⟩ := own_any r1; rw [← HX.out.2.2.2.2.1] at e1; subst e1; have HR := Lib.hid (And.intro r1 g1); clear r1 g1; have HA3 := Lib.hid (HA.out.call (grown_below HR.out.2 (Nat.le_refl _))); clear x0 x1 x2 f1; obtain ⟨⟨x0, x1, x2⟩, f1⟩ := box3 (HA3.out.at (q := q) (List.mem_cons_self ..)))
      obtain ⟨T, hTnew, hTop⟩ := fresh_top (HX.out.2.2.2.2.1 ▸ HR.out.1)
      rw [← HX.out.2.2.2.2.1] at hTop
      have HG := Lib.hid (HA.out.grow (grown_below HR.out.2 (Nat.le_refl _)) hTnew)
      have hTq : ∀ p ∈ T, p.1 ≠ q := fun p hp e => by have h1 := (hTnew p hp).2; have h2 := lt_of (HA.out.at (q := q) (List.mem_cons_self ..)); omega
      have HP := Lib.hid (StJ.put (B := T) (HG.out.sub (fun z hz => by rcases List.mem_cons.1 hz with rfl | hz; exact List.mem_append_right _ (List.mem_cons_self ..); exact List.mem_append_left _ hz)) (chg_set (F := fun j => j = q) (F' := fun j => j = q) (Chg.refl _ V3) (Or.inl rfl) 1 (.slice a1 nt c1)) (box3_set (HA3.out.at (q := q) (List.mem_cons_self ..)) _) hTq)
      have HT := Lib.hid (And.intro hTop hTq)
      clear HA HWd HR HA3 HG hTnew hTop hTq x0 x1 x2 f1
      generalize World.setCell V3 _ _ = V4 at HP ⊢
      have HD := Lib.hid HP.out.drew
      have S0 := HD.out.at (q := q) (List.mem_cons_self ..)
      clear HP
      refine Drawn.start (fun V => V.heap[q]? = some (.cells #[.string (str l.addr), .slice a1 nt c1, .string (str l.data)] 33 (0, 0))) (fun _ => false) (by kernel_rfl) ?_
      generalize World.drew _ = V5 at HD S0 ⊢
      refine Drawn.take 0 (some 34) (v := ?_) rfl rfl (by kernel_rfl) (by kernel_rfl) (by kernel_rfl) (by kernel_rfl) (by kernel_rfl) rfl (fun _ _ _ h => h) (Or.inl ⟨rfl, ?_⟩) S0 ?_
      rotate_left
      · intro W hW; have hW := box3 hW; go_simp; try with_reducible rfl
      simp only [put_list, List.set]
      refine Drawn.take 1 (some 35) (v := ?_) rfl rfl (by kernel_rfl) (by kernel_rfl) (by kernel_rfl) (by kernel_rfl) (by kernel_rfl) rfl (fun _ _ _ h => h) (Or.inl ⟨rfl, ?_⟩) S0 ?_
      rotate_left
      · intro W hW; have hW := box3 hW; go_simp; try with_reducible rfl
      simp only [put_list, List.set]
      refine Drawn.take 2 (some 36) (v := ?_) rfl rfl (by kernel_rfl) (by kernel_rfl) (by kernel_rfl) (by kernel_rfl) (by kernel_rfl) rfl (fun _ _ _ h => h) (Or.inl ⟨rfl, ?_⟩) S0 ?_
      rotate_left
      · intro W hW; have hW := box3 hW; go_simp; try with_reducible rfl
      simp only [put_list, List.set]
      refine Drawn.take 3 (some 37) (v := ?_) rfl rfl (by kernel_rfl) (by kernel_rfl) (by kernel_rfl) (by kernel_rfl) (by kernel_rfl) rfl (fun _ _ _ h => h) (Or.inl ⟨rfl, ?_⟩) S0 ?_
      rotate_left
      · intro W hW; have hW := box3 hW; go_simp; try with_reducible rfl
      simp only [put_list, List.set]
      refine Drawn.take 4 (some 38) (v := ?_) rfl rfl (by kernel_rfl) (by kernel_rfl) (by kernel_rfl) (by kernel_rfl) (by kernel_rfl) rfl (fun _ _ _ h => h) (Or.inl ⟨rfl, ?_⟩) S0 ?_
      rotate_left
      · intro W hW; have hW := box3 hW; go_simp; try with_reducible rfl
      simp only [put_list, List.set]
      refine Drawn.take 5 (some 39) (v := ?_) rfl rfl (by kernel_rfl) (by kernel_rfl) (by kernel_rfl) (by kernel_rfl) (by kernel_rfl) rfl (fun _ _ _ h => h) (Or.inl ⟨rfl, ?_⟩) S0 ?_
      rotate_left
      · intro W hW; have hW := box3 hW; go_simp; try with_reducible rfl
      simp only [put_list, List.set]
      refine Drawn.take 6 (some 40) (v := ?_) rfl rfl (by kernel_rfl) (by kernel_rfl) (by kernel_rfl) (by kernel_rfl) (by kernel_rfl) rfl (fun _ _ _ h => h) (Or.inl ⟨rfl, ?_⟩) S0 ?_
      rotate_left
      · intro W hW; have hW := box3 hW; go_simp; try with_reducible rfl
      simp only [put_list, List.set]
      have hw5 : WordsAt V5 (.slice a1 nt c1) l.tops := HT.out.1.words fun p hp => HD.out.at (List.mem_cons_of_mem _ hp)
      refine Drawn.only 7 (by kernel_rfl) rfl rfl (fun K hK => ?_)
      refine wp_append_words (.tmp 40) rfl rfl hw5 (Nat.le_trans HX.out.2.2.2.1.2.2 (by decide)) (Nat.le_refl _) ?_
      intro t2 V6 r2 g2
      have S1 := (g2.block _ (lt_of S0) (by simp)).trans S0
      refine hK _ _ (fun _ _ => S1) ?_
      clear hK K S0
      have S0 := S1
      clear S1 hw5
      obtain ⟨a2, c2, e2⟩ := own_any r2
      rw [← HX.out.2.2.2.2.1] at e2
      subst e2
      have HR := Lib.hid (And.intro r2 g2)
      clear r2 g2
      try simp only [put_list, List.set]
      refine Drawn.take 8 (some 42) (v := .agg #[.string (str l.addr), .slice a2 nt c2, .string (str l.data)]) rfl rfl (by kernel_rfl) (by kernel_rfl) (by kernel_rfl) (by kernel_rfl) (by kernel_rfl) rfl (fun _ _ _ h => h) (Or.inl ⟨rfl, ?_⟩) S0 ?_
      · intro W hW; have hW := box3 hW; go_simp; try with_reducible rfl
      try simp only [put_list, List.set]
      refine Drawn.only 9 (by kernel_rfl) rfl rfl (fun K hK => ?_)
      go_simp
      have b7 : Below V6.heap.size V6 (V6.alloc (.cells #[.string (str l.addr), .slice a2 nt c2, .string (str l.data)] 33)) := (Below.refl _ V6).alloc (Nat.le_refl _) _
      have S1 := (b7.block _ (lt_of S0)).trans S0
      have n7 := heap_alloc_new V6 (.cells #[.string (str l.addr), .slice a2 nt c2, .string (str l.data)] 33)
      refine hK _ _ (fun _ _ => S1) ?_
      clear hK K S0
      have S0 := S1
      clear S1
      obtain ⟨z7, hz7⟩ : ∃ z7, z7 = V6.heap.size := ⟨_, rfl⟩
      rw [← hz7] at n7 ⊢
      clear hz7
      generalize World.alloc V6 _ = V7 at b7 S0 n7 ⊢
      try simp only [put_list, List.set]
      have hrow7 : V7.ownsRow 0 33 3 (.slice av i cv) i (logCells (ls.take i) ts) := by
        have h1 := HD.out.it.row
        rw [List.length_take, Nat.min_eq_left (by have := HH.out.2.1; have := HH.out.2.2.1; have := HX.out.2.2.2.2.2.1; omega)] at h1
        exact own_keep h1 fun k hk => (b7.block k (Nat.lt_of_lt_of_le (World.ownsRow.lt h1 k hk).2 HR.out.2.size)).trans (HR.out.2.block k (World.ownsRow.lt h1 k hk).2 (by simp))
      obtain ⟨i0, hif, hz0, hz1, hz2⟩ := info_parts infoLog
      have hqv : (Value.slice av i cv).ownBlock ≠ some q := fun e => HD.out.offB (q, _) (List.mem_cons_self ..) (Or.inl e)
      refine Drawn.only 10 (by kernel_rfl) rfl rfl (fun K hK => ?_)
      refine wp_append_lies _ (.tmp 34) (.tmp 43) 39 rfl 0 33 i0 _ 3 56 Try.underlying39 hif hz0 hz1 hz2 rfl (by omega) (.slice av i cv) i _ rfl hrow7 ⟨z7, 0, none⟩ 1 1 [.string (str l.addr), .slice a2 nt c2, .string (str l.data)] rfl rfl (cells3 n7) (fun u hu => ?_) (by omega) (max10 HX.out.2.2.2.2.2.2.2) (bytes10 HX.out.2.2.2.2.2.2.2) (Nat.zero_le _) _ rfl ?_
      · simp at hu; rcases hu with rfl | rfl | rfl <;> rfl
      intro g8 cap8 V8 r8 g8' l8 m8
      have S1 := (g8'.block q (lt_of S0) (Ne.symm hqv)).trans S0
      obtain ⟨fx', hWt, hfv', hCh⟩ := Wt.snoc (l := l) (t' := .slice a2 nt c2) (v' := .slice (some ⟨g8, 0, none⟩) (i + 1) cap8) (V3 := V8) HD.out.it (HX.out.2.2.2.2.1 ▸ HR.out.1) HR.out.2 b7 (by rw [List.length_take, Nat.min_eq_left (by have := HH.out.2.1; have := HH.out.2.2.1; have := HX.out.2.2.2.2.2.1; omega)]; exact r8) g8' (l8.elim (fun e => Or.inl e.symm) fun e => Or.inr (by rw [e]; rfl)) HX.out.2.2.2.2.2.2.1
      have HO := Lib.hid (HD.out.own hCh hWt.ob)
      have HF := Lib.hid hfv'
      refine hK _ _ (fun _ _ => S1) ?_
      clear hK K S0 r8 g8' l8 m8 hrow7 hif hz0 hz1 hz2 hqv n7 b7 hWt hfv' hCh HD HR
      have S0 := S1
      clear S1 i0
      try simp only [put_list, List.set]
      refine Drawn.only 11 (by kernel_rfl) rfl rfl (fun K hK => ?_)
      go_simp
      refine hK _ _ (fun _ _ => S0) ?_
      clear hK K S0
      try simp only [put_list, List.set]
      refine Drawn.done (by kernel_rfl) ?_ _
      rw [← take_snoc HX.out.2.1] at HO
      obtain ⟨⟨x0, x1, x2⟩, f1⟩ := box3 (HO.out.at (q := q) (List.mem_cons_self ..))
      have CL := Lib.hid (StJ.log (l := l) HO.out (few10 HX.out.2.2.2.2.2.2.2) (HT.out.1.words fun p hp => HO.out.at (List.mem_cons_of_mem _ hp)) (Nat.le_trans HX.out.2.2.2.1.1 (by decide)) (Nat.le_trans HX.out.2.2.2.1.2.1 (by decide)) (Nat.le_trans HX.out.2.2.2.1.2.2 (by decide)))
      rw [← lgL_snoc, ← take_snoc HX.out.2.1] at CL
      unfold ptr logV at CL
      go_wp2_with fail
      refine CL.out.mono ?_
      rintro e V9 ⟨rfl, h9⟩
      have H9 := Lib.hid h9
      clear h9 CL HO x0 x1 x2 f1
      obtain ⟨⟨x0, x1, x2⟩, f1⟩ := box3 (H9.out.at (q := q) (List.mem_cons_self ..))
      have hnt32 : nt < 4611686018427387904 := by rw [HX.out.2.2.2.2.1]; have := HX.out.2.2.2.1.2.2; omega
      have HN32 := Lib.hid hnt32
      clear hnt32 x0 x1 x2 f1
      rcases HT.out.1 with ⟨e1, e2⟩ | ⟨gq, cap1, cur, e1, hmem, hc1, hc2, hc3, hc4⟩
      · -- no topics
        injection e2 with e2 e3 e4
        subst e2 e4
        have hn0 : nt = 0 := e3
        subst hn0
        clear e1 e3
        obtain ⟨⟨x0, x1, x2⟩, f1⟩ := box3 (H9.out.at (q := q) (List.mem_cons_self ..))
        have HQ9 := Lib.hid H9.out
        clear x0 x2 f1
        go_wp2_with fail
        go_loopw [8] (fun kv wr => kv = .int .i64 0 ∧ wr = V9) (fun _ _ => 0)
        case atStart => exact ⟨rfl, rfl⟩
        case round =>
          obtain ⟨rfl, rfl⟩ := hrel
          have HIN := H9.out
          have HI2 := Lib.hid HIN
          clear HIN
          go_wp2_with fail
          have HIN := HI2.out
          go_roundw
          case rel => exact ⟨i + 1, HX.out.2.2.2.2.2.1, by go_num, _, fx', HIN.sub (fun _ h => by cases h), HF.out⟩
          case measure => first | exact meas2 HX.out.2.2.2.2.2.1 | (rw [hwi]; exact meas2 HX.out.2.2.2.2.2.1)
      · -- topics in a row of the law's own
        injection e1 with e1 e2 e3
        subst e1 e3
        clear e2
        have hgq : gq ≠ q := HT.out.2 _ hmem
        have H10 := Lib.hid (H9.out.sub (B' := [(gq, .cells cur 46 (0, 0)), (q, .cells #[.string (str l.addr), .slice (some ⟨gq, 0, none⟩) nt c1, .string (str l.data)] 33 (0, 0))]) (fun z hz => by rcases List.mem_cons.1 hz with rfl | hz; exact List.mem_cons_of_mem _ hmem; rw [List.mem_singleton] at hz; rw [hz]; exact List.mem_cons_self ..))
        have hint : ∀ j, j < nt → ∃ a : Int, cur[j * 4]? = some (.int .u64 a) := fun j hj => ints_at (HX.out.2.2.2.2.1 ▸ hc4) (HX.out.2.2.2.2.1 ▸ hj)
        have HG9 := Lib.hid (And.intro hgq hint)
        clear hgq hint hmem hc1 hc2 hc3 hc4 H9
        go_wp2_with fail
        go_loopw [8] (fun kv wr => ∃ k : Nat, k ≤ nt ∧ kv = .int .i64 (k : Nat) ∧ ∃ cur' : Array Value, (∀ j, j < nt → ∃ a : Int, cur'[j * 4]? = some (.int .u64 a)) ∧ StJ (lgL (ls.take (i + 1))) b (i + 1) (Wt (ls.take (i + 1)) (.slice (some ⟨g8, 0, none⟩) (i + 1) cap8) (ts ++ [.slice a2 nt c2]) fx') (wtF (.slice (some ⟨g8, 0, none⟩) (i + 1) cap8) fx') [(gq, .cells cur' 46 (0, 0)), (q, .cells #[.string (str l.addr), .slice (some ⟨gq, 0, none⟩) nt c1, .string (str l.data)] 33 (0, 0))] W wr) (fun kv _ => nt - (intOf kv).toNat)
        case atStart => exact ⟨0, Nat.zero_le _, rfl, cur, HG9.out.2, H10.out⟩
        case round =>
          obtain ⟨k, hk, rfl, cur', hint, hS⟩ := hrel
          obtain ⟨⟨x0, x1, x2⟩, f1⟩ := box3 (hS.at (q := q) (List.mem_cons_of_mem _ (List.mem_cons_self ..)))
          clear x0 x2 f1
          by_cases hkn : k < nt
          · obtain ⟨a9, ha9⟩ := hint k hkn
            have hcur := hS.at (q := gq) (List.mem_cons_self ..)
            have y0 : wr.cell? ⟨gq, k * 4, none⟩ = some (.int .u64 a9) := (cell_of hcur _).trans ha9
            have y1 := free_of hcur (k * 4)
            have hkl : (k : Int) < (nt : Int) := int_lt' hkn
            have hwk : wrap64 ((k : Int) + 1) = (k : Int) + 1 := wrap_any (Nat.lt_trans hkn HN32.out)
            have HY := Lib.hid (And.intro hint (And.intro hS (And.intro hkn hcur)))
            clear hint hS hkn hcur ha9 hk
            go_wp2_with fail
            go_roundw
            case rel => exact ⟨k + 1, HY.out.2.2.1, by go_num, _, ints_set HY.out.1, HY.out.2.1.put (chg_set (F := fun j => j = gq) (F' := fun j => j = gq) (Chg.refl _ _) (Or.inl rfl) _ _) (heap_setCell_same _ _ _ _ _ _ HY.out.2.2.2) (fun z hz => by rw [List.mem_singleton] at hz; rw [hz]; exact Ne.symm HG9.out.1)⟩
            case measure => rw [hwk]; exact meas2 HY.out.2.2.1
          · obtain rfl : k = nt := Nat.le_antisymm hk (Nat.le_of_not_lt hkn)
            have hkk : ¬ ((k : Int) < (k : Int)) := Int.lt_irrefl _
            have HI2 := Lib.hid hS
            clear hS hint hk hkn
            go_wp2_with fail
            have HIN := HI2.out
            go_roundw
            case rel => exact ⟨i + 1, HX.out.2.2.2.2.2.1, by go_num, _, fx', HIN.sub (fun _ h => by cases h), HF.out⟩
            case measure => first | exact meas2 HX.out.2.2.2.2.2.1 | (rw [hwi]; exact meas2 HX.out.2.2.2.2.2.1)
    · obtain rfl : i = N := Nat.le_antisymm hi (Nat.le_of_not_lt hlt)
      have hni : ¬ ((i : Int) < (i : Int)) := Int.lt_irrefl _
      have hmem : ∀ l ∈ ls.take i, l.tops.length * 32 ≤ 140737488351232 := fun l hl => (HH.out.2.2.2 l (List.mem_of_mem_take hl)).2.2
      have hlen2 : (ls.take i).length < 4611686018427387904 := by rw [List.length_take]; omega
      obtain ⟨lt, hlt9⟩ : ∃ lt, lt = ls.take i := ⟨_, rfl⟩
      rw [← hlt9] at h hmem hlen2
      clear hlt9
      obtain ⟨av, cv, hwv⟩ : ∃ a c, u5 = .slice a lt.length c := own_any h.it.row
      subst hwv
      have CL := Lib.hid (h.logs (few10 hi10) (fun l hl => by rw [logs_lgL] at hl; exact Nat.le_trans (hmem l hl) (by decide)))
      rw [logs_lgL] at CL
      unfold ptr at CL
      have hmem2 : ∀ l ∈ lt, l.tops.length < 4611686018427387904 := fun l hl => by have := hmem l hl; omega
      have HM2 := Lib.hid (And.intro hmem2 hlen2)
      clear hi hlt hmem hmem2 hlen2 h hfv H1 hs hi10
      obtain ⟨nl, hnl⟩ : ∃ nl, nl = lt.length := ⟨_, rfl⟩
      have HNL := Lib.hid hnl
      try rw [← hnl] at CL
      try rw [← hnl]
      clear hnl
      go_wp2_with fail
      refine CL.out.mono ?_
      rintro e V9 ⟨pb, cb, rfl, hLA, hS, hb⟩
      have hLB := hS.it.logsAt
      have CA := alogs_c hLA hLB HM2.out.2 HM2.out.1
      have HS9 := Lib.hid hS
      clear hLA hS hb CL hLB
      rw [show decide (lt = lt) = true from decide_eq_true rfl] at CA
      have CB := Lib.hid CA
      clear CA
      go_wp2_with fail
      refine CB.out.mono ?_
      rintro e V10 ⟨rfl, hb⟩
      have HE := Lib.hid (HS9.out.below.trans (hb.mono HS9.out.below.size))
      clear CB hb
      go_wp2_with fail
      go_ret
      exact ⟨rfl, HE.out⟩
end Go.Proofs.Ytginibphicmmmaa
