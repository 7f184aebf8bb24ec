/- Merged: Fg, Fh, Fi. -/
import Derived.Test.YtekoaheiapddiaaGreatU25
import Derived.Test.YtekoaheiapddiaaGreatU07
section
namespace Go.Proofs.YtekoaheiapddiaaGreat.Dz
open Go.RowKit

structure Bo (p : Pd) (c : Cl) (name : Nm) (d N : Nat) (F : Nat → Prop) (b m : Nat) (sv av : Value) (W : World) : Prop where
  on : On p d N F W
  at' : CAt c name d b m sv av W
  ap : ∀ k, F k → ¬ ftC b m sv av k
/-- All that is theirs. -/
def ftB (F : Nat → Prop) (b m : Nat) (sv av : Value) (k : Nat) : Prop := F k ∨ ftC b m sv av k
section
variable {p : Pd} {c : Cl} {name : Nm} {d N : Nat} {F F0 : Nat → Prop} {b m : Nat} {sv av : Value} {W V : World}
theorem Bo.lt (h : Bo p c name d N F b m sv av W) {k : Nat} (hk : ftB F b m sv av k) : k < W.heap.size := hk.elim (fun h1 => h.on.lt h1) (fun h1 => h.at'.lt h1)
theorem Bo.kept {W' : World} (h : Bo p c name d N F b m sv av W) (hk : ∀ k, ftB F b m sv av k → W'.heap[k]? = W.heap[k]?) : Bo p c name d N F b m sv av W' :=
  ⟨h.on.kept fun k h1 => hk k (Or.inl h1), h.at'.kept fun k h1 => hk k (Or.inr h1), h.ap⟩
theorem Bo.below {W' : World} (h : Bo p c name d N F b m sv av W) (hb : Below W.heap.size W W') : Bo p c name d N F b m sv av W' := h.kept fun k hk => hb.block k (h.lt hk)
theorem Bo.mono {M : Nat} (h : Bo p c name d N F b m sv av W) (hM : N ≤ M) : Bo p c name d M F b m sv av W := ⟨h.on.mono hM, h.at', h.ap⟩
theorem Bo.client {W' : World} {c' : Cl} {sv' av' : Value} (h : Bo p c name d N F b m sv av W) (h1 : CAt c' name d b m sv' av' W') (h2 : Chg (ftC b m sv av) (ftC b m sv' av') W W') :
    Bo p c' name d N F b m sv' av' W' ∧ Chg (ftB F b m sv av) (ftB F b m sv' av') W W' := by
  refine ⟨⟨h.on.kept fun k hk => h2.block k (h.on.lt hk) (h.ap k hk), h1, fun k hk h3 => ?_⟩, h2.mono (fun k hk => Or.inr hk) (fun k hk => ?_)⟩
  · rcases h2.new k h3 with h4 | h4
    · exact h.ap k hk h4
    · have := h.on.lt hk; omega
  · exact hk.elim (fun h1 => Or.inr (Or.inl h1)) Or.inl
theorem Bo.disk {W' : World} {q : Pd} {N' : Nat} (h : Bo p c name d N F b m sv av W) (hl : Left q d N' F W W') : ∃ F', Bo q c name d N' F' b m sv av W' ∧ Chg (ftB F b m sv av) (ftB F' b m sv av) W W' := by
  obtain ⟨F', h1, h2⟩ := hl
  refine ⟨F', ⟨h1, h.at'.chg h2 fun k hk h3 => h.ap k h3 hk, fun k hk h3 => ?_⟩, h2.mono (fun k hk => Or.inl hk) (fun k hk => ?_)⟩
  · rcases h2.new k hk with h4 | h4
    · exact h.ap k h4 h3
    · have := h.at'.lt h3; omega
  · exact hk.elim Or.inl (fun h1 => Or.inr (Or.inr h1))
/-- Amid a call that began in W: both as they are now; boxes of the call's own. -/
structure Am (p : Pd) (c : Cl) (name : Nm) (d N : Nat) (F : Nat → Prop) (b m : Nat) (sv av : Value) (W : World) (F0 : Nat → Prop) (L : List (Nat × Obj)) (V : World) : Prop where
  bo : Bo p c name d N F b m sv av V
  chg : Chg F0 (ftB F b m sv av) W V
  box : ∀ x ∈ L, V.heap[x.1]? = some x.2 ∧ W.heap.size ≤ x.1 ∧ ¬ ftB F b m sv av x.1
theorem Am.start (h : Bo p c name d N F b m sv av W) : Am p c name d N F b m sv av W (ftB F b m sv av) [] W := ⟨h, Chg.refl _ _, by simp⟩
theorem Am.step {p' : Pd} {c' : Cl} {N' : Nat} {F' : Nat → Prop} {sv' av' : Value} {L : List (Nat × Obj)} {V' : World} (h : Am p c name d N F b m sv av W F0 L V) (h1 : Bo p' c' name d N' F' b m sv' av' V') (h2 : Chg (ftB F b m sv av) (ftB F' b m sv' av') V V') :
    Am p' c' name d N' F' b m sv' av' W F0 L V' :=
  ⟨h1, h.chg.trans h2, fun x hx => ⟨(h2.block _ (lt_of (h.box x hx).1) (h.box x hx).2.2).trans (h.box x hx).1, (h.box x hx).2.1, fun h3 => by
    rcases h2.new _ h3 with h4 | h4
    · exact (h.box x hx).2.2 h4
    · have := lt_of (h.box x hx).1; omega⟩⟩
theorem Am.call {L : List (Nat × Obj)} {V' : World} (h : Am p c name d N F b m sv av W F0 L V) (hb : Below V.heap.size V V') : Am p c name d N F b m sv av W F0 L V' := h.step (h.bo.below hb) (Chg.of_below hb)
theorem Am.alloc {L : List (Nat × Obj)} (h : Am p c name d N F b m sv av W F0 L V) (o : Obj) : Am p c name d N F b m sv av W F0 ((V.heap.size, o) :: L) (V.alloc o) := by
  have h1 := h.call ((Below.refl _ _).alloc (Nat.le_refl _) o)
  refine ⟨h1.bo, h1.chg, fun x hx => ?_⟩
  rcases List.mem_cons.1 hx with rfl | hx
  · exact ⟨heap_alloc_new _ _, h.chg.size, fun hk => by have := h.bo.lt hk; simp at this⟩
  · exact h1.box x hx
theorem Am.sub {L L' : List (Nat × Obj)} (h : Am p c name d N F b m sv av W F0 L V) (hs : ∀ x ∈ L', x ∈ L) : Am p c name d N F b m sv av W F0 L' V := ⟨h.bo, h.chg, fun x hx => h.box x (hs x hx)⟩
theorem Am.put {L : List (Nat × Obj)} {q : Nat} {o o' : Obj} {V' : World} (h : Am p c name d N F b m sv av W F0 ((q, o) :: L) V) (hc : Chg (fun k => k = q) (fun k => k = q) V V') (ho : V'.heap[q]? = some o') (hL : ∀ x ∈ L, x.1 ≠ q) :
    Am p c name d N F b m sv av W F0 ((q, o') :: L) V' := by
  obtain ⟨_, h2, h3⟩ := h.box (q, o) (by simp)
  have hk : ∀ k, k < V.heap.size → k ≠ q → V'.heap[k]? = V.heap[k]? := fun k h1 h2 => hc.block k h1 h2
  refine ⟨h.bo.kept fun k hk' => hk k (h.bo.lt hk') fun e => h3 (by rw [← e]; exact hk'), ⟨hc.os.trans h.chg.os, hc.tape.trans h.chg.tape, hc.output.trans h.chg.output, Nat.le_trans h.chg.size hc.size, fun k h1 h4 => (hk k (Nat.lt_of_lt_of_le h1 h.chg.size) (by simp only at h2; omega)).trans (h.chg.block k h1 h4), h.chg.new⟩, fun x hx => ?_⟩
  rcases List.mem_cons.1 hx with rfl | hx
  · exact ⟨ho, h2, h3⟩
  · have h4 := h.box x (by simp [hx])
    exact ⟨(hk _ (lt_of h4.1) (hL x hx)).trans h4.1, h4.2⟩
theorem Am.client {L : List (Nat × Obj)} {V' : World} {c' : Cl} {sv' av' : Value} (h : Am p c name d N F b m sv av W F0 L V) (h1 : CAt c' name d b m sv' av' V') (h2 : Chg (ftC b m sv av) (ftC b m sv' av') V V') : Am p c' name d N F b m sv' av' W F0 L V' :=
  h.step (h.bo.client h1 h2).1 (h.bo.client h1 h2).2
theorem Am.disk {L : List (Nat × Obj)} {V' : World} {q : Pd} {N' : Nat} (h : Am p c name d N F b m sv av W F0 L V) (hl : Left q d N' F V V') : ∃ F', Am q c name d N' F' b m sv av W F0 L V' := by
  obtain ⟨F', h1, h2⟩ := h.bo.disk hl
  exact ⟨F', h.step h1 h2⟩
theorem Am.at {L : List (Nat × Obj)} (h : Am p c name d N F b m sv av W F0 L V) {q : Nat} {o : Obj} (hm : (q, o) ∈ L) : V.heap[q]? = some o := (h.box (q, o) hm).1
end
/-- What a call of a client leaves. -/
def Gone (r : Pd × Cl) (name : Nm) (d N b m : Nat) (F0 : Nat → Prop) (W W' : World) : Prop := ∃ F' sv' av', Bo r.1 r.2 name d N F' b m sv' av' W' ∧ Chg F0 (ftB F' b m sv' av') W W'
theorem Gone.mk {p : Pd} {c : Cl} {name : Nm} {d N : Nat} {F F0 : Nat → Prop} {b m : Nat} {sv av : Value} {W V : World} {L : List (Nat × Obj)} (h : Am p c name d N F b m sv av W F0 L V) : Gone (p, c) name d N b m F0 W V := ⟨F, sv, av, h.bo, h.chg⟩
theorem Gone.any {r : Pd × Cl} {name : Nm} {d N M b m : Nat} {F0 : Nat → Prop} {W W' : World} (h : Gone r name d N b m F0 W W') (hM : N ≤ M) : Gone r name d M b m F0 W W' := by
  obtain ⟨F', sv', av', h1, h2⟩ := h
  exact ⟨F', sv', av', h1.mono hM, h2⟩
/-- Eleven cells anew in a box. -/
theorem Am.put11 {p : Pd} {c : Cl} {name : Nm} {d N : Nat} {F F0 : Nat → Prop} {b m : Nat} {sv av : Value} {W V V' : World} {L : List (Nat × Obj)} {q : Nat} {r : ReplyP} (h : Am p c name d N F b m sv av W F0 ((q, .cells (replyCells r) 119 (0, 0)) :: L) V) (r' : ReplyP) (hL : ∀ x ∈ L, x.1 ≠ q)
    (hV : V' = (((((((((((V.setCell ⟨q, 0, none⟩ (.int .u64 r'.id)).setCell ⟨q, 1, none⟩ (.int .u64 r'.nonce)).setCell ⟨q, 2, none⟩ (.int .u64 (l3 r'.bal : Nat))).setCell ⟨q, 3, none⟩ (.int .u64 (l2 r'.bal : Nat))).setCell ⟨q, 4, none⟩ (.int .u64 (l1 r'.bal : Nat))).setCell ⟨q, 5, none⟩ (.int .u64 (l0 r'.bal : Nat))).setCell ⟨q, 6, none⟩ (.string (str r'.code))).setCell ⟨q, 7, none⟩ (.int .u64 (l3 r'.value : Nat))).setCell ⟨q, 8, none⟩ (.int .u64 (l2 r'.value : Nat))).setCell ⟨q, 9, none⟩ (.int .u64 (l1 r'.value : Nat))).setCell ⟨q, 10, none⟩ (.int .u64 (l0 r'.value : Nat)))) :
    Am p c name d N F b m sv av W F0 ((q, .cells (replyCells r') 119 (0, 0)) :: L) V' := by
  subst hV
  have hb : V.heap[q]? = some (.cells (replyCells r) 119 (0, 0)) := h.at (List.mem_cons_self ..)
  exact h.put (chg_set11 _ _ _ _ _ _ _ _ _ _ _ _ _) (set11 hb _ _ _ _ _ _ _ _ _ _ _) hL
end Go.Proofs.YtekoaheiapddiaaGreat.Dz
end
section
namespace Go.Proofs.YtekoaheiapddiaaGreat.Dz
open Go.RowKit
abbrev rO (r : ReplyP) : Obj := .cells (replyCells r) 119 (0, 0)
abbrev aO (a : AskP) : Obj := .cells (askCells a) 117 (0, 0)
theorem zeroV : replyV ReplyP.zero = .agg #[.int .u64 0, .int .u64 0, .int .u64 0, .int .u64 0, .int .u64 0, .int .u64 0, .string ⟨#[]⟩, .int .u64 0, .int .u64 0, .int .u64 0, .int .u64 0] := rfl
theorem learnP_none {name : Nm} {p : Pd} {c c1 : Cl} {a : AskP} (ht : c.tries a 3 = (none, c1)) : learnP name p c a = ((ReplyP.zero, 4), p, c1) := by unfold learnP; rw [ht]
theorem learnP_ok {name : Nm} {p : Pd} {c c1 : Cl} {a : AskP} {r : ReplyP} (ht : c.tries a 3 = (some r, c1)) (he : (p.add name (recE a r)).1 = 0) : learnP name p c a = ((r, 0), (p.add name (recE a r)).2, { c1 with known := putK c1.known a r }) := by unfold learnP; rw [ht]; simp only; rw [if_pos he]
theorem learnP_err {name : Nm} {p : Pd} {c c1 : Cl} {a : AskP} {r : ReplyP} (ht : c.tries a 3 = (some r, c1)) (he : (p.add name (recE a r)).1 ≠ 0) : learnP name p c a = ((ReplyP.zero, (p.add name (recE a r)).1), (p.add name (recE a r)).2, c1) := by unfold learnP; rw [ht]; simp only; rw [if_neg he]
section
variable {p : Pd} {c : Cl} {name : Nm} {d N : Nat} {F : Nat → Prop} {b m : Nat} {sv av : Value} {W : World}
set_option maxRecDepth 100000 in
set_option maxHeartbeats 8000000 in
theorem learn_c (h : Bo p c name d N F b m sv av W) {a : AskP} (ha : a.Key) (hn : c.asked.length ≤ 1000000) (hN : N < 900000) (hs : name.length ≤ 1000000) :
    Calls Tryz.prog 142 #[.pointer (some ⟨b, 0, none⟩), askV a] W fun e W' => e = .returned (.tuple #[replyV (learnP name p c a).1.1, .int .i64 (learnP name p c a).1.2]) ∧ Gone (learnP name p c a).2 name d (N + 4) b m (ftB F b m sv av) W W' := by
  have HM := Lib.hid (((Am.start h).alloc (aO a)).alloc (rO ReplyP.zero))
  have hsz0 : ∀ o, (W.alloc o).heap.size = W.heap.size + 1 := fun o => alloc_size W o
  rw [hsz0] at HM
  have RC := Lib.hid (fun V (k : CAt c name d b m sv av V) => reply_c k ha hn)
  have HA := Lib.hid (And.intro ha (And.intro hN hs))
  have HK := Lib.hid (tries_known a 3 c)
  cases ht : c.tries a 3 with
  | mk o c1 =>
  rw [ht] at RC HK
  simp only at RC HK ⊢
  have HT := Lib.hid ht
  clear h ha hn hN hs hsz0 ht
  unfold aO rO at HM
  rw [zeroCells] at HM
  unfold askV at RC ⊢
  unfold askCells at HM
  have k1 := HM.out.at (q := W.heap.size) (List.mem_cons_of_mem _ (List.mem_cons_self ..))
  obtain ⟨⟨x0, x1, x2, x3, x4, x5, x6⟩, _⟩ := cells7 k1
  clear k1
  cases o with
  | none =>
    simp only [Option.getD_none, Option.isSome_none] at RC
    rw [zeroV] at RC
    go_enter Tryz.func142, Tryz.ntmps142
    go_wp2_with fail
    refine (RC.out _ HM.out.bo.at').mono ?_
    rintro e V1 ⟨rfl, sv1, av1, r1, r2⟩
    have M1 := HM.out.client r1 r2
    clear r1 r2 HM RC x0 x1 x2 x3 x4 x5 x6
    have M2 := M1.alloc (rO ReplyP.zero)
    unfold rO at M2
    rw [zeroCells] at M2
    have k1 := M2.at (q := W.heap.size + 1) (List.mem_cons_of_mem _ (List.mem_cons_self ..))
    obtain ⟨⟨k0, k1, k2, k3, k4, k5, k6, k7, k8, k9, k10⟩, d0, d1, d2, d3, d4, d5, d6, d7, d8, d9, d10⟩ := cells11 k1
    have H2 := Lib.hid M2
    clear M1 M2
    go_wp2_with fail
    have M3 := (H2.out.sub (L' := [(W.heap.size + 1, rO ReplyP.zero)]) (fun x hx => by obtain rfl := List.mem_singleton.1 hx; exact List.mem_cons_of_mem _ (List.mem_cons_self ..))).put11 ReplyP.zero (by simp) rfl
    rw [learnP_none HT.out]
    exact bodyPost_ret (results_cell_slot Tryz.results142 _ _ _ _ _ _ _ _ rfl rfl (M3.at (List.mem_cons_self ..)) Tryz.underlying119 rfl (by kernel_rfl)) rfl ⟨rfl, (Gone.mk M3).any (by omega)⟩
  | some r =>
    simp only [Option.getD_some, Option.isSome_some] at RC
    unfold replyV at RC
    go_enter Tryz.func142, Tryz.ntmps142
    go_wp2_with fail
    refine (RC.out _ HM.out.bo.at').mono ?_
    rintro e V1 ⟨rfl, sv1, av1, r1, r2⟩
    have M1 := HM.out.client r1 r2
    clear r1 r2 HM RC x0 x1 x2 x3 x4 x5 x6
    have M2 := M1.alloc (rO r)
    unfold rO replyCells at M2
    -- SOME
    have HQ9 := Lib.hid (show W.heap.size + 1 < V1.heap.size from lt_of (M1.at (q := W.heap.size + 1) (List.mem_cons_self ..)))
    clear M1
    obtain ⟨q, hq⟩ : ∃ q, q = V1.heap.size := ⟨_, rfl⟩
    rw [← hq] at M2 HQ9
    have hqq := Lib.hid hq
    go_wp2_with fail
    rw [← hq]
    clear hq
    generalize World.alloc V1 _ = V2 at M2 ⊢
    have H0 : ∃ p' N' F', Am p' c1 name d N' F' b m sv1 av1 W (ftB F b m sv av) [(q, rO r), (W.heap.size + 1, rO ReplyP.zero), (W.heap.size, aO a)] V2.drew := ⟨_, _, _, M2.call (Below.refl _ V2).drew⟩
    replace M2 : Am p c1 name d N F b m sv1 av1 W (ftB F b m sv av) [(q, rO r), (W.heap.size + 1, rO ReplyP.zero), (W.heap.size, aO a)] V2.drew := M2.call (Below.refl _ V2).drew
    have HS := Lib.hid (fun (V : World) (hV : ∃ p' N' F', Am p' c1 name d N' F' b m sv1 av1 W (ftB F b m sv av) [(q, rO r), (W.heap.size + 1, rO ReplyP.zero), (W.heap.size, aO a)] V) => (show (V.cell? ⟨b, 0, none⟩ = some (.pointer (some ⟨d, 0, none⟩)) ∧ V.cell? ⟨b, 1, none⟩ = some (.string (str name))) ∧ _ ∧ _ from by
      obtain ⟨_, _, _, hV⟩ := hV
      exact ⟨⟨hV.bo.at'.reads.1.1, hV.bo.at'.reads.1.2.1⟩, (cells11 (hV.at (q := q) (o := rO r) (List.mem_cons_self ..))).1, (cells7 (hV.at (q := W.heap.size) (o := aO a) (List.mem_cons_of_mem _ (List.mem_cons_of_mem _ (List.mem_cons_self ..))))).1⟩))
    obtain ⟨ha, hN9, hs9⟩ := HA.out
    obtain ⟨hk1, hk2, hk3⟩ := HK.out
    obtain ⟨rw1, ro1, ri1⟩ := hk3 r rfl
    have T1 := Lib.hid (fun V => ftext_c ha rw1 ro1 V)
    have HR := Lib.hid (And.intro hk1 (And.intro rw1 (And.intro ro1 ri1)))
    clear ha hk1 hk2 hk3 rw1 ro1 ri1 HK
    refine Drawn.start (fun V => ∃ p' N' F', Am p' c1 name d N' F' b m sv1 av1 W (ftB F b m sv av) [(q, rO r), (W.heap.size + 1, rO ReplyP.zero), (W.heap.size, aO a)] V) (fun _ => false) (by kernel_rfl) ?_
    generalize World.drew _ = V3 at M2 H0 ⊢
    refine Drawn.take 0 (some 18) (v := ?_) rfl rfl (by kernel_rfl) (by kernel_rfl) (by kernel_rfl) (by kernel_rfl) (by kernel_rfl) rfl (fun _ _ _ h => h) (Or.inl ⟨rfl, ?_⟩) H0 ?_
    rotate_left
    · intro W hW; have hW := HS.out W hW; go_simp; try with_reducible rfl
    simp only [put_list, List.set]
    refine Drawn.take 1 (some 19) (v := ?_) rfl rfl (by kernel_rfl) (by kernel_rfl) (by kernel_rfl) (by kernel_rfl) (by kernel_rfl) rfl (fun _ _ _ h => h) (Or.inl ⟨rfl, ?_⟩) H0 ?_
    rotate_left
    · intro W hW; have hW := HS.out W hW; go_simp; try with_reducible rfl
    simp only [put_list, List.set]
    refine Drawn.take 2 (some 20) (v := ?_) rfl rfl (by kernel_rfl) (by kernel_rfl) (by kernel_rfl) (by kernel_rfl) (by kernel_rfl) rfl (fun _ _ _ h => h) (Or.inl ⟨rfl, ?_⟩) H0 ?_
    rotate_left
    · intro W hW; have hW := HS.out W hW; go_simp; try with_reducible rfl
    simp only [put_list, List.set]
    refine Drawn.take 3 (some 21) (v := ?_) rfl rfl (by kernel_rfl) (by kernel_rfl) (by kernel_rfl) (by kernel_rfl) (by kernel_rfl) rfl (fun _ _ _ h => h) (Or.inl ⟨rfl, ?_⟩) H0 ?_
    rotate_left
    · intro W hW; have hW := HS.out W hW; go_simp; try with_reducible rfl
    simp only [put_list, List.set]
    refine Drawn.take 4 (some 22) (v := ?_) rfl rfl (by kernel_rfl) (by kernel_rfl) (by kernel_rfl) (by kernel_rfl) (by kernel_rfl) rfl (fun _ _ _ h => h) (Or.inl ⟨rfl, ?_⟩) H0 ?_
    rotate_left
    · intro W hW; have hW := HS.out W hW; go_simp; try with_reducible rfl
    simp only [put_list, List.set]
    refine Drawn.take 5 (some 23) (v := ?_) rfl rfl (by kernel_rfl) (by kernel_rfl) (by kernel_rfl) (by kernel_rfl) (by kernel_rfl) rfl (fun _ _ _ h => h) (Or.inl ⟨rfl, ?_⟩) H0 ?_
    rotate_left
    · intro W hW; have hW := HS.out W hW; go_simp; try with_reducible rfl
    simp only [put_list, List.set]
    refine Drawn.take 6 (some 24) (v := ?_) rfl rfl (by kernel_rfl) (by kernel_rfl) (by kernel_rfl) (by kernel_rfl) (by kernel_rfl) rfl (fun _ _ _ h => h) (Or.inl ⟨rfl, ?_⟩) H0 ?_
    rotate_left
    · intro W hW; have hW := HS.out W hW; go_simp; try with_reducible rfl
    simp only [put_list, List.set]
    refine Drawn.take 7 (some 25) (v := ?_) rfl rfl (by kernel_rfl) (by kernel_rfl) (by kernel_rfl) (by kernel_rfl) (by kernel_rfl) rfl (fun _ _ _ h => h) (Or.inl ⟨rfl, ?_⟩) H0 ?_
    rotate_left
    · intro W hW; have hW := HS.out W hW; go_simp; try with_reducible rfl
    simp only [put_list, List.set]
    refine Drawn.take 8 (some 26) (v := ?_) rfl rfl (by kernel_rfl) (by kernel_rfl) (by kernel_rfl) (by kernel_rfl) (by kernel_rfl) rfl (fun _ _ _ h => h) (Or.inl ⟨rfl, ?_⟩) H0 ?_
    rotate_left
    · intro W hW; have hW := HS.out W hW; go_simp; try with_reducible rfl
    simp only [put_list, List.set]
    refine Drawn.take 9 (some 27) (v := ?_) rfl rfl (by kernel_rfl) (by kernel_rfl) (by kernel_rfl) (by kernel_rfl) (by kernel_rfl) rfl (fun _ _ _ h => h) (Or.inl ⟨rfl, ?_⟩) H0 ?_
    rotate_left
    · intro W hW; have hW := HS.out W hW; go_simp; try with_reducible rfl
    simp only [put_list, List.set]
    refine Drawn.only 10 (by kernel_rfl) rfl rfl (fun K hK => ?_)
    go_simp
    unfold askV replyV at T1
    refine (T1.out _).mono ?_
    rintro e V4 ⟨rfl, hb⟩
    replace M2 := M2.call hb
    refine hK _ _ (fun _ _ => ⟨_, _, _, M2⟩) ?_
    clear hK K hb T1
    try simp only [put_list, List.set]
    refine Drawn.only 11 (by kernel_rfl) rfl rfl (fun K hK => ?_)
    go_simp
    refine (M2.bo.on.add (by omega) hs9).mono ?_
    rintro e V5 ⟨rfl, hl⟩
    obtain ⟨F5, M5⟩ := M2.disk hl
    clear M2 H0
    refine hK _ _ (fun _ _ => ⟨_, _, _, M5⟩) ?_
    clear hK K hl hs9 hN9
    try simp only [put_list, List.set]
    refine Drawn.only 12 (by kernel_rfl) rfl rfl (fun K hK => ?_)
    go_simp
    refine hK _ _ (fun _ _ => ⟨_, _, _, M5⟩) ?_
    clear hK K
    try simp only [put_list, List.set]
    refine Drawn.done (by kernel_rfl) ?_ _
    clear HS
    by_cases he : (p.add name (recE a r)).1 = 0
    · have hz := learnP_ok HT.out he
      have HZ := Lib.hid hz
      clear hz HT
      rw [he]
      clear he
      have hlz : ((str a.addr).size : Int) ≤ 281474976710656 := by rw [str_size]; have := HA.out.1.2.1.1; omega
      have CL := Lib.hid (fun V => sclone_c (str a.addr) V (by omega))
      obtain ⟨x0, x1, x2, x3, x4, x5, x6⟩ := (cells7 (M5.at (q := W.heap.size) (o := aO a) (List.mem_cons_of_mem _ (List.mem_cons_of_mem _ (List.mem_cons_self ..))))).1
      have HM5 := Lib.hid M5
      clear M5 hlz
      go_wp2_with fail
      refine (CL.out _).mono ?_
      rintro e V6 ⟨rfl, hb⟩
      have M6 := HM5.out.call hb
      clear HM5 hb x0 x1 x2 x3 x4 x5 x6 CL
      obtain ⟨⟨x0, x1, x2, x3, x4, x5, x6⟩, f0, f1, f2, f3, f4, f5, f6⟩ := cells7 (M6.at (q := W.heap.size) (o := aO a) (List.mem_cons_of_mem _ (List.mem_cons_of_mem _ (List.mem_cons_self ..))))
      have hm7 : (V6.setCell ⟨W.heap.size, 1, none⟩ (.string (str a.addr))).heap[W.heap.size]? = some (aO a) := by
        have := heap_setCell_same V6 W.heap.size 1 _ _ (.string (str a.addr)) (M6.at (q := W.heap.size) (o := aO a) (List.mem_cons_of_mem _ (List.mem_cons_of_mem _ (List.mem_cons_self ..))))
        simpa [aO, askCells] using this
      have hq9 := HQ9.out
      have M7 := (M6.sub (L' := [(W.heap.size, aO a), (q, rO r), (W.heap.size + 1, rO ReplyP.zero)]) (fun x hx => by simp only [List.mem_cons, List.not_mem_nil, or_false] at hx ⊢; rcases hx with rfl | rfl | rfl <;> simp)).put (chg_set (F := fun k => k = W.heap.size) (F' := fun k => k = W.heap.size) (Chg.refl _ V6) (Or.inl rfl) 1 (.string (str a.addr))) hm7 (by simp; omega)
      have HM7 := Lib.hid M7
      clear M6 M7 hm7 hq9
      go_wp2_with fail
      replace M7 := HM7.out.call (Below.refl _ _).drew
      have HS := Lib.hid (fun (V : World) (hV : ∃ c9, Am (p.add name (recE a r)).2 c9 name d (N + 4) F5 b m sv1 av1 W (ftB F b m sv av) [(W.heap.size, aO a), (q, rO r), (W.heap.size + 1, rO ReplyP.zero)] V) => (show V.cell? ⟨b, 2, none⟩ = some (.map (some m)) ∧ _ ∧ _ from by
        obtain ⟨_, hV⟩ := hV
        exact ⟨hV.bo.at'.reads.1.2.2.1, (cells11 (hV.at (q := q) (o := rO r) (List.mem_cons_of_mem _ (List.mem_cons_self ..)))).1, (cells7 (hV.at (q := W.heap.size) (o := aO a) (List.mem_cons_self ..))).1⟩))
      clear HM7 x0 x1 x2 x3 x4 x5 x6 f0 f1 f2 f3 f4 f5 f6
      generalize World.setCell V6 _ _ = V7 at M7 ⊢
      refine Drawn.start (fun V => ∃ c9, Am (p.add name (recE a r)).2 c9 name d (N + 4) F5 b m sv1 av1 W (ftB F b m sv av) [(W.heap.size, aO a), (q, rO r), (W.heap.size + 1, rO ReplyP.zero)] V) (fun _ => false) (by kernel_rfl) ?_
      have H0 : ∃ c9, Am (p.add name (recE a r)).2 c9 name d (N + 4) F5 b m sv1 av1 W (ftB F b m sv av) [(W.heap.size, aO a), (q, rO r), (W.heap.size + 1, rO ReplyP.zero)] V7.drew := ⟨_, M7⟩
      generalize World.drew _ = V8 at M7 H0 ⊢
      refine Drawn.take 0 (some 38) (v := ?_) rfl rfl (by kernel_rfl) (by kernel_rfl) (by kernel_rfl) (by kernel_rfl) (by kernel_rfl) rfl (fun _ _ _ h => h) (Or.inl ⟨rfl, ?_⟩) H0 ?_
      rotate_left
      · intro W hW; have hW := HS.out W hW; go_simp; try with_reducible rfl
      simp only [put_list, List.set]
      refine Drawn.take 1 (some 39) (v := ?_) rfl rfl (by kernel_rfl) (by kernel_rfl) (by kernel_rfl) (by kernel_rfl) (by kernel_rfl) rfl (fun _ _ _ h => h) (Or.inl ⟨rfl, ?_⟩) H0 ?_
      rotate_left
      · intro W hW; have hW := HS.out W hW; go_simp; try with_reducible rfl
      simp only [put_list, List.set]
      refine Drawn.take 2 (some 40) (v := ?_) rfl rfl (by kernel_rfl) (by kernel_rfl) (by kernel_rfl) (by kernel_rfl) (by kernel_rfl) rfl (fun _ _ _ h => h) (Or.inl ⟨rfl, ?_⟩) H0 ?_
      rotate_left
      · intro W hW; have hW := HS.out W hW; go_simp; try with_reducible rfl
      simp only [put_list, List.set]
      refine Drawn.take 3 (some 41) (v := ?_) rfl rfl (by kernel_rfl) (by kernel_rfl) (by kernel_rfl) (by kernel_rfl) (by kernel_rfl) rfl (fun _ _ _ h => h) (Or.inl ⟨rfl, ?_⟩) H0 ?_
      rotate_left
      · intro W hW; have hW := HS.out W hW; go_simp; try with_reducible rfl
      simp only [put_list, List.set]
      refine Drawn.take 4 (some 42) (v := ?_) rfl rfl (by kernel_rfl) (by kernel_rfl) (by kernel_rfl) (by kernel_rfl) (by kernel_rfl) rfl (fun _ _ _ h => h) (Or.inl ⟨rfl, ?_⟩) H0 ?_
      rotate_left
      · intro W hW; have hW := HS.out W hW; go_simp; try with_reducible rfl
      simp only [put_list, List.set]
      refine Drawn.take 5 (some 43) (v := ?_) rfl rfl (by kernel_rfl) (by kernel_rfl) (by kernel_rfl) (by kernel_rfl) (by kernel_rfl) rfl (fun _ _ _ h => h) (Or.inl ⟨rfl, ?_⟩) H0 ?_
      rotate_left
      · intro W hW; have hW := HS.out W hW; go_simp; try with_reducible rfl
      simp only [put_list, List.set]
      refine Drawn.only 6 (by kernel_rfl) rfl rfl (fun K hK => ?_)
      obtain ⟨o, hrun, hmap⟩ := M7.bo.at'.map.put M7.bo.at'.ok HA.out.1 r
      unfold askV replyV at hrun
      go_simp
      obtain ⟨n1, n2⟩ := M7.bo.at'.newKnown (M7.bo.at'.ok.put HA.out.1 HR.out.2.1 HR.out.2.2.1 HR.out.2.2.2) hmap
      have M8 := M7.client n1 n2
      refine hK _ _ (fun _ _ => ⟨_, M8⟩) ?_
      clear M7 H0 hrun hmap n1 n2 hK K HS
      generalize ChangeMaps.setBlock _ _ _ = V9 at M8 ⊢
      try simp only [put_list, put_none, List.set]
      refine Drawn.done (by kernel_rfl) ?_ _
      obtain ⟨⟨g0, g1, g2, g3, g4, g5, g6, g7, g8, g9, g10⟩, _⟩ := cells11 (M8.at (q := q) (o := rO r) (List.mem_cons_of_mem _ (List.mem_cons_self ..)))
      obtain ⟨⟨k0, k1, k2, k3, k4, k5, k6, k7, k8, k9, k10⟩, d0, d1, d2, d3, d4, d5, d6, d7, d8, d9, d10⟩ := cells11 (M8.at (q := W.heap.size + 1) (o := rO ReplyP.zero) (List.mem_cons_of_mem _ (List.mem_cons_of_mem _ (List.mem_cons_self ..))))
      have HM8 := Lib.hid M8
      clear M8
      go_wp2_with fail
      have M9 := (HM8.out.sub (L' := [(W.heap.size + 1, rO ReplyP.zero)]) (fun x hx => by obtain rfl := List.mem_singleton.1 hx; exact List.mem_cons_of_mem _ (List.mem_cons_of_mem _ (List.mem_cons_self ..)))).put11 r (by simp) rfl
      rw [HZ.out]
      exact bodyPost_ret (results_cell_slot Tryz.results142 _ _ _ _ _ _ _ _ rfl rfl (M9.at (List.mem_cons_self ..)) Tryz.underlying119 rfl (by kernel_rfl)) rfl ⟨rfl, Gone.mk M9⟩
    · have hz := learnP_err HT.out he
      have HZ := Lib.hid hz
      clear hz HT
      have hne : ¬ (p.add name (recE a r)).1 = 0 := he
      clear he
      generalize he5 : (p.add name (recE a r)).1 = e5 at *
      obtain ⟨⟨k0, k1, k2, k3, k4, k5, k6, k7, k8, k9, k10⟩, d0, d1, d2, d3, d4, d5, d6, d7, d8, d9, d10⟩ := cells11 (M5.at (q := W.heap.size + 1) (o := rO ReplyP.zero) (List.mem_cons_of_mem _ (List.mem_cons_self ..)))
      have HM5 := Lib.hid M5
      clear M5 he5
      go_wp2_with fail
      have M6 := (HM5.out.sub (L' := [(W.heap.size + 1, rO ReplyP.zero)]) (fun x hx => by obtain rfl := List.mem_singleton.1 hx; exact List.mem_cons_of_mem _ (List.mem_cons_self ..))).put11 ReplyP.zero (by simp) rfl
      rw [HZ.out]
      exact bodyPost_ret (results_cell_slot Tryz.results142 _ _ _ _ _ _ _ _ rfl rfl (M6.at (List.mem_cons_self ..)) Tryz.underlying119 rfl (by kernel_rfl)) rfl ⟨rfl, Gone.mk M6⟩
end
end Go.Proofs.YtekoaheiapddiaaGreat.Dz
end
section
namespace Go.Proofs.YtekoaheiapddiaaGreat.Dz
open Go.RowKit

def accC (r : ReplyP) : Array Value := #[.int .u64 r.nonce, .int .u64 (l3 r.bal : Nat), .int .u64 (l2 r.bal : Nat), .int .u64 (l1 r.bal : Nat), .int .u64 (l0 r.bal : Nat), .string (str r.code)]
def valC (r : ReplyP) : Array Value := #[.int .u64 (l3 r.value : Nat), .int .u64 (l2 r.value : Nat), .int .u64 (l1 r.value : Nat), .int .u64 (l0 r.value : Nat)]
theorem set6 {w : World} {b : Nat} {v0 v1 v2 v3 v4 v5 : Value} {t : TypeId} (h : w.heap[b]? = some (.cells #[v0, v1, v2, v3, v4, v5] t (0, 0))) (u0 u1 u2 u3 u4 u5 : Value) :
    ((((((w.setCell ⟨b, 0, none⟩ u0).setCell ⟨b, 1, none⟩ u1).setCell ⟨b, 2, none⟩ u2).setCell ⟨b, 3, none⟩ u3).setCell ⟨b, 4, none⟩ u4).setCell ⟨b, 5, none⟩ u5).heap[b]? = some (.cells #[u0, u1, u2, u3, u4, u5] t (0, 0)) := by
  have e := heap_setCell_same _ _ 5 _ _ u5 (heap_setCell_same _ _ 4 _ _ u4 (heap_setCell_same _ _ 3 _ _ u3 (heap_setCell_same _ _ 2 _ _ u2 (heap_setCell_same _ _ 1 _ _ u1 (heap_setCell_same _ _ 0 _ _ u0 h)))))
  simpa using e
theorem chg_set6 (V : World) (q : Nat) (u0 u1 u2 u3 u4 u5 : Value) : Chg (fun k => k = q) (fun k => k = q) V ((((((V.setCell ⟨q, 0, none⟩ u0).setCell ⟨q, 1, none⟩ u1).setCell ⟨q, 2, none⟩ u2).setCell ⟨q, 3, none⟩ u3).setCell ⟨q, 4, none⟩ u4).setCell ⟨q, 5, none⟩ u5) :=
  have s : ∀ {W1 : World}, Chg (fun k => k = q) (fun k => k = q) V W1 → ∀ j u, Chg (fun k => k = q) (fun k => k = q) V (W1.setCell ⟨q, j, none⟩ u) := fun h j u => chg_set (F := fun k => k = q) (F' := fun k => k = q) h (Or.inl rfl) j u
  s (s (s (s (s (s (Chg.refl _ V) 0 _) 1 _) 2 _) 3 _) 4 _) 5 _
theorem chg_set4 (V : World) (q : Nat) (u0 u1 u2 u3 : Value) : Chg (fun k => k = q) (fun k => k = q) V ((((V.setCell ⟨q, 0, none⟩ u0).setCell ⟨q, 1, none⟩ u1).setCell ⟨q, 2, none⟩ u2).setCell ⟨q, 3, none⟩ u3) :=
  have s : ∀ {W1 : World}, Chg (fun k => k = q) (fun k => k = q) V W1 → ∀ j u, Chg (fun k => k = q) (fun k => k = q) V (W1.setCell ⟨q, j, none⟩ u) := fun h j u => chg_set (F := fun k => k = q) (F' := fun k => k = q) h (Or.inl rfl) j u
  s (s (s (s (Chg.refl _ V) 0 _) 1 _) 2 _) 3 _
set_option maxRecDepth 100000 in
theorem part_acc (r : ReplyP) (w : World) : Calls Tryz.prog 100 #[replyV r] w fun e w' => e = .returned (.agg (accC r)) ∧ Below w.heap.size w w' := by
  have hb0 : ((w.alloc (.cells (replyCells r) 119)).alloc (.cells #[.int .u64 0, .int .u64 0, .int .u64 0, .int .u64 0, .int .u64 0, .string ⟨#[]⟩] 82)).heap[w.heap.size]? = some (rO r) := (Below.heap_alloc _ _ _ (by simp)).trans (heap_alloc_new _ _)
  have hb1 := heap_alloc_new (w.alloc (.cells (replyCells r) 119)) (.cells (accC r) 82)
  rw [alloc_size] at hb1
  have hB : Below w.heap.size w ((w.alloc (.cells (replyCells r) 119)).alloc (.cells (accC r) 82)) := ((Below.refl _ _).alloc (Nat.le_refl _) _).alloc (by simp) _
  obtain ⟨⟨g0, g1, g2, g3, g4, g5, g6, g7, g8, g9, g10⟩, _⟩ := cells11 hb0
  have H := Lib.hid (And.intro hb1 hB)
  clear hb0 hb1 hB
  unfold replyCells accC at H
  unfold replyCells at *
  unfold replyV
  go_enter Tryz.func100, Tryz.ntmps100
  go_wp2_with fail
  exact bodyPost_ret (results_cell_row Tryz.results100 _ _ _ _ _ _ _ rfl H.out.1 Tryz.underlying82 rfl (by kernel_rfl)) rfl ⟨rfl, H.out.2⟩
set_option maxRecDepth 100000 in
theorem part_val (r : ReplyP) (w : World) : Calls Tryz.prog 119 #[replyV r] w fun e w' => e = .returned (.agg (valC r)) ∧ Below w.heap.size w w' := by
  have hb0 : ((w.alloc (.cells (replyCells r) 119)).alloc (.cells #[.int .u64 0, .int .u64 0, .int .u64 0, .int .u64 0] 61)).heap[w.heap.size]? = some (rO r) := (Below.heap_alloc _ _ _ (by simp)).trans (heap_alloc_new _ _)
  have hb1 := heap_alloc_new (w.alloc (.cells (replyCells r) 119)) (.cells (valC r) 61)
  rw [alloc_size] at hb1
  have hB : Below w.heap.size w ((w.alloc (.cells (replyCells r) 119)).alloc (.cells (valC r) 61)) := ((Below.refl _ _).alloc (Nat.le_refl _) _).alloc (by simp) _
  obtain ⟨⟨g0, g1, g2, g3, g4, g5, g6, g7, g8, g9, g10⟩, _⟩ := cells11 hb0
  have H := Lib.hid (And.intro hb1 hB)
  clear hb0 hb1 hB
  unfold replyCells valC at H
  unfold replyCells at *
  unfold replyV
  go_enter Tryz.func119, Tryz.ntmps119
  go_wp2_with fail
  exact bodyPost_ret (results_cell_row Tryz.results119 _ _ _ _ _ _ _ rfl H.out.1 Tryz.underlying61 rfl (by kernel_rfl)) rfl ⟨rfl, H.out.2⟩
theorem enter_acc (args : Array Value) (w : World) : (callFunc 100 args).run Tryz.prog w = .ok (.enter 100 args) w := enters_of Tryz.func100 (by kernel_rfl) rfl args w
theorem enter_val (args : Array Value) (w : World) : (callFunc 119 args).run Tryz.prog w = .ok (.enter 119 args) w := enters_of Tryz.func119 (by kernel_rfl) rfl args w
theorem askP_short {name : Nm} {p : Pd} {c : Cl} {a : AskP} (h : a.addr.length ≠ 20) : askP name p c a = ((ReplyP.zero, 1), p, c) := by unfold askP; rw [if_pos h]
theorem askP_known {name : Nm} {p : Pd} {c : Cl} {a : AskP} {r : ReplyP} (h : a.addr.length = 20) (hg : getK c.known a = some r) : askP name p c a = ((r, 0), p, c) := by unfold askP; rw [if_neg (fun k => k h), hg]
theorem askP_new {name : Nm} {p : Pd} {c : Cl} {a : AskP} (h : a.addr.length = 20) (hg : getK c.known a = none) : askP name p c a = learnP name p c a := by unfold askP; rw [if_neg (fun k => k h), hg]
theorem learnP_zero {name : Nm} {p : Pd} {c : Cl} {a : AskP} (h : (learnP name p c a).1.2 ≠ 0) : (learnP name p c a).1.1 = ReplyP.zero := by
  cases ht : c.tries a 3 with
  | mk o c1 =>
    cases o with
    | none => rw [learnP_none ht]
    | some r =>
      by_cases he : (p.add name (recE a r)).1 = 0
      · rw [learnP_ok ht he] at h; exact absurd rfl h
      · rw [learnP_err ht he]
end Go.Proofs.YtekoaheiapddiaaGreat.Dz
end
