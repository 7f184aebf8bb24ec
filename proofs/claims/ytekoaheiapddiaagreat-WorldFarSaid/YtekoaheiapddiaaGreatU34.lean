/- Merged: Hp, Hq, Hr, Ht. -/
import Derived.RangeFuncWrites
import Derived.RangeFuncBox
import Derived.RangeFuncLeaves
import Derived.RangeFuncCalls
import Derived.WalkKit
import Derived.OwnWalkIn
import Derived.TacticsInMore
import Derived.LoopNIn
import Derived.LoopIn
import Derived.Lib.SliceRun
import Derived.Test.YtekoaheiapddiaaGreatU31
import Derived.Test.YtekoaheiapddiaaGreatU32
section
namespace Go.Proofs.YtekoaheiapddiaaGreat.Dz.Wo
open Go.RowKit Go.Maps Mp Go.Shelf

/-- What a round keeps for the iterator: the box of the slice, and the row. -/
def KpB (Bs b : Nat) (W W' : World) : Prop := W'.heap[Bs]? = W.heap[Bs]? ∧ W'.heap[b]? = W.heap[b]?
theorem KpB.trans {Bs b : Nat} {X Y Z : World} (h : KpB Bs b X Y) (k : KpB Bs b Y Z) : KpB Bs b X Z := ⟨k.1.trans h.1, k.2.trans h.2⟩
set_option maxRecDepth 100000 in
set_option maxHeartbeats 2000000 in
theorem back1_in (F : Fence) (n : Nat) (h7 : F.fn 134) (hro : F.round = none) (hn : 1 ≤ n) (l Bs b off len cap : Nat) (vs : Nat → Value) (hreach : len < 1000000000000) (J Jx : List Nat → World → Prop)
    (hY : ∀ pre (x : Nat) W, J pre W → pre.length < len → YieldAt F (n - 1) Tryz.prog l #[.int .i64 ((len : Int) - 1 - (x : Int)), vs x] W fun e W' =>
      (e = .returned (.bool true) ∧ J (pre ++ [x]) W' ∧ KpB Bs b W W') ∨ (e = .returned (.bool false) ∧ Jx (pre ++ [x]) W'))
    (W : World) (hBs : W.cell? ⟨Bs, 0, none⟩ = some (.slice (some ⟨b, off, none⟩) len cap)) (hc : ∀ j, j < len → W.cell? ⟨b, off + j, none⟩ = some (vs (len - 1 - j))) (h0 : J [] W) :
    CallsIn F n Tryz.prog 134 #[.func (.yield l) #[] #[], .pointer (some ⟨Bs, 0, none⟩)] W fun e W' => (∃ v, e = .returned v) ∧
      ((∃ ys, ys = List.range len ∧ J ys W') ∨ (∃ pre, True ∧ Jx pre W')) := by
  refine callsIn_of_wp Tryz.func134 rfl h7 ?_ hro
  simp only [Tryz.ntmps134, List.size_toArray, List.length_cons, List.length_nil, Nat.reduceAdd, Nat.reduceSub, Array.replicate_succ, Array.replicate_zero, List.push_toArray, List.append_toArray, List.nil_append, List.cons_append]
  gi_wp2
  gi_loopw [3] (fun i wr => ∃ k : Nat, k ≤ len ∧ i = .int .i64 ((len : Int) - 1 - (k : Int)) ∧ J (List.range k) wr ∧ KpB Bs b W wr)
    (fun i _ => (intOf i + 1).toNat)
  case atStart => exact ⟨0, Nat.zero_le _, by simp, h0, rfl, rfl⟩
  case round =>
    obtain ⟨k, hk, rfl, hJs, hnx⟩ := hrel
    have hb' : wr.cell? ⟨Bs, 0, none⟩ = some (.slice (some ⟨b, off, none⟩) len cap) := by rw [World.cell?, hnx.1]; exact hBs
    by_cases hlt : k < len
    · have hcx : wr.cell? ⟨b, off + (len - 1 - k), none⟩ = some (vs k) := by
        have := hc (len - 1 - k) (by omega)
        rw [World.cell?, hnx.2]
        rw [show len - 1 - (len - 1 - k) = k by omega] at this
        exact this
      obtain ⟨fn, tmps, assign, body, hy, hR⟩ := hY _ k wr hJs (by rw [List.length_range]; exact hlt)
      have hge : ¬ ((len : Int) - 1 - (k : Int) < 0) := by omega
      gi_wp2
      refine hR.mono ?_
      rintro e W3 (⟨rfl, hJ3, hk3⟩ | ⟨rfl, hJx3⟩)
      · gi_wp2
        go_roundw
        case rel => exact ⟨k + 1, by omega, by simp; omega, by rw [List.range_succ]; exact hJ3, hnx.trans hk3⟩
        case measure => simp [intOf]; omega
      · gi_wp2
        refine bodyPost_ret (results_none rfl _ _ _) rfl ?_
        exact ⟨⟨_, rfl⟩, .inr ⟨_, trivial, hJx3⟩⟩
    · obtain rfl : k = len := by omega
      gi_wp2
      go_end0
      exact ⟨⟨_, rfl⟩, .inl ⟨_, rfl, hJs⟩⟩
end Go.Proofs.YtekoaheiapddiaaGreat.Dz.Wo
end
section
namespace Go.Proofs.YtekoaheiapddiaaGreat.Dz.Wo
open Go.RowKit Go.Maps Mp

def undoN : Nat → List Bk → Ps → Ps
  | 0, _, s => s
  | _ + 1, [], s => s
  | n + 1, b :: bs, s => undoN n bs (b.undo s)
theorem undoN_succ : ∀ {k : Nat} {bs : List Bk} {s : Ps} {c : Bk}, bs[k]? = some c → undoN (k + 1) bs s = c.undo (undoN k bs s)
  | _, [], _, _, h => by simp at h
  | 0, b :: bs, s, c, h => by simp at h; subst h; simp [undoN]
  | k + 1, b :: bs, s, c, h => by
    have h1 : bs[k]? = some c := by simpa using h
    show undoN (k + 1) bs (b.undo s) = _
    rw [undoN_succ h1]; rfl
theorem pops_back : ∀ {k : Nat} {bs : List Bk} {s : Ps} {G : Gs} {old : List Gs}, s.abs = G → Uniq s.O → Hist s bs old → k ≤ bs.length →
    (undoN k bs s).abs = (pops k G old).1 ∧ Uniq (undoN k bs s).O ∧ Hist (undoN k bs s) (bs.drop k) (pops k G old).2
  | 0, bs, s, G, old, h1, h2, h3, _ => by
    have e : pops 0 G old = (G, old) := by cases old <;> rfl
    rw [e]; exact ⟨h1, h2, by simpa [undoN] using h3⟩
  | k + 1, [], s, G, old, _, _, _, h => by simp at h
  | k + 1, b :: bs, s, G, [], _, _, h3, _ => h3.elim
  | k + 1, b :: bs, s, G, g :: old, h1, h2, h3, h => by
    have := pops_back (k := k) h3.1 h3.2.1 h3.2.2 (by simpa using h)
    exact this
theorem live_back : ∀ {k : Nat} {bs : List Bk} {s : Ps} {m : Nat}, k ≤ bs.length → Live (undoN k bs s) (bs.drop k) m → Live s bs m
  | 0, bs, s, m, _, h => by simpa [undoN] using h
  | k + 1, [], s, m, h, _ => by simp at h
  | k + 1, b :: bs, s, m, h, hm => Live.undo (live_back (k := k) (by simpa using h) hm)
/-- The closure's function. -/
def Bk.fn : Bk → Nat
  | .o _ _ => 218
  | .i _ _ _ => 173
def Sx.mapsAt (x : Sx) (j : Nat) : Prop := j = x.mo ∨ j ∈ x.ids
/-- While changes are taken back: the maps, and what else lies as it lay. -/
structure Mid (x : Sx) (n : Nat) (s : Ps) (W0 W : World) : Prop where
  out : MapFn kitO x.mo n s.O W
  inn : ∀ m ∈ x.ids, MapFn kitW m n (s.I m) W
  chg : Chg x.mapsAt x.mapsAt W0 W
section
variable {x : Sx} {b n n0 : Nat} {s : Ps} {fv : Value} {W W0 V : World}
theorem WAt.mid (h : WAt x b fv n W) : Mid x n x.s W W := ⟨h.out, h.inn, Chg.refl _ _⟩
theorem Mid.kept (h : Mid x n s W0 W) (hw : W0.heap.size ≤ V.heap.size) (hk : ∀ j, j < W0.heap.size → V.heap[j]? = W.heap[j]?) (h1 : V.os = W.os) (h2 : V.tape = W.tape) (h3 : V.output = W.output) (hs : ∀ j, x.mapsAt j → j < W0.heap.size) : Mid x n s W0 V :=
  ⟨h.out.keep (hk _ (hs _ (Or.inl rfl))), fun m hm => (h.inn m hm).keep (hk _ (hs _ (Or.inr hm))), ⟨h1.trans h.chg.os, h2.trans h.chg.tape, h3.trans h.chg.output, hw, fun k hk1 hk2 => (hk k hk1).trans (h.chg.block k hk1 hk2), fun _ hk1 => Or.inl hk1⟩⟩
theorem chg_wide {F G : Nat → Prop} (h : Chg F F W V) (hF : ∀ k, F k → G k) : Chg G G W V := ⟨h.os, h.tape, h.output, h.size, fun k h1 h2 => h.block k h1 fun e => h2 (hF k e), fun _ hk => Or.inl hk⟩
theorem Mid.undo (h0 : WAt x b fv n0 W0) {i q : Nat} {c : Bk} (h1 : x.bs[i]? = some c) (h2 : x.qs[i]? = some q) (h : Mid x n s W0 W) (hn : n < 1000000000000) :
    Calls Tryz.prog c.fn #[ptr (q + 4), ptr (q + 3), ptr q, ptr (q + 1)] W fun e W' =>
      e = .returned (.tuple #[]) ∧ Mid x (n + 1) (c.undo s) W0 W' ∧ Chg x.mapsAt x.mapsAt W W' := by
  obtain ⟨h3, h4⟩ := h0.clo i c q h1 h2
  have h5 : BkAt x.mo c q W := h3.keep fun j j1 j2 => by
    obtain ⟨a1, a2, a3, a4⟩ := h0.apart q (List.mem_of_getElem? h2) j j1 j2
    exact h.chg.block j (by omega) fun e => e.elim a2 a3
  cases c with
  | o k old =>
    refine (undoO_c h.out hn h5).mono ?_
    rintro e V ⟨rfl, g1, g2⟩
    have g3 : Chg x.mapsAt x.mapsAt W V := chg_wide g2 fun k hk => Or.inl hk
    refine ⟨rfl, ⟨g1, fun m hm => ((h.inn m hm).keep (g2.block m (h.inn m hm).lt fun e => h0.sep (by rw [← e]; exact hm))).mono (Nat.le_succ n), h.chg.trans g3⟩, g3⟩
  | i m k old =>
    have hm : m ∈ x.ids := h0.live m (Or.inr ⟨_, List.mem_of_getElem? h1, rfl⟩)
    refine (undoI_c (h.inn m hm) hn h5).mono ?_
    rintro e V ⟨rfl, g1, g2⟩
    have g3 : Chg x.mapsAt x.mapsAt W V := chg_wide g2 fun k hk => Or.inr (by rw [hk]; exact hm)
    refine ⟨rfl, ⟨(h.out.keep (g2.block _ h.out.lt fun e => h0.sep (by rw [e]; exact hm))).mono (Nat.le_succ n), fun m' hm' => ?_, h.chg.trans g3⟩, g3⟩
    simp only [Bk.undo]
    by_cases e : m' = m
    · rw [if_pos e, e]; exact g1
    · rw [if_neg e]; exact ((h.inn m' hm').keep (g2.block m' (h.inn m' hm').lt e)).mono (Nat.le_succ n)
end
end Go.Proofs.YtekoaheiapddiaaGreat.Dz.Wo
end
section
namespace Go.Proofs.YtekoaheiapddiaaGreat.Dz.Wo
open Go.RowKit Go.Maps Mp Go.Shelf

theorem setCells_keep (g : Nat) {e : TypeId} : ∀ (vs : List Value) (o : Nat) (W : World) (cur : Array Value), W.heap[g]? = some (.cells cur e (0, 0)) →
    Chg (fun j => j = g) (fun j => j = g) W (W.setCells g o vs) ∧ ∃ cur' : Array Value, (W.setCells g o vs).heap[g]? = some (.cells cur' e (0, 0)) ∧ cur'.size = cur.size ∧ ∀ j, j < o → cur'[j]? = cur[j]?
  | [], _, W, cur, h => ⟨Chg.refl _ _, cur, h, rfl, fun _ _ => rfl⟩
  | v :: vs, o, W, cur, h => by
    obtain ⟨h1, cur', h2, h3, h4⟩ := setCells_keep g vs (o + 1) (W.setCell ⟨g, o, none⟩ v) _ (heap_setCell_same _ _ o _ _ v h)
    refine ⟨(chg_set (F := fun j => j = g) (F' := fun j => j = g) (Chg.refl _ W) (Or.inl rfl) o v).trans h1, cur', h2, by rw [h3]; simp, fun j hj => ?_⟩
    rw [h4 j (by omega)]
    simp [show o ≠ j by omega]
section
variable {x : Sx} {b n n' : Nat} {fv : Value} {W V : World}
def Sx.cAt (x : Sx) (p : Nat) : Bk := (x.bs[min p (x.bs.length - 1)]?).getD (.o [] none)
def Sx.qAt (x : Sx) (p : Nat) : Nat := (x.qs[min p (x.bs.length - 1)]?).getD 0
theorem Sx.at_ (x : Sx) (hl : x.qs.length = x.bs.length) (h : 0 < x.bs.length) (p : Nat) : x.bs[min p (x.bs.length - 1)]? = some (x.cAt p) ∧ x.qs[min p (x.bs.length - 1)]? = some (x.qAt p) := by
  unfold Sx.cAt Sx.qAt
  have h1 : min p (x.bs.length - 1) < x.bs.length := by omega
  exact ⟨by rw [List.getElem?_eq_getElem h1]; rfl, by rw [List.getElem?_eq_getElem (by omega)]; rfl⟩
def Sx.pre (x : Sx) (pre : List Nat) : Ps := pre.foldl (fun s p => (x.cAt p).undo s) x.s
theorem Sx.pre_range (x : Sx) : ∀ k, k ≤ x.bs.length → x.pre (List.range k) = undoN k x.bs x.s
  | 0, _ => by simp [Sx.pre, undoN]
  | k + 1, h => by
    have e : x.bs[k]? = some (x.cAt k) := by
      unfold Sx.cAt
      rw [show min k (x.bs.length - 1) = k by omega, List.getElem?_eq_getElem (by omega)]; rfl
    rw [undoN_succ e, ← Sx.pre_range x k (by omega), List.range_succ]
    simp [Sx.pre]
theorem row_drop {α β γ : Type} (f : α → β → γ) (l : List α) (m : List β) (h : m.length = l.length) (k : Nat) : (List.zipWith f (l.drop k) (m.drop k)).reverse = (List.zipWith f l m).reverse.take (l.length - k) := by
  rw [← List.drop_zipWith, List.reverse_drop]
  simp [h]
theorem row_at (h : WAt x b fv n W) {cur : Array Value} (hs : cur.toList.take (x.bs.length * 1) = (List.zipWith bkV x.bs x.qs).reverse) {k j : Nat} (hk : k ≤ x.bs.length) (hj : j < k) :
    cur[x.bs.length - k + j]? = some (bkV (x.cAt (k - 1 - j)) (x.qAt (k - 1 - j))) := by
  have e1 : cur[x.bs.length - k + j]? = (cur.toList.take (x.bs.length * 1))[x.bs.length - k + j]? := by
    rw [List.getElem?_take_of_lt (by omega)]; simp
  obtain ⟨e2, e3⟩ := x.at_ h.len (by omega) (k - 1 - j)
  have hl := h.len
  rw [e1, hs, List.getElem?_reverse (by simp; omega)]
  have e4 : (List.zipWith bkV x.bs x.qs).length - 1 - (x.bs.length - k + j) = min (k - 1 - j) (x.bs.length - 1) := by simp; omega
  rw [e4, List.getElem?_zipWith, e2, e3]
/-- What is left once the newest k are taken back. -/
def Sx.cut (x : Sx) (k : Nat) (v : Value) : Sx := ⟨undoN k x.bs x.s, x.bs.drop k, x.qs.drop k, x.ids, x.mo, v⟩
theorem WAt.cut (h : WAt x b fv n W) {k : Nat} (hk : k ≤ x.bs.length) (hn : n ≤ n') {v : Value} (T : Chg (fun j => j = b ∨ x.mapsAt j ∨ x.sv.ownBlock = some j) (fun j => j = b ∨ x.mapsAt j ∨ x.sv.ownBlock = some j) W V)
    (hcell : V.heap[b]? = some (worldO x.mo v fv)) (hout : MapFn kitO x.mo n' (undoN k x.bs x.s).O V) (hinn : ∀ m ∈ x.ids, MapFn kitW m n' ((undoN k x.bs x.s).I m) V)
    (hrow : V.ownsRow 0 1 1 v (x.bs.length - k) ((List.zipWith bkV x.bs x.qs).reverse.take (x.bs.length - k))) (hv : ∀ j, v.ownBlock = some j → x.sv.ownBlock = some j) :
    WAt (x.cut k v) b fv n' V ∧ Chg (x.ft b) ((x.cut k v).ft b) W V := by
  refine ⟨⟨hcell, hout, hinn, ?_, by simp [Sx.cut, h.len], ?_, fun i c q h1 h2 => ?_, fun m hm => h.live m (live_back hk hm), h.sep, fun q hq j h1 h2 => ?_⟩, ?_⟩
  · show V.ownsRow 0 1 1 v (x.bs.drop k).length (List.zipWith bkV (x.bs.drop k) (x.qs.drop k)).reverse
    rw [row_drop bkV x.bs x.qs h.len k, List.length_drop]; exact hrow
  · have := h.few
    show (x.bs.drop k).length ≤ n'
    rw [List.length_drop]; omega
  · simp only [Sx.cut, List.getElem?_drop] at h1 h2
    obtain ⟨h3, h4⟩ := h.clo (k + i) c q h1 h2
    refine ⟨h3.keep fun j j1 j2 => ?_, Nat.le_trans h4 T.size⟩
    obtain ⟨a1, a2, a3, a4⟩ := h.apart q (List.mem_of_getElem? h2) j j1 j2
    exact T.block j (by omega) fun e => by
      rcases e with e | e | e
      · exact a1 e
      · exact e.elim a2 a3
      · exact a4 e
  · obtain ⟨a1, a2, a3, a4⟩ := h.apart q (List.mem_of_mem_drop hq) j h1 h2
    exact ⟨a1, a2, a3, fun e => a4 (hv j e)⟩
  · refine ⟨T.os, T.tape, T.output, T.size, fun j h1 h2 => T.block j h1 fun e => h2 ?_, fun j hj => Or.inl ?_⟩
    · rcases e with e | e | e
      · exact Or.inl e
      · exact e.elim (fun e => Or.inr (Or.inl e)) (fun e => Or.inr (Or.inr (Or.inl e)))
      · exact Or.inr (Or.inr (Or.inr (Or.inl e)))
    · rcases hj with e | e | e | e | ⟨q, hq, e⟩
      · exact Or.inl e
      · exact Or.inr (Or.inl e)
      · exact Or.inr (Or.inr (Or.inl e))
      · exact Or.inr (Or.inr (Or.inr (Or.inl (hv j e))))
      · exact Or.inr (Or.inr (Or.inr (Or.inr ⟨q, List.mem_of_mem_drop hq, e⟩)))
end
end Go.Proofs.YtekoaheiapddiaaGreat.Dz.Wo
end
section
namespace Go.Proofs.YtekoaheiapddiaaGreat.Dz.Wo
open Go.RowKit Go.Maps Mp Go.Shelf
attribute [local go_sem] Oper.semAt_some

set_option maxHeartbeats 1000000 in
theorem backward_in (F : Fence) (n : Nat) (h6 : F.fn 89) (hro : F.round = none) (a : Option Addr) (len cap : Nat) (w : World) :
    CallsIn F n Tryz.prog 89 #[.slice a len cap] w fun e w' => e = .returned (.func (.func 134) #[] #[.pointer (some ⟨w.heap.size, 0, none⟩)]) ∧ w' = w.alloc (.cells #[.slice a len cap] 145 (0, 0)) := by
  refine callsIn_of_wp Tryz.func89 rfl h6 ?_ hro
  simp only [Tryz.ntmps89, List.size_toArray, List.length_cons, List.length_nil, Nat.reduceAdd, Nat.reduceSub, Array.replicate_succ, Array.replicate_zero, List.push_toArray, List.append_toArray, List.nil_append, List.cons_append]
  gi_wp2
  go_ret
  exact ⟨rfl, rfl⟩
theorem bkV_fn (c : Bk) (q : Nat) : bkV c q = .func (.func c.fn) #[] #[ptr (q + 4), ptr (q + 3), ptr q, ptr (q + 1)] := by
  cases c <;> rfl
theorem fn_enters (c : Bk) : ∀ args V, (callFunc c.fn args).run Tryz.prog V = .ok (.enter c.fn args) V := by
  cases c with
  | o k old => exact enters_of Tryz.func218 (by kernel_rfl) rfl
  | i m k old => exact enters_of Tryz.func173 (by kernel_rfl) rfl
section
variable {x : Sx} {b n : Nat} {fv : Value} {W : World}
theorem WAt.maps_lt (h : WAt x b fv n W) {j : Nat} (hj : x.mapsAt j) : j < W.heap.size := hj.elim (fun e => by rw [e]; exact h.out.lt) (fun e => (h.inn j e).lt)
theorem WAt.b_maps (h : WAt x b fv n W) : ¬ x.mapsAt b := fun e => e.elim (fun e => h.mo_ne e.symm) (fun e => (h.id_ne e).1 rfl)
theorem WAt.sv_maps (h : WAt x b fv n W) {g : Nat} (hg : x.sv.ownBlock = some g) : ¬ x.mapsAt g := fun e => e.elim (h.row_ne hg).2.1 (h.row_ne hg).2.2
set_option maxRecDepth 100000 in
set_option maxHeartbeats 8000000 in
theorem wback_gen (h : WAt x b fv n W) (hn : n + x.bs.length < 100000000000) {k mk : Nat} (hk : k ≤ x.bs.length) (hmk : mk = x.bs.length - k) {sa va : Option Addr} {sc vc g : Nat}
    (hlen : ∀ ty V, (Builtin.len_ #[145] ty #[x.sv]).run Tryz.prog V = .ok (.int .i64 (x.bs.length : Int)) V)
    (hs1 : ∀ V, (Instr.slice 145 x.sv (some (.int .i64 (mk : Int))) none none).run Tryz.prog V = .ok (.slice sa k sc) V)
    (hs2 : ∀ V, (Instr.slice 145 x.sv none (some (.int .i64 (mk : Int))) none).run Tryz.prog V = .ok (.slice va mk vc) V)
    (hclr : ∀ V, (∀ j, x.sv.ownBlock = some j → V.heap[j]? = W.heap[j]?) → ∃ V', (∀ ty, (Builtin.clear_ #[145] ty #[.slice sa k sc]).run Tryz.prog V = .ok (.tuple #[]) V') ∧ Chg (fun j => x.sv.ownBlock = some j) (fun j => x.sv.ownBlock = some j) V V' ∧ V'.ownsRow 0 1 1 (.slice va mk vc) mk ((List.zipWith bkV x.bs x.qs).reverse.take mk))
    (hva : ∀ j, (Value.slice va mk vc).ownBlock = some j → x.sv.ownBlock = some j)
    (hg : g < W.heap.size) (hgm : ¬ x.mapsAt g)
    (hseq : ∀ Bs V, V.cell? ⟨Bs, 0, none⟩ = some (.slice sa k sc) → Bs < V.heap.size → g < V.heap.size → (∀ j, x.sv.ownBlock = some j → V.heap[j]? = W.heap[j]?) → (∀ j, x.sv.ownBlock = some j → j < V.heap.size) →
      SeqStopsK Fence.wide 9 Tryz.prog 134 #[.pointer (some ⟨Bs, 0, none⟩)] (fun p : Nat => #[.int .i64 ((k : Int) - 1 - (p : Int)), bkV (x.cAt p) (x.qAt p)]) (KpB Bs g) (fun ys => ys = List.range k) (fun _ => True) k V) :
    Calls Tryz.prog 39 #[.pointer (some ⟨b, 0, none⟩), .int .i64 (mk : Int)] W fun e W' => e = .returned (.bool true) ∧ ∃ v, WAt (x.cut k v) b fv (n + k) W' ∧ Chg (x.ft b) ((x.cut k v).ft b) W W' := by
  have hmL : mk ≤ x.bs.length := by omega
  have i0 : ¬ ((mk : Int) < 0) := by omega
  have i1 : ¬ ((x.bs.length : Int) < (mk : Int)) := by omega
  obtain ⟨⟨b0, b1, b2⟩, bf⟩ := h.cells
  have HK := Lib.hid (And.intro hmk (And.intro hk (And.intro hn (And.intro hmL h))))
  have HC := Lib.hid hclr
  have HS := Lib.hid hseq
  have HV := Lib.hid hva
  have HG := Lib.hid (And.intro hg hgm)
  clear hmk hk hn hmL h hclr hseq hva hg hgm
  obtain ⟨sv, hsv⟩ : ∃ sv, sv = x.sv := ⟨_, rfl⟩
  obtain ⟨L, hL⟩ : ∃ L, L = x.bs.length := ⟨_, rfl⟩
  rw [← hsv] at hlen hs1 hs2 b1
  rw [← hL] at hlen i1
  have HE := Lib.hid (And.intro hsv hL)
  clear hsv hL
  refine (callsIn_wide (n := 10)).1 (callsIn_of_wp_marks Tryz.func39 rfl trivial ?_ rfl)
  simp only [Tryz.ntmps39, List.size_toArray, List.length_cons, List.length_nil, Nat.reduceAdd, Nat.reduceSub, Array.replicate_succ, Array.replicate_zero, List.push_toArray, List.append_toArray, List.nil_append, List.cons_append]
  gi_wp2_with (refine ⟨trivial, ?_⟩; gi_at_call 89; refine (backward_in Fence.wide _ trivial rfl _ _ _ _).mono ?_; rintro e w' ⟨rfl, rfl⟩)
  obtain ⟨hmk, hk, hn, hmL, h⟩ := HK.out
  have hBl := lt_of h.cell
  have hown : ∀ j, x.sv.ownBlock = some j → j < W.heap.size := fun j hj => h.row_lt hj
  have halloc : ∀ j, j < W.heap.size → (W.alloc (.cells #[.slice sa k sc] 145 (0, 0))).heap[j]? = W.heap[j]? := fun j hj => Below.heap_alloc _ _ _ hj
  have hW1 : WAt x b fv n (W.alloc (.cells #[.slice sa k sc] 145 (0, 0))) := h.kept fun j hj => halloc j (h.lt hj)
  have hBs : (W.alloc (.cells #[.slice sa k sc] 145 (0, 0))).heap[W.heap.size]? = some (.cells #[.slice sa k sc] 145 (0, 0)) := World.alloc_heap_new _ _
  have hsz : (W.alloc (.cells #[.slice sa k sc] 145 (0, 0))).heap.size = W.heap.size + 1 := World.size_alloc _ _
  have hC1 : Chg x.mapsAt x.mapsAt W (W.alloc (.cells #[.slice sa k sc] 145 (0, 0))) := ⟨rfl, rfl, rfl, by rw [hsz]; omega, fun j h1 _ => halloc j h1, fun _ h1 => Or.inl h1⟩
  obtain ⟨W1, hW⟩ : ∃ W1, W1 = W.alloc (.cells #[.slice sa k sc] 145 (0, 0)) := ⟨_, rfl⟩
  rw [← hW] at halloc hW1 hBs hsz hC1 ⊢
  have hmaps : ∀ j, x.mapsAt j → j < W1.heap.size := fun j hj => hW1.maps_lt hj
  have hfew := h.few
  refine wpIn_rangeFunc_ownG rfl (by omega) (gf := 134) (lb := #[.pointer (some ⟨W.heap.size, 0, none⟩)]) rfl trivial (enters_of Tryz.func134 (by kernel_rfl) rfl)
    (HS.out W.heap.size W1 (cell_of hBs 0) (by omega) (by have := HG.out.1; omega) (fun j hj => halloc j (hown j hj)) (fun j hj => by have := hown j hj; omega)) (fun h1 h2 => KpB.trans h1 h2)
    (fun V l o o' h1 h2 h3 h4 => ⟨World.putObj_heap_other (by omega), World.putObj_heap_other (by have := HG.out.1; omega)⟩) (Below.refl _ _) (fun _ => rfl)
    (fun pre V => Mid x (n + pre.length) (x.pre pre) W1 V)
    (fun _ _ _ => False)
    (fun pre V V' row hs hgr hr => hs.kept (Nat.le_trans hs.chg.size hgr.size) (fun j hj => hgr.block j (Nat.lt_of_lt_of_le hj hs.chg.size) (fun e => by have := (hr j e.symm).1; omega)) hgr.os hgr.tape hgr.output hmaps)
    (fun _ _ _ _ _ hs _ _ => hs)
    hW1.mid
    (fun p => { tmps := #[.pointer (some ⟨b, 0, none⟩), .int .i64 mk, undef, undef, .bool false, undef, bkV (x.cAt p) (x.qAt p), .int .i64 mk, .bool false, .bool false, .int .i64 mk, .pointer (some ⟨b, 0, none⟩), .pointer (some ⟨b, 0, none⟩), .pointer (some ⟨b, 0, none⟩), .pointer (some ⟨b, 1, none⟩), sv, .int .i64 L, .bool false, .bool false, .pointer (some ⟨b, 0, none⟩), .pointer (some ⟨b, 0, none⟩), .pointer (some ⟨b, 0, none⟩), .pointer (some ⟨b, 1, none⟩), sv, .int .i64 mk, .slice sa k sc, .func (.func 134) #[] #[.pointer (some ⟨W.heap.size, 0, none⟩)], .int .i64 ((k : Int) - 1 - (p : Int)), bkV (x.cAt p) (x.qAt p), undef, undef, undef, undef, undef, undef, undef, undef, undef, undef, undef, undef, undef, undef, undef, undef, undef, undef, undef, undef], defers := [] }) ?assign ?body ?done ?stop
  case assign =>
    intro l p V K hK
    clear hmk
    gi_wp2
    exact hK
  case body =>
    rintro l pre p V hM hp
    obtain ⟨c1, c2⟩ := x.at_ h.len (by omega) p
    have C := Lib.hid (hM.undo hW1 c1 c2 (by omega))
    have HM := Lib.hid hM
    have he := fn_enters (x.cAt p)
    rw [bkV_fn]
    obtain ⟨f9, hf9⟩ : ∃ f9, f9 = (x.cAt p).fn := ⟨_, rfl⟩
    rw [← hf9] at C he ⊢
    clear hmk hf9
    gi_wp2
    refine ⟨trivial, ?_⟩
    refine (CallsIn.inRound l (callsIn_wide.2 C.out)).mono ?_
    rintro e w' ⟨rfl, g1, g2⟩
    gi_wp2
    have hM := HM.out
    have hVs := hM.chg.size
    exact ⟨⟨g2.size, fun j o hB hj _ => (g2.block j (lt_of hj) (fun e => by have := hmaps j e; omega)).trans hj⟩, ⟨g2.block _ (by omega) (fun e => by have := h.maps_lt e; omega), g2.block _ (by have := HG.out.1; omega) HG.out.2⟩, by simpa [Sx.pre, List.foldl_append, Nat.add_assoc] using g1⟩
  case done =>
    rintro D ys V hD rfl hM hK
    rw [x.pre_range k hk, List.length_range] at hM
    have hkeep : ∀ j, j < W.heap.size → ¬ x.mapsAt j → V.heap[j]? = W.heap[j]? := fun j h1 h2 => (hM.chg.block j (by omega) h2).trans (halloc j h1)
    have hrow : ∀ j, x.sv.ownBlock = some j → V.heap[j]? = W.heap[j]? := fun j hj => hkeep j (hown j hj) (h.sv_maps hj)
    obtain ⟨V2, hc1, hc2, hc3⟩ := HC.out V hrow
    have hVs := hM.chg.size
    have hDs := lt_of hK
    have hb9 : V.heap[b]? = some (worldO x.mo x.sv fv) := (hkeep b hBl h.b_maps).trans h.cell
    have hbs : x.sv.ownBlock ≠ some b := fun e => (h.row_ne e).1 rfl
    have hb2 : V2.heap[b]? = some (worldO x.mo x.sv fv) := (hc2.block b (by omega) hbs).trans hb9
    have hD2 : V2.heap[D]? = some (.deferred (some [])) := (hc2.block D hDs (fun e => by have := hown D e; omega)).trans hK
    have HH := Lib.hid (And.intro hM (And.intro hc2 (And.intro hc3 (And.intro hb2 hkeep))))
    obtain ⟨c0, c1, c2⟩ : V.cell? ⟨b, 0, none⟩ = some (.map (some x.mo)) ∧ V.cell? ⟨b, 1, none⟩ = some x.sv ∧ V.cell? ⟨b, 2, none⟩ = some fv := ⟨cell_of hb9 0, cell_of hb9 1, cell_of hb9 2⟩
    obtain ⟨d0, d1, d2⟩ : V2.cell? ⟨b, 0, none⟩ = some (.map (some x.mo)) ∧ V2.cell? ⟨b, 1, none⟩ = some x.sv ∧ V2.cell? ⟨b, 2, none⟩ = some fv := ⟨cell_of hb2 0, cell_of hb2 1, cell_of hb2 2⟩
    have f1 : V2.frozen? ⟨b, 1, none⟩ = false := free_of hb2 1
    rw [← HE.out.1] at c1 d1
    have HF := Lib.hid (And.intro hmk (And.intro hk (And.intro hn (And.intro hmL (And.intro h (And.intro hD2 (And.intro hVs (And.intro hDs (And.intro hD (And.intro hbs hown))))))))))
    clear hmk hk hn hmL h hM hc2 hc3 hb2 hkeep hrow hb9 hbs hD2 hK hown hBl hfew hVs hDs hD
    gi_wp2
    obtain ⟨hmk, hk, hn, hmL, h, hD2, hVs, hDs, hD, hbs, hown⟩ := HF.out
    obtain ⟨hM, hc2, hc3, hb2, hkeep⟩ := HH.out
    have hBl := lt_of h.cell
    have g3 : Chg (fun j => j = b) (fun j => j = b) V2 (V2.setCell ⟨b, 1, none⟩ (.slice va mk vc)) := chg_set (F := fun j => j = b) (F' := fun j => j = b) (Chg.refl _ V2) (Or.inl rfl) 1 _
    have hcell := heap_setCell_same V2 b 1 _ _ (.slice va mk vc) hb2
    have hK3 := (g3.block D (by have := hc2.size; omega) (fun e => by omega)).trans hD2
    generalize V2.setCell ⟨b, 1, none⟩ (.slice va mk vc) = V3 at g3 hcell hK3 ⊢
    refine ⟨by simp, .inl ⟨_, _, rfl, run_takeDeferred hK3, ?_⟩⟩
    have hw : ∀ {F : Nat → Prop} {A B : World}, Chg F F A B → (∀ j, F j → j = b ∨ x.mapsAt j ∨ x.sv.ownBlock = some j) → Chg (fun j => j = b ∨ x.mapsAt j ∨ x.sv.ownBlock = some j) (fun j => j = b ∨ x.mapsAt j ∨ x.sv.ownBlock = some j) A B := fun h1 h2 => chg_wide h1 h2
    have T3 := (hw hC1 fun j hj => Or.inr (Or.inl hj)).trans ((hw hM.chg fun j hj => Or.inr (Or.inl hj)).trans ((hw hc2 fun j hj => Or.inr (Or.inr hj)).trans (hw g3 fun j hj => Or.inl hj)))
    have hoD : ∀ j, j < W.heap.size → (V3.putObj D (.deferred none)).heap[j]? = V3.heap[j]? := fun j hj => World.putObj_heap_other (by omega)
    have hV23 : ∀ j, j < W.heap.size → j ≠ b → (V3.putObj D (.deferred none)).heap[j]? = V2.heap[j]? := fun j hj hb => (hoD j hj).trans (g3.block j (by have := hc2.size; omega) hb)
    have hmp : ∀ j, x.mapsAt j → (V3.putObj D (.deferred none)).heap[j]? = V.heap[j]? := fun j hj => by
      have hl := h.maps_lt hj
      exact (hV23 j hl fun e => h.b_maps (by rw [← e]; exact hj)).trans (hc2.block j (by omega) fun e => h.sv_maps e hj)
    refine ⟨_, results_tmp rfl _ _ _, rfl, .slice va mk vc, h.cut hk (by omega) ⟨T3.os, T3.tape, T3.output, ?_, fun j h1 h2 => (hoD j h1).trans (T3.block j h1 h2), fun j hj => Or.inl hj⟩ ((hoD b hBl).trans hcell) (hM.out.keep (hmp _ (Or.inl rfl))) (fun m hm => (hM.inn m hm).keep (hmp m (Or.inr hm))) ?_ HV.out⟩
    · have := T3.size
      simp only [World.putObj_size]; omega
    · rw [← hmk]
      exact own_keep hc3 fun j hj => hV23 j (hown j (HV.out j hj)) fun e => hbs (by rw [← e]; exact HV.out j hj)
  case stop =>
    rintro D c pre V _ _ h _
    exact h.elim
end
end Go.Proofs.YtekoaheiapddiaaGreat.Dz.Wo
end
