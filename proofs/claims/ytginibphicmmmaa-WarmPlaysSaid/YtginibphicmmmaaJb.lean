/- A set in memory. -/
import Derived.Test.YtginibphicmmmaaJa
namespace Go.Proofs.Ytginibphicmmmaa
open Go.RowKit Go.Maps Mp

def ptr (q : Nat) : Value := .pointer (some ⟨q, 0, none⟩)
/-- What lies in the heap of a set: its maps, its rows, what its rows hold, and boxes that stay as they are. -/
structure Sx where
  mw : Nat
  mm : Nat
  mg : Nat
  lv : Value
  ts : List Value
  bv : Value
  vs : List Value
  fix : List (Nat × Obj)
def Sx.mv (x : Sx) (b k : Nat) : Prop := k = b ∨ k = x.mw ∨ k = x.mm ∨ k = x.mg ∨ x.lv.ownBlock = some k ∨ x.bv.ownBlock = some k
def Sx.ft (x : Sx) (b k : Nat) : Prop := x.mv b k ∨ ∃ o, (k, o) ∈ x.fix
def setC (x : Sx) (t : Int) : Array Value := #[.map (some x.mw), .map (some x.mm), .map (some x.mg), .int .i64 t, x.lv, x.bv]
abbrev setO (x : Sx) (t : Int) : Obj := .cells (setC x t) 64 (0, 0)
/-- A change's closure: one that takes a key out of a map. -/
def CloP (fx : List (Nat × Obj)) (m : Nat) (p : Pl) (v : Value) : Prop := ∃ q1 q2, v = .func (.func 54) #[] #[ptr q1, ptr q2] ∧ (q1, .cells #[.map (some m)] 60 (0, 0)) ∈ fx ∧ (q2, .cells (plC p) 75 (0, 0)) ∈ fx ∧ p.Ok
def CloS (fx : List (Nat × Obj)) (m : Nat) (a : Nm) (v : Value) : Prop := ∃ q1 q2, v = .func (.func 57) #[] #[ptr q1, ptr q2] ∧ (q1, .cells #[.map (some m)] 61 (0, 0)) ∈ fx ∧ (q2, .cells #[.string (str a)] 9 (0, 0)) ∈ fx ∧ a.length ≤ big
def Clo (x : Sx) (b : Nat) (rest : List Cg) : Cg → Value → Prop
  | .addr a, v => CloP x.fix x.mw ⟨a, true, Wq.zero⟩ v
  | .slot a k, v => CloP x.fix x.mw ⟨a, false, k⟩ v
  | .made a, v => CloS x.fix x.mm a v
  | .gone a, v => CloS x.fix x.mg a v
  | .refund _, v => ∃ q1 q2, v = .func (.func 44) #[] #[ptr q1, ptr q2] ∧ (q1, .cells #[.int .i64 (tot rest)] 2 (0, 0)) ∈ x.fix ∧ (q2, .cells #[ptr b] 24 (0, 0)) ∈ x.fix
  | .log _, v => v = .func (.func 46) #[ptr b] #[]
def Clos (x : Sx) (b : Nat) : List Cg → List Value → Prop
  | [], [] => True
  | c :: L, v :: vs => Clo x b L c v ∧ Clos x b L vs
  | _, _ => False
def TopAt (fx : List (Nat × Obj)) (t : Value) (ws : List Wq) : Prop :=
  (ws = [] ∧ t = .slice none 0 0) ∨ ∃ q cap cur, t = .slice (some ⟨q, 0, none⟩) ws.length cap ∧ (q, .cells cur 46 (0, 0)) ∈ fx ∧ ws.length ≤ cap ∧ cap ≤ maxLen ∧ cur.size = cap * 4 ∧ cur.toList.take (ws.length * 4) = (ws.map Wq.cells).flatten
def Tops (fx : List (Nat × Obj)) : List LogP → List Value → Prop
  | [], [] => True
  | l :: ls, t :: ts => TopAt fx t l.tops ∧ Tops fx ls ts
  | _, _ => False
def logE (l : LogP) (t : Value) : List Value := [.string (str l.addr), t, .string (str l.data)]
def logCells (ls : List LogP) (ts : List Value) : List Value := (List.zipWith logE ls ts).flatten
theorem CloP.more {fx fx' : List (Nat × Obj)} {m : Nat} {p : Pl} {v : Value} (h : CloP fx m p v) (hf : ∀ z ∈ fx, z ∈ fx') : CloP fx' m p v := by
  obtain ⟨q1, q2, h1, h2, h3, h4⟩ := h
  exact ⟨q1, q2, h1, hf _ h2, hf _ h3, h4⟩
theorem CloS.more {fx fx' : List (Nat × Obj)} {m : Nat} {p : Nm} {v : Value} (h : CloS fx m p v) (hf : ∀ z ∈ fx, z ∈ fx') : CloS fx' m p v := by
  obtain ⟨q1, q2, h1, h2, h3, h4⟩ := h
  exact ⟨q1, q2, h1, hf _ h2, hf _ h3, h4⟩
/-- The same maps, and the boxes at least. -/
structure Wider (x y : Sx) : Prop where
  mw : y.mw = x.mw
  mm : y.mm = x.mm
  mg : y.mg = x.mg
  fix : ∀ z ∈ x.fix, z ∈ y.fix
theorem Clo.more {x y : Sx} {b : Nat} {L : List Cg} {c : Cg} {v : Value} (h : Clo x b L c v) (hw : Wider x y) : Clo y b L c v := by
  cases c with
  | addr a => simp only [Clo] at h ⊢; rw [hw.mw]; exact h.more hw.fix
  | slot a k => simp only [Clo] at h ⊢; rw [hw.mw]; exact h.more hw.fix
  | made a => simp only [Clo] at h ⊢; rw [hw.mm]; exact h.more hw.fix
  | gone a => simp only [Clo] at h ⊢; rw [hw.mg]; exact h.more hw.fix
  | refund n =>
    obtain ⟨q1, q2, h1, h2, h3⟩ := h
    exact ⟨q1, q2, h1, hw.fix _ h2, hw.fix _ h3⟩
  | log l => exact h
theorem Clos.more {x y : Sx} {b : Nat} (hw : Wider x y) : ∀ {L : List Cg} {vs : List Value}, Clos x b L vs → Clos y b L vs
  | [], [], _ => trivial
  | _ :: _, _ :: _, h => ⟨h.1.more hw, Clos.more hw h.2⟩
  | [], _ :: _, h => h.elim
  | _ :: _, [], h => h.elim
theorem Clos.len {x : Sx} {b : Nat} : ∀ {L : List Cg} {vs : List Value}, Clos x b L vs → vs.length = L.length
  | [], [], _ => rfl
  | _ :: _, _ :: _, h => by simp [Clos.len h.2]
  | [], _ :: _, h => h.elim
  | _ :: _, [], h => h.elim
theorem TopAt.more {fx fx' : List (Nat × Obj)} {t : Value} {ws : List Wq} (h : TopAt fx t ws) (hf : ∀ z ∈ fx, z ∈ fx') : TopAt fx' t ws := by
  rcases h with h | ⟨q, cap, cur, h1, h2, h3⟩
  · exact Or.inl h
  · exact Or.inr ⟨q, cap, cur, h1, hf _ h2, h3⟩
theorem Tops.more {fx fx' : List (Nat × Obj)} (hf : ∀ z ∈ fx, z ∈ fx') : ∀ {ls : List LogP} {ts : List Value}, Tops fx ls ts → Tops fx' ls ts
  | [], [], _ => trivial
  | _ :: _, _ :: _, h => ⟨h.1.more hf, Tops.more hf h.2⟩
  | [], _ :: _, h => h.elim
  | _ :: _, [], h => h.elim
theorem Tops.len {fx : List (Nat × Obj)} : ∀ {ls : List LogP} {ts : List Value}, Tops fx ls ts → ts.length = ls.length
  | [], [], _ => rfl
  | _ :: _, _ :: _, h => by simp [Tops.len h.2]
  | [], _ :: _, h => h.elim
  | _ :: _, [], h => h.elim
theorem Tops.snoc {fx : List (Nat × Obj)} {l : LogP} {t : Value} (h0 : TopAt fx t l.tops) : ∀ {ls : List LogP} {ts : List Value}, Tops fx ls ts → Tops fx (ls ++ [l]) (ts ++ [t])
  | [], [], _ => ⟨h0, trivial⟩
  | _ :: _, _ :: _, h => ⟨h.1, Tops.snoc h0 h.2⟩
  | [], _ :: _, h => h.elim
  | _ :: _, [], h => h.elim
theorem Tops.take {fx : List (Nat × Obj)} : ∀ (k : Nat) {ls : List LogP} {ts : List Value}, Tops fx ls ts → Tops fx (ls.take k) (ts.take k)
  | 0, [], [], _ => trivial
  | 0, _ :: _, _ :: _, _ => trivial
  | _ + 1, [], [], _ => trivial
  | k + 1, _ :: _, _ :: _, h => ⟨h.1, Tops.take k h.2⟩
  | _, [], _ :: _, h => h.elim
  | _, _ :: _, [], h => h.elim
theorem Tops.get {fx : List (Nat × Obj)} : ∀ {ls : List LogP} {ts : List Value} {i : Nat} {l : LogP}, Tops fx ls ts → ls[i]? = some l → ∃ t, ts[i]? = some t ∧ TopAt fx t l.tops
  | [], _, _, _, _, h => by simp at h
  | _ :: _, t :: _, 0, _, h, e => by simp at e; exact ⟨t, rfl, e ▸ h.1⟩
  | _ :: ls, _ :: ts, i + 1, _, h, e => by
    obtain ⟨t, h1, h2⟩ := Tops.get (ls := ls) (ts := ts) (i := i) h.2 (by simpa using e)
    exact ⟨t, by simpa using h1, h2⟩
  | _ :: _, [], _, _, h, _ => h.elim
structure WAt (x : Sx) (b : Nat) (L : List Cg) (n : Nat) (W : World) : Prop where
  cell : W.heap[b]? = some (setO x (tot L))
  mw : MapFn kitP x.mw n (hasBy plOf L) W
  mm : MapFn kitS x.mm n (hasBy mdOf L) W
  mg : MapFn kitS x.mg n (hasBy gnOf L) W
  lrow : W.ownsRow 0 33 3 x.lv (logsOf L).length (logCells (logsOf L) x.ts)
  tops : Tops x.fix (logsOf L) x.ts
  brow : W.ownsRow 0 1 1 x.bv L.length x.vs.reverse
  clo : Clos x b L x.vs
  fix : ∀ p ∈ x.fix, W.heap[p.1]? = some p.2 ∧ ¬ x.mv b p.1
  wm : x.mw ≠ x.mm
  wg : x.mw ≠ x.mg
  mn : x.mm ≠ x.mg
  few : L.length ≤ n
  once : Once L
section
variable {x : Sx} {b n : Nat} {L : List Cg} {W V : World}
theorem WAt.lrow_lt (h : WAt x b L n W) {k : Nat} (hk : x.lv.ownBlock = some k) : k < W.heap.size := (World.ownsRow.lt h.lrow k hk).2
theorem WAt.brow_lt (h : WAt x b L n W) {k : Nat} (hk : x.bv.ownBlock = some k) : k < W.heap.size := (World.ownsRow.lt h.brow k hk).2
theorem WAt.mv_lt (h : WAt x b L n W) {k : Nat} (hk : x.mv b k) : k < W.heap.size := by
  rcases hk with rfl | rfl | rfl | rfl | hk | hk
  · exact lt_of h.cell
  · exact h.mw.lt
  · exact h.mm.lt
  · exact h.mg.lt
  · exact h.lrow_lt hk
  · exact h.brow_lt hk
theorem WAt.lt (h : WAt x b L n W) {k : Nat} (hk : x.ft b k) : k < W.heap.size := by
  rcases hk with hk | ⟨o, ho⟩
  · exact h.mv_lt hk
  · exact lt_of (h.fix _ ho).1
theorem WAt.kept (h : WAt x b L n W) (hk : ∀ k, x.ft b k → V.heap[k]? = W.heap[k]?) : WAt x b L n V :=
  ⟨(hk b (Or.inl (Or.inl rfl))).trans h.cell, h.mw.keep (hk _ (Or.inl (Or.inr (Or.inl rfl)))), h.mm.keep (hk _ (Or.inl (Or.inr (Or.inr (Or.inl rfl))))), h.mg.keep (hk _ (Or.inl (Or.inr (Or.inr (Or.inr (Or.inl rfl)))))),
    own_keep h.lrow fun k e => hk k (Or.inl (Or.inr (Or.inr (Or.inr (Or.inr (Or.inl e)))))), h.tops, own_keep h.brow fun k e => hk k (Or.inl (Or.inr (Or.inr (Or.inr (Or.inr (Or.inr e)))))), h.clo,
    fun p hp => ⟨(hk p.1 (Or.inr ⟨p.2, hp⟩)).trans (h.fix p hp).1, (h.fix p hp).2⟩, h.wm, h.wg, h.mn, h.few, h.once⟩
theorem WAt.ob (h : WAt x b L n W) : Ob (WAt x b L n) (x.ft b) W := ⟨h, fun _ hk => h.lt hk, fun _ hV => h.kept hV⟩
theorem WAt.mono {n' : Nat} (h : WAt x b L n W) (hn : n ≤ n') : WAt x b L n' W :=
  ⟨h.cell, h.mw.mono hn, h.mm.mono hn, h.mg.mono hn, h.lrow, h.tops, h.brow, h.clo, h.fix, h.wm, h.wg, h.mn, Nat.le_trans h.few hn, h.once⟩
theorem WAt.cells (h : WAt x b L n W) : (W.cell? ⟨b, 0, none⟩ = some (.map (some x.mw)) ∧ W.cell? ⟨b, 1, none⟩ = some (.map (some x.mm)) ∧ W.cell? ⟨b, 2, none⟩ = some (.map (some x.mg)) ∧ W.cell? ⟨b, 3, none⟩ = some (.int .i64 (tot L)) ∧ W.cell? ⟨b, 4, none⟩ = some x.lv ∧ W.cell? ⟨b, 5, none⟩ = some x.bv) ∧ ∀ j, W.frozen? ⟨b, j, none⟩ = false :=
  ⟨⟨cell_of h.cell 0, cell_of h.cell 1, cell_of h.cell 2, cell_of h.cell 3, cell_of h.cell 4, cell_of h.cell 5⟩, fun j => free_of h.cell j⟩
theorem MapFn.obj {K V : Type} {T : Kit Try.prog K V} {m n : Nat} {f : K → Option V} (h : MapFn T m n f W) : ∃ es c, W.heap[m]? = some (.map es c) := by
  obtain ⟨D, ⟨es, clock, hm, _⟩, _⟩ := h
  exact ⟨es, clock, hm⟩
/-- A block of cells is none of the maps. -/
theorem WAt.map_ne (h : WAt x b L n W) {k : Nat} {cs : Array Value} {t : TypeId} {f : Nat × Nat} (hk : W.heap[k]? = some (.cells cs t f)) : k ≠ x.mw ∧ k ≠ x.mm ∧ k ≠ x.mg := by
  obtain ⟨_, _, h1⟩ := MapFn.obj h.mw
  obtain ⟨_, _, h2⟩ := MapFn.obj h.mm
  obtain ⟨_, _, h3⟩ := MapFn.obj h.mg
  exact ⟨fun e => by (rw [e, h1] at hk; cases hk), fun e => by (rw [e, h2] at hk; cases hk), fun e => by (rw [e, h3] at hk; cases hk)⟩
theorem WAt.b_ne (h : WAt x b L n W) : b ≠ x.mw ∧ b ≠ x.mm ∧ b ≠ x.mg := h.map_ne h.cell
theorem WAt.lv_ne (h : WAt x b L n W) {k : Nat} (hk : x.lv.ownBlock = some k) : k ≠ b ∧ k ≠ x.mw ∧ k ≠ x.mm ∧ k ≠ x.mg ∧ x.bv.ownBlock ≠ some k := by
  obtain ⟨cs, hc⟩ := own_block h.lrow hk
  refine ⟨fun e => ?_, (h.map_ne hc).1, (h.map_ne hc).2.1, (h.map_ne hc).2.2, fun e => ?_⟩
  · rw [e, h.cell] at hc; injection hc with hc; injection hc with _ hc; exact absurd hc (by decide)
  · obtain ⟨cs2, hc2⟩ := own_block h.brow e
    rw [hc] at hc2; injection hc2 with hc2; injection hc2 with _ hc2; exact absurd hc2 (by decide)
theorem WAt.bv_ne (h : WAt x b L n W) {k : Nat} (hk : x.bv.ownBlock = some k) : k ≠ b ∧ k ≠ x.mw ∧ k ≠ x.mm ∧ k ≠ x.mg ∧ x.lv.ownBlock ≠ some k := by
  obtain ⟨cs, hc⟩ := own_block h.brow hk
  refine ⟨fun e => ?_, (h.map_ne hc).1, (h.map_ne hc).2.1, (h.map_ne hc).2.2, fun e => (h.lv_ne e).2.2.2.2 hk⟩
  rw [e, h.cell] at hc; injection hc with hc; injection hc with _ hc; exact absurd hc (by decide)
/-- One change more: what lay ahead, and what was turned. -/
theorem WAt.push (h : WAt x b L n W) {W0 : World} (c0 : Chg (x.ft b) (x.ft b) W0 W) {c : Cg} {lv' bv' : Value} {ts' : List Value} {v : Value} {new : List (Nat × Obj)}
    (hos : V.os = W.os) (htp : V.tape = W.tape) (hou : V.output = W.output) (hsz : W.heap.size ≤ V.heap.size)
    (hblk : ∀ k, k < W.heap.size → ¬ x.mv b k → V.heap[k]? = W.heap[k]?)
    (hcell : V.heap[b]? = some (setO ⟨x.mw, x.mm, x.mg, lv', ts', bv', v :: x.vs, new ++ x.fix⟩ (tot (c :: L))))
    (hmw : MapFn kitP x.mw (n + 1) (hasBy plOf (c :: L)) V) (hmm : MapFn kitS x.mm (n + 1) (hasBy mdOf (c :: L)) V) (hmg : MapFn kitS x.mg (n + 1) (hasBy gnOf (c :: L)) V)
    (hlrow : V.ownsRow 0 33 3 lv' (logsOf (c :: L)).length (logCells (logsOf (c :: L)) ts')) (htops : Tops (new ++ x.fix) (logsOf (c :: L)) ts')
    (hbrow : V.ownsRow 0 1 1 bv' (L.length + 1) (x.vs.reverse ++ [v]))
    (hclo : Clo ⟨x.mw, x.mm, x.mg, lv', ts', bv', v :: x.vs, new ++ x.fix⟩ b L c v)
    (hnew : ∀ p ∈ new, V.heap[p.1]? = some p.2 ∧ W0.heap.size ≤ p.1 ∧ ¬ x.mv b p.1 ∧ p.1 < W.heap.size)
    (hlv : ∀ k, lv'.ownBlock = some k → x.lv.ownBlock = some k ∨ W.heap.size ≤ k) (hbv : ∀ k, bv'.ownBlock = some k → x.bv.ownBlock = some k ∨ W.heap.size ≤ k) (honce : Once (c :: L)) :
    WAt ⟨x.mw, x.mm, x.mg, lv', ts', bv', v :: x.vs, new ++ x.fix⟩ b (c :: L) (n + 1) V ∧ Chg (x.ft b) (Sx.ft ⟨x.mw, x.mm, x.mg, lv', ts', bv', v :: x.vs, new ++ x.fix⟩ b) W0 V := by
  have hb := lt_of h.cell
  have hfl : ∀ p ∈ x.fix, p.1 < W.heap.size := fun p hp => lt_of (h.fix p hp).1
  refine ⟨⟨hcell, hmw, hmm, hmg, hlrow, htops, ?_, ⟨hclo, Clos.more (x := x) (y := ⟨x.mw, x.mm, x.mg, lv', ts', bv', v :: x.vs, new ++ x.fix⟩) ⟨rfl, rfl, rfl, fun z hz => List.mem_append_right _ hz⟩ h.clo⟩, fun p hp => ?_, h.wm, h.wg, h.mn, Nat.succ_le_succ h.few, honce⟩, ⟨hos.trans c0.os, htp.trans c0.tape, hou.trans c0.output, Nat.le_trans c0.size hsz, fun k hk hn => (hblk k (Nat.lt_of_lt_of_le hk c0.size) fun e => hn (Or.inl e)).trans (c0.block k hk hn), fun k hk => ?_⟩⟩
  · show V.ownsRow 0 _ 1 bv' (c :: L).length (v :: x.vs).reverse
    rw [List.reverse_cons]; exact hbrow
  · rcases List.mem_append.1 hp with hp | hp
    · obtain ⟨h1, h2, h3, h4⟩ := hnew p hp
      refine ⟨h1, fun hm => h3 ?_⟩
      rcases hm with e | e | e | e | e | e
      · exact Or.inl e
      · exact Or.inr (Or.inl e)
      · exact Or.inr (Or.inr (Or.inl e))
      · exact Or.inr (Or.inr (Or.inr (Or.inl e)))
      · rcases hlv _ e with e | e
        · exact Or.inr (Or.inr (Or.inr (Or.inr (Or.inl e))))
        · omega
      · rcases hbv _ e with e | e
        · exact Or.inr (Or.inr (Or.inr (Or.inr (Or.inr e))))
        · omega
    · have h1 := h.fix p hp
      have hl := hfl p hp
      refine ⟨(hblk _ hl h1.2).trans h1.1, fun hm => h1.2 ?_⟩
      rcases hm with e | e | e | e | e | e
      · exact Or.inl e
      · exact Or.inr (Or.inl e)
      · exact Or.inr (Or.inr (Or.inl e))
      · exact Or.inr (Or.inr (Or.inr (Or.inl e)))
      · rcases hlv _ e with e | e
        · exact Or.inr (Or.inr (Or.inr (Or.inr (Or.inl e))))
        · omega
      · rcases hbv _ e with e | e
        · exact Or.inr (Or.inr (Or.inr (Or.inr (Or.inr e))))
        · omega
  · rcases hk with (e | e | e | e | e | e) | ⟨o, ho⟩
    · exact Or.inl (Or.inl (Or.inl e))
    · exact Or.inl (Or.inl (Or.inr (Or.inl e)))
    · exact Or.inl (Or.inl (Or.inr (Or.inr (Or.inl e))))
    · exact Or.inl (Or.inl (Or.inr (Or.inr (Or.inr (Or.inl e)))))
    · exact (hlv _ e).imp (fun e => Or.inl (Or.inr (Or.inr (Or.inr (Or.inr (Or.inl e)))))) fun e => Nat.le_trans c0.size e
    · exact (hbv _ e).imp (fun e => Or.inl (Or.inr (Or.inr (Or.inr (Or.inr (Or.inr e)))))) fun e => Nat.le_trans c0.size e
    · rcases List.mem_append.1 ho with ho | ho
      · exact Or.inr (hnew _ ho).2.1
      · exact Or.inl (Or.inr ⟨o, ho⟩)
end
end Go.Proofs.Ytginibphicmmmaa
