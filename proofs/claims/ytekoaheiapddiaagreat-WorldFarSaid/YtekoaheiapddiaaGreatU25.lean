/- Merged: Ff. -/
import Derived.Test.YtekoaheiapddiaaGreatU24
section
namespace Go.Proofs.YtekoaheiapddiaaGreat.Dz
open Go.RowKit

/-- Boxes that a call has made: an ask's, a reply's; and all else is the client's. -/
def Box (B0 : Nat) (x : AskP) (V : World) : Prop := V.heap[B0]? = some (.cells (askCells x) 117 (0, 0))
theorem Box.cells {B0 : Nat} {x : AskP} {V : World} (h : Box B0 x V) : (V.cell? ⟨B0, 0, none⟩ = some (.int .u64 x.id) ∧ V.cell? ⟨B0, 1, none⟩ = some (.string (str x.addr)) ∧ V.cell? ⟨B0, 2, none⟩ = some (.int .u64 (l3 x.slot : Nat)) ∧ V.cell? ⟨B0, 3, none⟩ = some (.int .u64 (l2 x.slot : Nat)) ∧ V.cell? ⟨B0, 4, none⟩ = some (.int .u64 (l1 x.slot : Nat)) ∧ V.cell? ⟨B0, 5, none⟩ = some (.int .u64 (l0 x.slot : Nat)) ∧ V.cell? ⟨B0, 6, none⟩ = some (.int .i64 x.kind)) ∧ ∀ j, V.frozen? ⟨B0, j, none⟩ = false :=
  ⟨⟨cell_of h 0, cell_of h 1, cell_of h 2, cell_of h 3, cell_of h 4, cell_of h 5, cell_of h 6⟩, fun j => free_of h j⟩
theorem Box.put {B0 : Nat} {x : AskP} {V : World} (h : Box B0 x V) (n : Nat) : Box B0 { x with id := n } (V.setCell ⟨B0, 0, none⟩ (.int .u64 (n : Nat))) := by
  have := heap_setCell_same V B0 0 _ _ (.int .u64 (n : Nat)) h
  simpa [Box, askCells] using this
def RBox (B1 : Nat) (r : ReplyP) (V : World) : Prop := V.heap[B1]? = some (.cells (replyCells r) 119 (0, 0))
section
variable {c : Cl} {name : Nm} {d b m : Nat} {sv av : Value} {W : World}
/-- Amid a call of a client: B0 and on are the call's own blocks. -/
structure Mid (c : Cl) (name : Nm) (d b m : Nat) (sv0 av0 sv av : Value) (W : World) (x : AskP) (V : World) : Prop where
  at' : CAt c name d b m sv av V
  chg : Chg (ftC b m sv0 av0) (ftC b m sv av) W V
  far : ∀ k, ftC b m sv av k → k ≠ W.heap.size ∧ k ≠ W.heap.size + 1
  box : Box W.heap.size x V
  res : RBox (W.heap.size + 1) ReplyP.zero V
  size : W.heap.size + 2 ≤ V.heap.size
theorem ft_old {sv0 av0 : Value} {V V' : World} (h : ∀ k, ftC b m sv0 av0 k → k ≠ W.heap.size ∧ k ≠ W.heap.size + 1) (hs : W.heap.size + 2 ≤ V.heap.size) (hc : Chg (ftC b m sv0 av0) (ftC b m sv av) V V') : ∀ k, ftC b m sv av k → k ≠ W.heap.size ∧ k ≠ W.heap.size + 1 := fun k hk => by
  rcases hc.new k hk with h1 | h1
  · exact h k h1
  · omega
theorem Mid.step {sv0 av0 sv' av' : Value} {x : AskP} {V V' : World} {c' : Cl} (h : Mid c name d b m sv0 av0 sv av W x V) (h1 : CAt c' name d b m sv' av' V') (h2 : Chg (ftC b m sv av) (ftC b m sv' av') V V') : Mid c' name d b m sv0 av0 sv' av' W x V' :=
  ⟨h1, h.chg.trans h2, ft_old h.far h.size h2, (h2.block _ (lt_of h.box) fun e => (h.far _ e).1 rfl).trans h.box, (h2.block _ (lt_of h.res) fun e => (h.far _ e).2 rfl).trans h.res, Nat.le_trans h.size h2.size⟩
theorem Mid.call {sv0 av0 : Value} {x : AskP} {V V' : World} (h : Mid c name d b m sv0 av0 sv av W x V) (hb : Below V.heap.size V V') : Mid c name d b m sv0 av0 sv av W x V' :=
  h.step (h.at'.below hb) (Chg.of_below hb)
theorem Mid.start (h : CAt c name d b m sv av W) (a : AskP) : Mid c name d b m sv av sv av W a ((W.alloc (.cells (askCells a) 117)).alloc (.cells (replyCells ReplyP.zero) 119)) := by
  have hb : Below W.heap.size W ((W.alloc (.cells (askCells a) 117)).alloc (.cells (replyCells ReplyP.zero) 119)) := ((Below.refl _ _).alloc (Nat.le_refl _) _).alloc (by simp) _
  refine ⟨h.below hb, Chg.of_below hb, fun k hk => ?_, ?_, ?_, by simp⟩
  · have := h.lt hk; omega
  · exact (Below.heap_alloc _ _ _ (by simp)).trans (heap_alloc_new _ _)
  · have := heap_alloc_new (W.alloc (.cells (askCells a) 117)) (.cells (replyCells ReplyP.zero) 119)
    rwa [alloc_size] at this
theorem Mid.putId {sv0 av0 : Value} {x : AskP} {V : World} (h : Mid c name d b m sv0 av0 sv av W x V) (n : Nat) : Mid c name d b m sv0 av0 sv av W { x with id := n } (V.setCell ⟨W.heap.size, 0, none⟩ (.int .u64 (n : Nat))) := by
  have hb : ∀ k, k ≠ W.heap.size → (V.setCell ⟨W.heap.size, 0, none⟩ (.int .u64 (n : Nat))).heap[k]? = V.heap[k]? := fun k hk => heap_setCell_other _ _ _ _ (by simpa using hk)
  exact ⟨h.at'.kept fun k hk => hb k (h.far k hk).1, chg_set h.chg (Or.inr (Nat.le_refl _)) 0 _, h.far, h.box.put n, (hb _ (by omega)).trans h.res, by simpa [World.setCell] using h.size⟩
theorem tries_step {a : AskP} {c : Cl} {j : Nat} {o : Option ReplyP} (ho : ReplyIs a.kind (c.script.headD []) o) :
    (∀ r, o = some r → r.id = c.asked.length + 1 → c.tries a (j + 1) = (some { r with id := 0 }, ⟨c.known, c.script.tail, c.asked ++ [({ a with id := c.asked.length + 1 } : AskP).enc]⟩)) ∧
    ((∀ r, o = some r → r.id ≠ c.asked.length + 1) → c.tries a (j + 1) = Cl.tries a j ⟨c.known, c.script.tail, c.asked ++ [({ a with id := c.asked.length + 1 } : AskP).enc]⟩) := by
  have hg := (getR_is a.kind (c.script.headD [])).one ho
  refine ⟨fun r hr hi => ?_, fun h => ?_⟩
  · subst hr
    simp only [Cl.tries, hg]
    rw [if_pos hi]
  · cases o with
    | none => simp only [Cl.tries, hg]
    | some r =>
      simp only [Cl.tries, hg]
      rw [if_neg (h r rfl)]
theorem zeroCells : replyCells ReplyP.zero = #[.int .u64 0, .int .u64 0, .int .u64 0, .int .u64 0, .int .u64 0, .int .u64 0, .string ⟨#[]⟩, .int .u64 0, .int .u64 0, .int .u64 0, .int .u64 0] := rfl
theorem replyO_eq (o : Option ReplyP) : replyO o = .tuple #[replyV (o.getD ReplyP.zero), .bool o.isSome] := by cases o <;> rfl
/-- One box more of the call's own. -/
def QB (W : World) (b m : Nat) (sv av : Value) (q : Nat) (r : ReplyP) (V : World) : Prop := RBox q r V ∧ W.heap.size + 1 < q ∧ ∀ k, ftC b m sv av k → k ≠ q
theorem QB.step {q : Nat} {r : ReplyP} {sv' av' : Value} {V V' : World} (h : QB W b m sv av q r V) (hc : Chg (ftC b m sv av) (ftC b m sv' av') V V') : QB W b m sv' av' q r V' :=
  ⟨(hc.block _ (lt_of h.1) fun e => h.2.2 _ e rfl).trans h.1, h.2.1, fun k hk => by
    rcases hc.new k hk with h1 | h1
    · exact h.2.2 k h1
    · have := lt_of h.1; omega⟩
theorem QB.call {q : Nat} {r : ReplyP} {V V' : World} (h : QB W b m sv av q r V) (hb : Below V.heap.size V V') : QB W b m sv av q r V' := h.step (Chg.of_below hb)
theorem QB.new {sv0 av0 : Value} {x : AskP} {V : World} (h : Mid c name d b m sv0 av0 sv av W x V) : QB W b m sv av V.heap.size ReplyP.zero (V.alloc (.cells (replyCells ReplyP.zero) 119)) :=
  ⟨heap_alloc_new _ _, by have := h.size; omega, fun k hk => Nat.ne_of_lt (h.at'.lt hk)⟩
theorem chg_set11 (V : World) (q : Nat) (u0 u1 u2 u3 u4 u5 u6 u7 u8 u9 u10 : Value) : Chg (fun k => k = q) (fun k => k = q) V (((((((((((V.setCell ⟨q, 0, none⟩ u0).setCell ⟨q, 1, none⟩ u1).setCell ⟨q, 2, none⟩ u2).setCell ⟨q, 3, none⟩ u3).setCell ⟨q, 4, none⟩ u4).setCell ⟨q, 5, none⟩ u5).setCell ⟨q, 6, none⟩ u6).setCell ⟨q, 7, none⟩ u7).setCell ⟨q, 8, none⟩ u8).setCell ⟨q, 9, none⟩ u9).setCell ⟨q, 10, none⟩ u10) :=
  have s : ∀ {W1 : World}, Chg (fun k => k = q) (fun k => k = q) V W1 → ∀ j u, Chg (fun k => k = q) (fun k => k = q) V (W1.setCell ⟨q, j, none⟩ u) := fun h j u => chg_set (F := fun k => k = q) (F' := fun k => k = q) h (Or.inl rfl) j u
  s (s (s (s (s (s (s (s (s (s (s (Chg.refl _ V) 0 _) 1 _) 2 _) 3 _) 4 _) 5 _) 6 _) 7 _) 8 _) 9 _) 10 _
theorem Mid.beside {sv0 av0 : Value} {x : AskP} {q : Nat} {V V' : World} (h : Mid c name d b m sv0 av0 sv av W x V) (hq : W.heap.size + 1 < q) (hf : ∀ k, ftC b m sv av k → k ≠ q) (hc : Chg (fun k => k = q) (fun k => k = q) V V') : Mid c name d b m sv0 av0 sv av W x V' :=
  ⟨h.at'.chg hc fun k hk e => hf k hk e, ⟨hc.os.trans h.chg.os, hc.tape.trans h.chg.tape, hc.output.trans h.chg.output, Nat.le_trans h.chg.size hc.size, fun k hk hn => (hc.block k (Nat.lt_of_lt_of_le hk h.chg.size) (by omega)).trans (h.chg.block k hk hn), h.chg.new⟩, h.far,
    (hc.block _ (lt_of h.box) (by omega)).trans h.box, (hc.block _ (lt_of h.res) (by omega)).trans h.res, Nat.le_trans h.size hc.size⟩
theorem QB.put {sv0 av0 : Value} {x : AskP} {q : Nat} {r : ReplyP} {V : World} (h : QB W b m sv av q r V) (M : Mid c name d b m sv0 av0 sv av W x V) (r' : ReplyP) {V' : World}
    (hV : V' = (((((((((((V.setCell ⟨q, 0, none⟩ (.int .u64 r'.id)).setCell ⟨q, 1, none⟩ (.int .u64 r'.nonce)).setCell ⟨q, 2, none⟩ (.int .u64 (l3 r'.bal : Nat))).setCell ⟨q, 3, none⟩ (.int .u64 (l2 r'.bal : Nat))).setCell ⟨q, 4, none⟩ (.int .u64 (l1 r'.bal : Nat))).setCell ⟨q, 5, none⟩ (.int .u64 (l0 r'.bal : Nat))).setCell ⟨q, 6, none⟩ (.string (str r'.code))).setCell ⟨q, 7, none⟩ (.int .u64 (l3 r'.value : Nat))).setCell ⟨q, 8, none⟩ (.int .u64 (l2 r'.value : Nat))).setCell ⟨q, 9, none⟩ (.int .u64 (l1 r'.value : Nat))).setCell ⟨q, 10, none⟩ (.int .u64 (l0 r'.value : Nat)))) :
    Mid c name d b m sv0 av0 sv av W x V' ∧ QB W b m sv av q r' V' := by
  subst hV
  exact ⟨M.beside h.2.1 h.2.2 (chg_set11 _ _ _ _ _ _ _ _ _ _ _ _ _), set11 h.1 _ _ _ _ _ _ _ _ _ _ _, h.2⟩
/-- A reply into the result's box: the call's end. -/
theorem Mid.answer {sv0 av0 : Value} {x : AskP} {V V' : World} (h : Mid c name d b m sv0 av0 sv av W x V) (r : ReplyP)
    (hV : V' = (((((((((((V.setCell ⟨W.heap.size + 1, 0, none⟩ (.int .u64 r.id)).setCell ⟨W.heap.size + 1, 1, none⟩ (.int .u64 r.nonce)).setCell ⟨W.heap.size + 1, 2, none⟩ (.int .u64 (l3 r.bal : Nat))).setCell ⟨W.heap.size + 1, 3, none⟩ (.int .u64 (l2 r.bal : Nat))).setCell ⟨W.heap.size + 1, 4, none⟩ (.int .u64 (l1 r.bal : Nat))).setCell ⟨W.heap.size + 1, 5, none⟩ (.int .u64 (l0 r.bal : Nat))).setCell ⟨W.heap.size + 1, 6, none⟩ (.string (str r.code))).setCell ⟨W.heap.size + 1, 7, none⟩ (.int .u64 (l3 r.value : Nat))).setCell ⟨W.heap.size + 1, 8, none⟩ (.int .u64 (l2 r.value : Nat))).setCell ⟨W.heap.size + 1, 9, none⟩ (.int .u64 (l1 r.value : Nat))).setCell ⟨W.heap.size + 1, 10, none⟩ (.int .u64 (l0 r.value : Nat)))) :
    CAt c name d b m sv av V' ∧ Chg (ftC b m sv0 av0) (ftC b m sv av) W V' ∧ V'.heap[W.heap.size + 1]? = some (.cells (replyCells r) 119 (0, 0)) := by
  have hc := chg_set11 V (W.heap.size + 1) (.int .u64 r.id) (.int .u64 r.nonce) (.int .u64 (l3 r.bal : Nat)) (.int .u64 (l2 r.bal : Nat)) (.int .u64 (l1 r.bal : Nat)) (.int .u64 (l0 r.bal : Nat)) (.string (str r.code)) (.int .u64 (l3 r.value : Nat)) (.int .u64 (l2 r.value : Nat)) (.int .u64 (l1 r.value : Nat)) (.int .u64 (l0 r.value : Nat))
  have hs := set11 h.res (.int .u64 r.id) (.int .u64 r.nonce) (.int .u64 (l3 r.bal : Nat)) (.int .u64 (l2 r.bal : Nat)) (.int .u64 (l1 r.bal : Nat)) (.int .u64 (l0 r.bal : Nat)) (.string (str r.code)) (.int .u64 (l3 r.value : Nat)) (.int .u64 (l2 r.value : Nat)) (.int .u64 (l1 r.value : Nat)) (.int .u64 (l0 r.value : Nat))
  rw [← hV] at hc hs
  exact ⟨h.at'.chg hc fun k hk e => (h.far k hk).2 e, ⟨hc.os.trans h.chg.os, hc.tape.trans h.chg.tape, hc.output.trans h.chg.output, Nat.le_trans h.chg.size hc.size, fun k hk hn => (hc.block k (Nat.lt_of_lt_of_le hk h.chg.size) (by omega)).trans (h.chg.block k hk hn), h.chg.new⟩, hs⟩
theorem QB.zeroId {q : Nat} {r : ReplyP} {V : World} (h : QB W b m sv av q r V) : QB W b m sv av q { r with id := 0 } (V.setCell ⟨q, 0, none⟩ (.int .u64 0)) := by
  have := heap_setCell_same V q 0 _ _ (.int .u64 0) h.1
  exact ⟨by simpa [RBox, replyCells] using this, h.2⟩
set_option maxRecDepth 100000 in
set_option maxHeartbeats 8000000 in
theorem reply_c (h : CAt c name d b m sv av W) {a : AskP} (ha : a.Key) (hn : c.asked.length ≤ 1000000) :
    Calls Tryz.prog 174 #[.pointer (some ⟨b, 0, none⟩), askV a] W fun e W' => e = .returned (.tuple #[replyV (((c.tries a 3).1).getD ReplyP.zero), .bool ((c.tries a 3).1).isSome]) ∧ ∃ sv' av', CAt (c.tries a 3).2 name d b m sv' av' W' ∧ Chg (ftC b m sv av) (ftC b m sv' av') W W' := by
  have M0 := Lib.hid (Mid.start h a)
  have HA := Lib.hid (And.intro ha hn)
  clear h ha hn
  unfold askV
  have hzr : replyCells ReplyP.zero = #[.int .u64 0, .int .u64 0, .int .u64 0, .int .u64 0, .int .u64 0, .int .u64 0, .string ⟨#[]⟩, .int .u64 0, .int .u64 0, .int .u64 0, .int .u64 0] := rfl
  rw [hzr] at M0
  unfold askCells at M0
  clear hzr
  go_enter Tryz.func174, Tryz.ntmps174
  go_wp2_with fail
  go_loopw [10] (fun i wr => ∃ (k : Nat) (c' : Cl) (sv' av' : Value) (i0 : Nat), i = .int .i64 k ∧ k ≤ 3 ∧ c'.tries a (3 - k) = c.tries a 3 ∧ c'.asked.length = c.asked.length + k ∧ Mid c' name d b m sv av sv' av' W { a with id := i0 } wr) (fun i _ => 3 - (intOf i).toNat)
  case atStart => exact ⟨0, c, sv, av, a.id, rfl, by omega, rfl, rfl, M0.out⟩
  case round =>
    clear M0
    obtain ⟨k, c', sv', av', i0, rfl, hk, ht, hlen, M⟩ := hrel
    by_cases hlt : k < 3
    · obtain ⟨j, hj⟩ : ∃ j, 3 - k = j + 1 := ⟨2 - k, by omega⟩
      obtain ⟨va, vc, rfl⟩ := M.at'.ask.form
      obtain ⟨⟨_, _, _, _, c4⟩, fb⟩ := M.at'.reads
      have f4 := fb 4
      obtain ⟨n, hn⟩ : ∃ n, n = c'.asked.length := ⟨_, rfl⟩
      obtain ⟨n1, hn1⟩ : ∃ n1, n1 = n + 1 := ⟨_, rfl⟩
      have hn9 : n ≤ 1000003 := by have := HA.out.2; omega
      rw [← hn] at c4
      have hw1 : IntKind.u64.wrap (n : Int) = (n : Int) := by rw [IntKind.wrap_u64]; omega
      have hw2 : IntKind.u64.wrap ((n : Int) + 1) = (n1 : Int) := by rw [IntKind.wrap_u64]; omega
      have M1 : Mid c' name d b m sv av sv' (.slice va c'.asked.length vc) W { a with id := n1 } (wr.setCell ⟨W.heap.size, 0, none⟩ (.int .u64 (n1 : Nat))) := M.putId n1
      obtain ⟨⟨x0, x1, x2, x3, x4, x5, x6⟩, fx⟩ := M.box.cells
      have fx0 := fx 0
      obtain ⟨⟨y0, y1, y2, y3, y4, y5, y6⟩, _⟩ := M1.box.cells
      have hyw : ({ a with id := n1 } : AskP).Wf := ⟨by show n1 < M64; unfold M64; omega, HA.out.1.1.slot, HA.out.1.1.kind⟩
      have hyo : ({ a with id := n1 } : AskP).Ok := HA.out.1.2.1
      have P1 := Lib.hid (fun V => putAsk_c hyw V)
      rw [putAskV_ok hyo] at P1
      have hlti : (k : Int) < 3 := by omega
      have HM := Lib.hid (And.intro M1 (And.intro ht (And.intro hlen (And.intro hj (And.intro hn (And.intro hn1 hn9))))))
      clear M M1 ht hlen hj hn hn1 hn9 hyw hyo fb fx hlt
      unfold askV at P1
      simp only at y0 y1 y2 y3 y4 y5 y6 P1
      go_wp2_with fail
      refine (P1.out _).mono ?_
      rintro e V1 ⟨rfl, hb1⟩
      clear x0 x1 x2 x3 x4 x5 x6 y0 y1 y2 y3 y4 y5 y6 c4 f4 fx0 hw1 hw2 P1
      have M2 := HM.out.1.call hb1
      have M3 := M2.call ((Below.refl _ _).alloc (Nat.le_refl _) (.cells #[.string (str ({ a with id := n1 } : AskP).enc)] 9))
      obtain ⟨⟨_, _, _, _, c4⟩, fb⟩ := M2.at'.reads
      have f4 := fb 4
      rw [← HM.out.2.2.2.2.1] at c4
      have H2 := Lib.hid (And.intro M2 M3)
      clear M2 M3 fb hb1
      go_wp2_with (at_builtin; refine wpList_append_one rfl _ _ 38 9 rfl Tryz.underlying38 _ 16 infoStr rfl (by omega) 0 (.slice va n vc) n (c'.asked.map encS) (by rfl) (by have := H2.out.2.at'.ask; unfold OwnS at this; rw [← HM.out.2.2.2.2.1] at this; exact this) V1.heap.size (.string (str ({ a with id := n1 } : AskP).enc)) rfl (by rfl) (heap_alloc_new _ _) (Nat.zero_le _) (by have := HM.out.2.2.2.2.2.2; omega) ?_; intro v' W' q1 q2 q3; have q1' : OwnS 0 (c'.asked ++ [({ a with id := n1 } : AskP).enc]) v' W' := (by unfold OwnS; rw [List.map_append, List.length_append, ← HM.out.2.2.2.2.1]; exact q1); have hch : Chg (fun k => (Value.slice va n vc).ownBlock = some k) (fun k => v'.ownBlock = some k) (V1.alloc (.cells #[.string (str ({ a with id := n1 } : AskP).enc)] 9)) W' := ⟨q2.os, q2.tape, q2.output, q2.size, fun k hk hn => q2.block k hk (fun e => hn e.symm), fun k hk => by rcases q3 with e | e; exact Or.inl (e ▸ hk); exact Or.inr (by rw [e] at hk; cases hk; exact Nat.le_refl _)⟩; have hbl := lt_of H2.out.2.at'.cell; have hsb : ∀ k, (Value.slice va n vc).ownBlock = some k → k ≠ b := (fun k hk => (H2.out.2.at'.ab (k := k) (by rw [← HM.out.2.2.2.2.1]; exact hk)).1); have e1 : W'.frozen? ⟨b, 4, none⟩ = false := (World.frozen?_of_block (a := ⟨b, 4, none⟩) (hch.block b hbl (fun e => hsb b e rfl))).trans (H2.out.2.at'.reads.2 4); have e2 : W'.cell? ⟨b, 4, none⟩ = some (.slice va n vc) := (World.cell?_of_block (a := ⟨b, 4, none⟩) (hch.block b hbl (fun e => hsb b e rfl))).trans (by rw [HM.out.2.2.2.2.1]; exact H2.out.2.at'.reads.1.2.2.2.2); have HN := Lib.hid (H2.out.2.at'.newAsked (hch.mono (fun k hk => by rw [← HM.out.2.2.2.2.1]; exact hk) (fun k hk => Or.inl hk)) q1'); obtain ⟨a', c9, hf⟩ := q1'.form; clear q1 q1' q2 q3 hch hbl hsb c4 f4; generalize (c'.asked ++ [({ a with id := n1 } : AskP).enc]).length = n9 at hf; subst hf)
      have M4 := H2.out.2.step HN.out.1 HN.out.2
      clear e1 e2 HN H2
      -- REGION 6
      generalize World.setCell _ _ _ = V4 at M4 ⊢
      have H0 : Box W.heap.size ({ a with id := n1 } : AskP) V4.drew := M4.box
      replace M4 := M4.call (Below.refl _ V4).drew
      have HS := Lib.hid (fun (V : World) (hV : Box W.heap.size ({ a with id := n1 } : AskP) V) => hV.cells.1.2.2.2.2.2.2)
      have HG := Lib.hid (fun (s : List UInt8) V => getReply_c a.kind s V)
      refine Drawn.start (fun V => Box W.heap.size ({ a with id := n1 } : AskP) V) (fun _ => false) (by kernel_rfl) ?_
      refine Drawn.take 0 (some 36) (v := ?_) rfl rfl (by kernel_rfl) (by kernel_rfl) (by kernel_rfl) (by kernel_rfl) (by kernel_rfl) rfl (fun _ _ _ h => h) (Or.inl ⟨rfl, ?_⟩) H0 ?_
      rotate_left
      · intro W hW; have hW := HS.out W hW; go_simp; try with_reducible rfl
      simp only [put_list, List.set]
      refine Drawn.take 1 (some 37) (v := ?_) rfl rfl (by kernel_rfl) (by kernel_rfl) (by kernel_rfl) (by kernel_rfl) (by kernel_rfl) rfl (fun _ _ _ h => h) (Or.inl ⟨rfl, ?_⟩) H0 ?_
      rotate_left
      · intro W hW; have hW := HS.out W hW; go_simp; try with_reducible rfl
      simp only [put_list, List.set]
      refine Drawn.take 2 (some 38) (v := ?_) rfl rfl (by kernel_rfl) (by kernel_rfl) (by kernel_rfl) (by kernel_rfl) (by kernel_rfl) rfl (fun _ _ _ h => h) (Or.inl ⟨rfl, ?_⟩) H0 ?_
      rotate_left
      · intro W hW; have hW := HS.out W hW; go_simp; try with_reducible rfl
      simp only [put_list, List.set]
      generalize World.drew _ = V5 at M4 H0 ⊢
      refine Drawn.among [3, 8] (by kernel_rfl) (by decide) ?_
      intro i hi
      simp only [List.mem_cons, List.not_mem_nil, or_false] at hi
      rcases hi with rfl | rfl
      · refine ⟨_, rfl, rfl, fun K hK => ?_⟩
        go_simp
        refine (next_c M4.at').mono ?_
        rintro e V6 ⟨rfl, sv2, k1, k2⟩
        replace M4 := M4.step k1 k2
        replace H0 := M4.box
        refine hK _ _ (fun _ _ => H0) ?_
        clear hK K k1 k2
        refine Drawn.among [4, 8] (by kernel_rfl) (by decide) ?_
        intro i hi
        simp only [List.mem_cons, List.not_mem_nil, or_false] at hi
        rcases hi with rfl | rfl
        · refine ⟨_, rfl, rfl, fun K hK => ?_⟩
          go_simp
          refine (HG.out _ _).mono ?_
          rintro e V7 ⟨o, ho, rfl, hb⟩
          replace M4 := M4.call hb
          replace H0 := M4.box
          rw [replyO_eq]
          refine hK _ _ (fun _ _ => H0) ?_
          clear hK K hb
          generalize hrr : o.getD ReplyP.zero = rr
          have HO := Lib.hid (And.intro ho hrr)
          clear ho hrr
          unfold replyV
          try simp only [put_list, List.set]
          refine Drawn.take 5 (some 35) (v := ?_) rfl rfl (by kernel_rfl) (by kernel_rfl) (by kernel_rfl) (by kernel_rfl) (by kernel_rfl) rfl (fun _ _ _ h => h) (Or.inl ⟨rfl, ?_⟩) H0 ?_
          rotate_left
          · intro W hW; have hW := HS.out W hW; go_simp; try with_reducible rfl
          simp only [put_list, List.set]
          refine Drawn.take 6 (some 41) (v := ?_) rfl rfl (by kernel_rfl) (by kernel_rfl) (by kernel_rfl) (by kernel_rfl) (by kernel_rfl) rfl (fun _ _ _ h => h) (Or.inl ⟨rfl, ?_⟩) H0 ?_
          rotate_left
          · intro W hW; have hW := HS.out W hW; go_simp; try with_reducible rfl
          simp only [put_list, List.set]
          refine Drawn.take 7 (some 42) (v := ?_) rfl rfl (by kernel_rfl) (by kernel_rfl) (by kernel_rfl) (by kernel_rfl) (by kernel_rfl) rfl (fun _ _ _ h => h) (Or.inl ⟨rfl, ?_⟩) H0 ?_
          rotate_left
          · intro W hW; have hW := HS.out W hW; go_simp; try with_reducible rfl
          simp only [put_list, List.set]
          refine Drawn.only 8 (by kernel_rfl) rfl rfl (fun K hK => ?_)
          go_simp
          refine hK _ _ (fun _ _ => (M4.call ((Below.refl _ _).alloc (Nat.le_refl _) (.cells (replyCells ReplyP.zero) 119))).box) ?_
          clear hK K
          have HQ := QB.new M4
          replace M4 := M4.call ((Below.refl _ _).alloc (Nat.le_refl _) (.cells (replyCells ReplyP.zero) 119))
          replace H0 := M4.box
          rw [zeroCells] at M4 H0 HQ
          obtain ⟨q, hq⟩ : ∃ q, q = V7.heap.size := ⟨_, rfl⟩
          rw [← hq] at HQ ⊢
          clear hq
          generalize World.alloc _ _ = V8 at M4 HQ H0 ⊢
          try simp only [put_list, List.set]
          obtain ⟨⟨g0, g1, g2, g3, g4, g5, g6, g7, g8, g9, g10⟩, e0, e1, e2, e3, e4, e5, e6, e7, e8, e9, e10⟩ := cells11 HQ.1
          refine Drawn.only 9 (by kernel_rfl) rfl rfl (fun K hK => ?_)
          go_simp
          have HP := HQ.put M4 rr rfl
          refine hK _ _ (fun _ _ => HP.1.box) ?_
          clear hK K g0 g1 g2 g3 g4 g5 g6 g7 g8 g9 g10 e0 e1 e2 e3 e4 e5 e6 e7 e8 e9 e10 HQ M4 H0
          generalize World.setCell _ _ _ = V9 at HP ⊢
          try simp only [put_list, put_none, List.set]
          refine Drawn.only 10 (by kernel_rfl) rfl rfl (fun K hK => ?_)
          go_simp
          refine hK _ _ (fun _ _ => HP.1.box) ?_
          clear hK K
          try simp only [put_list, put_none, List.set]
          refine Drawn.done (by kernel_rfl) ?_ _
          have HZ := Lib.hid HP
          clear HP
          cases o with
          | none =>
            clear HS HG
            simp only [Option.isSome_none]
            go_wp2_with fail
            obtain ⟨_, q1, q2, q3, q4, q5, q6⟩ := HM.out
            have hst := (tries_step (a := a) (c := c') (j := j) (o := none) (by simpa using HO.out.1)).2 (fun r h => by cases h)
            rw [← q3, q1, ← q4, ← q5] at hst
            exact ⟨⟨k + 1, _, _, _, n1, by go_num, by omega, by rw [show 3 - (k + 1) = j by omega]; exact hst.symm, by simp only [List.length_append, List.length_singleton]; omega, HZ.out.1⟩, by simp [intOf]; omega⟩
          | some r =>
            have hrr : r = rr := HO.out.2
            subst hrr
            simp only [Option.isSome_some]
            obtain ⟨⟨g0, g1, g2, g3, g4, g5, g6, g7, g8, g9, g10⟩, e0, e1, e2, e3, e4, e5, e6, e7, e8, e9, e10⟩ := cells11 HZ.out.2.1
            have b0 := HZ.out.1.box.cells.1.1
            by_cases hi : r.id = n1
            · have hii : (r.id : Int) = (n1 : Int) := by omega
              clear HS HG
              have M10 := HZ.out.1.beside HZ.out.2.2.1 HZ.out.2.2.2 (chg_set (F := fun k => k = q) (F' := fun k => k = q) (Chg.refl _ V9) (Or.inl rfl) 0 (.int .u64 0))
              have Q10 := HZ.out.2.zeroId
              obtain ⟨⟨h0, h1, h2, h3, h4, h5, h6, h7, h8, h9, h10⟩, _⟩ := cells11 Q10.1
              obtain ⟨⟨k0, k1, k2, k3, k4, k5, k6, k7, k8, k9, k10⟩, d0, d1, d2, d3, d4, d5, d6, d7, d8, d9, d10⟩ := cells11 M10.res
              have H10 := Lib.hid (M10.answer { r with id := 0 } rfl)
              clear M10 Q10
              go_wp2_with fail
              obtain ⟨_, q1, q2, q3, q4, q5, q6⟩ := HM.out
              have hst := (tries_step (a := a) (c := c') (j := j) (o := some r) (by simpa using HO.out.1)).1 r rfl (by omega)
              rw [← q3, q1, ← q4, ← q5] at hst
              rw [hst]
              exact bodyPost_ret (results_cell_slot Tryz.results174 _ _ _ _ _ _ _ _ rfl rfl H10.out.2.2 Tryz.underlying119 rfl (by kernel_rfl)) rfl ⟨rfl, _, _, H10.out.1, H10.out.2.1⟩
            · have hii : ¬ (r.id : Int) = (n1 : Int) := by omega
              clear HS HG
              go_wp2_with fail
              obtain ⟨_, q1, q2, q3, q4, q5, q6⟩ := HM.out
              have hst := (tries_step (a := a) (c := c') (j := j) (o := some r) (by simpa using HO.out.1)).2 (fun r' h => by cases h; show r.id ≠ c'.asked.length + 1; omega)
              rw [← q3, q1, ← q4, ← q5] at hst
              exact ⟨⟨k + 1, _, _, _, n1, by go_num, by omega, by rw [show 3 - (k + 1) = j by omega]; exact hst.symm, by simp only [List.length_append, List.length_singleton]; omega, HZ.out.1⟩, by simp [intOf]; omega⟩
        · refine ⟨_, rfl, rfl, fun K hK => ?_⟩
          go_simp
          refine hK _ _ (fun _ _ => (M4.call ((Below.refl _ _).alloc (Nat.le_refl _) (.cells (replyCells ReplyP.zero) 119))).box) ?_
          clear hK K
          have HQ := QB.new M4
          replace M4 := M4.call ((Below.refl _ _).alloc (Nat.le_refl _) (.cells (replyCells ReplyP.zero) 119))
          replace H0 := M4.box
          rw [zeroCells] at M4 H0 HQ
          obtain ⟨q, hq⟩ : ∃ q, q = V6.heap.size := ⟨_, rfl⟩
          rw [← hq] at HQ ⊢
          clear hq
          generalize World.alloc _ _ = V8 at M4 HQ H0 ⊢
          try simp only [put_list, List.set]
          refine Drawn.only 4 (by kernel_rfl) rfl rfl (fun K hK => ?_)
          go_simp
          refine (HG.out _ _).mono ?_
          rintro e V7 ⟨o, ho, rfl, hb⟩
          replace M4 := M4.call hb
          replace H0 := M4.box
          rw [replyO_eq]
          refine hK _ _ (fun _ _ => H0) ?_
          replace HQ := HQ.call hb
          clear hK K hb
          generalize hrr : o.getD ReplyP.zero = rr
          have HO := Lib.hid (And.intro ho hrr)
          clear ho hrr
          unfold replyV
          try simp only [put_list, List.set]
          refine Drawn.take 5 (some 35) (v := ?_) rfl rfl (by kernel_rfl) (by kernel_rfl) (by kernel_rfl) (by kernel_rfl) (by kernel_rfl) rfl (fun _ _ _ h => h) (Or.inl ⟨rfl, ?_⟩) H0 ?_
          rotate_left
          · intro W hW; have hW := HS.out W hW; go_simp; try with_reducible rfl
          simp only [put_list, List.set]
          refine Drawn.take 6 (some 41) (v := ?_) rfl rfl (by kernel_rfl) (by kernel_rfl) (by kernel_rfl) (by kernel_rfl) (by kernel_rfl) rfl (fun _ _ _ h => h) (Or.inl ⟨rfl, ?_⟩) H0 ?_
          rotate_left
          · intro W hW; have hW := HS.out W hW; go_simp; try with_reducible rfl
          simp only [put_list, List.set]
          refine Drawn.take 7 (some 42) (v := ?_) rfl rfl (by kernel_rfl) (by kernel_rfl) (by kernel_rfl) (by kernel_rfl) (by kernel_rfl) rfl (fun _ _ _ h => h) (Or.inl ⟨rfl, ?_⟩) H0 ?_
          rotate_left
          · intro W hW; have hW := HS.out W hW; go_simp; try with_reducible rfl
          simp only [put_list, List.set]
          obtain ⟨⟨g0, g1, g2, g3, g4, g5, g6, g7, g8, g9, g10⟩, e0, e1, e2, e3, e4, e5, e6, e7, e8, e9, e10⟩ := cells11 HQ.1
          refine Drawn.only 9 (by kernel_rfl) rfl rfl (fun K hK => ?_)
          go_simp
          have HP := HQ.put M4 rr rfl
          refine hK _ _ (fun _ _ => HP.1.box) ?_
          clear hK K g0 g1 g2 g3 g4 g5 g6 g7 g8 g9 g10 e0 e1 e2 e3 e4 e5 e6 e7 e8 e9 e10 HQ M4 H0
          generalize World.setCell _ _ _ = V9 at HP ⊢
          try simp only [put_list, put_none, List.set]
          refine Drawn.only 10 (by kernel_rfl) rfl rfl (fun K hK => ?_)
          go_simp
          refine hK _ _ (fun _ _ => HP.1.box) ?_
          clear hK K
          try simp only [put_list, put_none, List.set]
          refine Drawn.done (by kernel_rfl) ?_ _
          have HZ := Lib.hid HP
          clear HP
          cases o with
          | none =>
            clear HS HG
            simp only [Option.isSome_none]
            go_wp2_with fail
            obtain ⟨_, q1, q2, q3, q4, q5, q6⟩ := HM.out
            have hst := (tries_step (a := a) (c := c') (j := j) (o := none) (by simpa using HO.out.1)).2 (fun r h => by cases h)
            rw [← q3, q1, ← q4, ← q5] at hst
            exact ⟨⟨k + 1, _, _, _, n1, by go_num, by omega, by rw [show 3 - (k + 1) = j by omega]; exact hst.symm, by simp only [List.length_append, List.length_singleton]; omega, HZ.out.1⟩, by simp [intOf]; omega⟩
          | some r =>
            have hrr : r = rr := HO.out.2
            subst hrr
            simp only [Option.isSome_some]
            obtain ⟨⟨g0, g1, g2, g3, g4, g5, g6, g7, g8, g9, g10⟩, e0, e1, e2, e3, e4, e5, e6, e7, e8, e9, e10⟩ := cells11 HZ.out.2.1
            have b0 := HZ.out.1.box.cells.1.1
            by_cases hi : r.id = n1
            · have hii : (r.id : Int) = (n1 : Int) := by omega
              clear HS HG
              have M10 := HZ.out.1.beside HZ.out.2.2.1 HZ.out.2.2.2 (chg_set (F := fun k => k = q) (F' := fun k => k = q) (Chg.refl _ V9) (Or.inl rfl) 0 (.int .u64 0))
              have Q10 := HZ.out.2.zeroId
              obtain ⟨⟨h0, h1, h2, h3, h4, h5, h6, h7, h8, h9, h10⟩, _⟩ := cells11 Q10.1
              obtain ⟨⟨k0, k1, k2, k3, k4, k5, k6, k7, k8, k9, k10⟩, d0, d1, d2, d3, d4, d5, d6, d7, d8, d9, d10⟩ := cells11 M10.res
              have H10 := Lib.hid (M10.answer { r with id := 0 } rfl)
              clear M10 Q10
              go_wp2_with fail
              obtain ⟨_, q1, q2, q3, q4, q5, q6⟩ := HM.out
              have hst := (tries_step (a := a) (c := c') (j := j) (o := some r) (by simpa using HO.out.1)).1 r rfl (by omega)
              rw [← q3, q1, ← q4, ← q5] at hst
              rw [hst]
              exact bodyPost_ret (results_cell_slot Tryz.results174 _ _ _ _ _ _ _ _ rfl rfl H10.out.2.2 Tryz.underlying119 rfl (by kernel_rfl)) rfl ⟨rfl, _, _, H10.out.1, H10.out.2.1⟩
            · have hii : ¬ (r.id : Int) = (n1 : Int) := by omega
              clear HS HG
              go_wp2_with fail
              obtain ⟨_, q1, q2, q3, q4, q5, q6⟩ := HM.out
              have hst := (tries_step (a := a) (c := c') (j := j) (o := some r) (by simpa using HO.out.1)).2 (fun r' h => by cases h; show r.id ≠ c'.asked.length + 1; omega)
              rw [← q3, q1, ← q4, ← q5] at hst
              exact ⟨⟨k + 1, _, _, _, n1, by go_num, by omega, by rw [show 3 - (k + 1) = j by omega]; exact hst.symm, by simp only [List.length_append, List.length_singleton]; omega, HZ.out.1⟩, by simp [intOf]; omega⟩
      · refine ⟨_, rfl, rfl, fun K hK => ?_⟩
        go_simp
        refine hK _ _ (fun _ _ => (M4.call ((Below.refl _ _).alloc (Nat.le_refl _) (.cells (replyCells ReplyP.zero) 119))).box) ?_
        clear hK K
        have HQ := QB.new M4
        replace M4 := M4.call ((Below.refl _ _).alloc (Nat.le_refl _) (.cells (replyCells ReplyP.zero) 119))
        replace H0 := M4.box
        rw [zeroCells] at M4 H0 HQ
        obtain ⟨q, hq⟩ : ∃ q, q = V5.heap.size := ⟨_, rfl⟩
        rw [← hq] at HQ ⊢
        clear hq
        generalize World.alloc _ _ = V8 at M4 HQ H0 ⊢
        try simp only [put_list, List.set]
        refine Drawn.only 3 (by kernel_rfl) rfl rfl (fun K hK => ?_)
        go_simp
        refine (next_c M4.at').mono ?_
        rintro e V6 ⟨rfl, sv2, k1, k2⟩
        replace M4 := M4.step k1 k2
        replace H0 := M4.box
        refine hK _ _ (fun _ _ => H0) ?_
        replace HQ := HQ.step k2
        clear hK K k1 k2
        refine Drawn.only 4 (by kernel_rfl) rfl rfl (fun K hK => ?_)
        go_simp
        refine (HG.out _ _).mono ?_
        rintro e V7 ⟨o, ho, rfl, hb⟩
        replace M4 := M4.call hb
        replace H0 := M4.box
        rw [replyO_eq]
        refine hK _ _ (fun _ _ => H0) ?_
        replace HQ := HQ.call hb
        clear hK K hb
        generalize hrr : o.getD ReplyP.zero = rr
        have HO := Lib.hid (And.intro ho hrr)
        clear ho hrr
        unfold replyV
        try simp only [put_list, List.set]
        refine Drawn.take 5 (some 35) (v := ?_) rfl rfl (by kernel_rfl) (by kernel_rfl) (by kernel_rfl) (by kernel_rfl) (by kernel_rfl) rfl (fun _ _ _ h => h) (Or.inl ⟨rfl, ?_⟩) H0 ?_
        rotate_left
        · intro W hW; have hW := HS.out W hW; go_simp; try with_reducible rfl
        simp only [put_list, List.set]
        refine Drawn.take 6 (some 41) (v := ?_) rfl rfl (by kernel_rfl) (by kernel_rfl) (by kernel_rfl) (by kernel_rfl) (by kernel_rfl) rfl (fun _ _ _ h => h) (Or.inl ⟨rfl, ?_⟩) H0 ?_
        rotate_left
        · intro W hW; have hW := HS.out W hW; go_simp; try with_reducible rfl
        simp only [put_list, List.set]
        refine Drawn.take 7 (some 42) (v := ?_) rfl rfl (by kernel_rfl) (by kernel_rfl) (by kernel_rfl) (by kernel_rfl) (by kernel_rfl) rfl (fun _ _ _ h => h) (Or.inl ⟨rfl, ?_⟩) H0 ?_
        rotate_left
        · intro W hW; have hW := HS.out W hW; go_simp; try with_reducible rfl
        simp only [put_list, List.set]
        obtain ⟨⟨g0, g1, g2, g3, g4, g5, g6, g7, g8, g9, g10⟩, e0, e1, e2, e3, e4, e5, e6, e7, e8, e9, e10⟩ := cells11 HQ.1
        refine Drawn.only 9 (by kernel_rfl) rfl rfl (fun K hK => ?_)
        go_simp
        have HP := HQ.put M4 rr rfl
        refine hK _ _ (fun _ _ => HP.1.box) ?_
        clear hK K g0 g1 g2 g3 g4 g5 g6 g7 g8 g9 g10 e0 e1 e2 e3 e4 e5 e6 e7 e8 e9 e10 HQ M4 H0
        generalize World.setCell _ _ _ = V9 at HP ⊢
        try simp only [put_list, put_none, List.set]
        refine Drawn.only 10 (by kernel_rfl) rfl rfl (fun K hK => ?_)
        go_simp
        refine hK _ _ (fun _ _ => HP.1.box) ?_
        clear hK K
        try simp only [put_list, put_none, List.set]
        refine Drawn.done (by kernel_rfl) ?_ _
        have HZ := Lib.hid HP
        clear HP
        cases o with
        | none =>
          clear HS HG
          simp only [Option.isSome_none]
          go_wp2_with fail
          obtain ⟨_, q1, q2, q3, q4, q5, q6⟩ := HM.out
          have hst := (tries_step (a := a) (c := c') (j := j) (o := none) (by simpa using HO.out.1)).2 (fun r h => by cases h)
          rw [← q3, q1, ← q4, ← q5] at hst
          exact ⟨⟨k + 1, _, _, _, n1, by go_num, by omega, by rw [show 3 - (k + 1) = j by omega]; exact hst.symm, by simp only [List.length_append, List.length_singleton]; omega, HZ.out.1⟩, by simp [intOf]; omega⟩
        | some r =>
          have hrr : r = rr := HO.out.2
          subst hrr
          simp only [Option.isSome_some]
          obtain ⟨⟨g0, g1, g2, g3, g4, g5, g6, g7, g8, g9, g10⟩, e0, e1, e2, e3, e4, e5, e6, e7, e8, e9, e10⟩ := cells11 HZ.out.2.1
          have b0 := HZ.out.1.box.cells.1.1
          by_cases hi : r.id = n1
          · have hii : (r.id : Int) = (n1 : Int) := by omega
            clear HS HG
            have M10 := HZ.out.1.beside HZ.out.2.2.1 HZ.out.2.2.2 (chg_set (F := fun k => k = q) (F' := fun k => k = q) (Chg.refl _ V9) (Or.inl rfl) 0 (.int .u64 0))
            have Q10 := HZ.out.2.zeroId
            obtain ⟨⟨h0, h1, h2, h3, h4, h5, h6, h7, h8, h9, h10⟩, _⟩ := cells11 Q10.1
            obtain ⟨⟨k0, k1, k2, k3, k4, k5, k6, k7, k8, k9, k10⟩, d0, d1, d2, d3, d4, d5, d6, d7, d8, d9, d10⟩ := cells11 M10.res
            have H10 := Lib.hid (M10.answer { r with id := 0 } rfl)
            clear M10 Q10
            go_wp2_with fail
            obtain ⟨_, q1, q2, q3, q4, q5, q6⟩ := HM.out
            have hst := (tries_step (a := a) (c := c') (j := j) (o := some r) (by simpa using HO.out.1)).1 r rfl (by omega)
            rw [← q3, q1, ← q4, ← q5] at hst
            rw [hst]
            exact bodyPost_ret (results_cell_slot Tryz.results174 _ _ _ _ _ _ _ _ rfl rfl H10.out.2.2 Tryz.underlying119 rfl (by kernel_rfl)) rfl ⟨rfl, _, _, H10.out.1, H10.out.2.1⟩
          · have hii : ¬ (r.id : Int) = (n1 : Int) := by omega
            clear HS HG
            go_wp2_with fail
            obtain ⟨_, q1, q2, q3, q4, q5, q6⟩ := HM.out
            have hst := (tries_step (a := a) (c := c') (j := j) (o := some r) (by simpa using HO.out.1)).2 (fun r' h => by cases h; show r.id ≠ c'.asked.length + 1; omega)
            rw [← q3, q1, ← q4, ← q5] at hst
            exact ⟨⟨k + 1, _, _, _, n1, by go_num, by omega, by rw [show 3 - (k + 1) = j by omega]; exact hst.symm, by simp only [List.length_append, List.length_singleton]; omega, HZ.out.1⟩, by simp [intOf]; omega⟩
    · obtain rfl : k = 3 := by omega
      have HT := Lib.hid (show c.tries a 3 = (none, c') by rw [← ht]; rfl)
      obtain ⟨⟨k0, k1, k2, k3, k4, k5, k6, k7, k8, k9, k10⟩, d0, d1, d2, d3, d4, d5, d6, d7, d8, d9, d10⟩ := cells11 M.res
      have H10 := Lib.hid (M.answer ReplyP.zero rfl)
      clear M ht hlen hlt
      go_wp2_with fail
      rw [HT.out]
      exact bodyPost_ret (results_cell_slot Tryz.results174 _ _ _ _ _ _ _ _ rfl rfl H10.out.2.2 Tryz.underlying119 rfl (by kernel_rfl)) rfl ⟨rfl, _, _, H10.out.1, H10.out.2.1⟩
end
end Go.Proofs.YtekoaheiapddiaaGreat.Dz
end
