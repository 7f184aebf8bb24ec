/- What a code is: plain data, and the kind of the maps that hold it; what calls leave. -/
import Derived.Test.YtfcmcccfclaefaaDoorChecked
import Derived.Test.YtfcmcccfclaefaaDoorBase
import Derived.Test.YtfcmcccfclaefaaDoorSt
import Derived.Test.YtfcmcccfclaefaaDoorMa
import Derived.Maps.AppendAt
import Derived.OwnWalk
import Derived.StillTailTactics
import Derived.DeepKeys4
import Derived.DataShut
import Derived.StringKeys
namespace Go.Proofs.YtfcmcccfclaefaaDoor
open Go.RowKit Go.Maps Go.WideMaps Mp

theorem str_list (l : List UInt8) : (str l).data.toList = l := by simp [str]
theorem str_of (s : ByteArray) : str s.data.toList = s := by cases s; simp [str]
abbrev Nm := List UInt8

/-- From w to w' a call has turned nothing but blocks of F, and new ones; F' is what it may turn then. -/
structure Chg (F F' : Nat → Prop) (w w' : World) : Prop where
  os : w'.os = w.os
  tape : w'.tape = w.tape
  output : w'.output = w.output
  size : w.heap.size ≤ w'.heap.size
  block : ∀ k, k < w.heap.size → ¬ F k → w'.heap[k]? = w.heap[k]?
  new : ∀ k, F' k → F k ∨ w.heap.size ≤ k
theorem Chg.refl (F : Nat → Prop) (w : World) : Chg F F w w := ⟨rfl, rfl, rfl, Nat.le_refl _, fun _ _ _ => rfl, fun _ h => Or.inl h⟩
theorem Chg.trans {F F' F'' : Nat → Prop} {a b c : World} (h : Chg F F' a b) (k : Chg F' F'' b c) : Chg F F'' a c :=
  ⟨k.os.trans h.os, k.tape.trans h.tape, k.output.trans h.output, Nat.le_trans h.size k.size,
    fun i hi hn => (k.block i (Nat.lt_of_lt_of_le hi h.size) (fun hf => (h.new i hf).elim hn (by omega))).trans (h.block i hi hn),
    fun i hi => (k.new i hi).elim (fun hf => h.new i hf) (fun h2 => Or.inr (Nat.le_trans h.size h2))⟩
theorem Chg.undrew {F F' : Nat → Prop} {w w' : World} (h : Chg F F' w.drew w') : Chg F F' w w' := ⟨h.os, h.tape, h.output, h.size, h.block, h.new⟩
theorem Chg.below {F : Nat → Prop} {w w' : World} (h : Chg (fun _ => False) F w w') : Below w.heap.size w w' :=
  ⟨h.os, h.tape, h.output, h.size, fun k hk => h.block k hk (fun h => h)⟩
theorem Chg.of_below {F : Nat → Prop} {w w' : World} (h : Below w.heap.size w w') : Chg F F w w' :=
  ⟨h.os, h.tape, h.output, h.size, fun k hk _ => h.block k hk, fun _ h => Or.inl h⟩
theorem Chg.mono {F G F' G' : Nat → Prop} {w w' : World} (h : Chg F F' w w') (h1 : ∀ k, F k → G k) (h2 : ∀ k, G' k → F' k ∨ G k) : Chg G G' w w' :=
  ⟨h.os, h.tape, h.output, h.size, fun k hk hn => h.block k hk (fun hf => hn (h1 k hf)), fun k hk => (h2 k hk).elim (fun hf => (h.new k hf).imp (h1 k) id) Or.inl⟩
theorem chg_set {F F' : Nat → Prop} {W W1 : World} (h : Chg F F' W W1) {q : Nat} (hq : F q ∨ W.heap.size ≤ q) (j : Nat) (u : Value) : Chg F F' W (W1.setCell ⟨q, j, none⟩ u) :=
  ⟨h.os, h.tape, h.output, by simpa [World.setCell] using h.size, fun k hk hn => (heap_setCell_other _ _ _ _ (by rcases hq with hq | hq; exact fun e => hn (by simp at e; rw [e]; exact hq); intro e; simp at e; omega)).trans (h.block k hk hn), h.new⟩

theorem own_keep {w w' : World} {B z : Nat} {e : TypeId} {v : Value} {n : Nat} {xs : List Value} (h : w.ownsRow B e z v n xs) (hb : ∀ k, v.ownBlock = some k → w'.heap[k]? = w.heap[k]?) : w'.ownsRow B e z v n xs := by
  refine ⟨h.1, ?_⟩
  rcases h.2 with h0 | ⟨g, cap, cur, rfl, hbg, hg, rest⟩
  · exact Or.inl h0
  · exact Or.inr ⟨g, cap, cur, rfl, hbg, (hb g rfl).trans hg, rest⟩
theorem own_any {w : World} {B z : Nat} {e : TypeId} {v : Value} {n : Nat} {xs : List Value} (h : w.ownsRow B e z v n xs) : ∃ a c, v = .slice a n c := by
  rcases h.2 with ⟨rfl, rfl⟩ | ⟨g, cap, cur, rfl, _⟩
  · exact ⟨_, _, rfl⟩
  · exact ⟨_, _, rfl⟩
theorem own_block {w : World} {B z : Nat} {e : TypeId} {v : Value} {n : Nat} {xs : List Value} (h : w.ownsRow B e z v n xs) {k : Nat} (hk : v.ownBlock = some k) : ∃ cs, w.heap[k]? = some (.cells cs e (0, 0)) := by
  rcases h.2 with ⟨rfl, _⟩ | ⟨g, cap, cur, rfl, _, hg, _⟩
  · cases hk
  · cases hk; exact ⟨_, hg⟩

/-- I holds in W, and in every world that has the blocks ft as W has them. -/
structure Ob (I : World → Prop) (ft : Nat → Prop) (W : World) : Prop where
  it : I W
  lt : ∀ k, ft k → k < W.heap.size
  keep : ∀ V, (∀ k, ft k → V.heap[k]? = W.heap[k]?) → I V
/-- Amid a call that began in W: what is owned; boxes of the call's own. -/
structure An (I : World → Prop) (ft : Nat → Prop) (W : World) (F0 : Nat → Prop) (L : List (Nat × Obj)) (V : World) : Prop where
  ob : Ob I ft V
  chg : Chg F0 ft W V
  box : ∀ x ∈ L, V.heap[x.1]? = some x.2 ∧ W.heap.size ≤ x.1 ∧ ¬ ft x.1
section
variable {I I' J : World → Prop} {ft ft' gt F0 : Nat → Prop} {W V V' : World} {L : List (Nat × Obj)}
theorem Ob.kept (h : Ob I ft W) (hk : ∀ k, ft k → V.heap[k]? = W.heap[k]?) : Ob I ft V := by
  refine ⟨h.keep V hk, fun k h1 => ?_, fun U hU => h.keep U fun k h1 => (hU k h1).trans (hk k h1)⟩
  have h2 := hk k h1
  rw [Array.getElem?_eq_getElem (h.lt k h1)] at h2
  exact (Array.getElem?_eq_some_iff.1 h2).1
theorem Ob.below (h : Ob I ft W) (hb : Below W.heap.size W V) : Ob I ft V := h.kept fun k hk => hb.block k (h.lt k hk)
theorem Ob.chg {F F' : Nat → Prop} (h : Ob I ft W) (hc : Chg F F' W V) (hd : ∀ k, ft k → ¬ F k) : Ob I ft V := h.kept fun k hk => hc.block k (h.lt k hk) (hd k hk)
theorem An.start (h : Ob I ft W) : An I ft W ft [] W := ⟨h, Chg.refl _ _, by simp⟩
theorem An.step (h : An I ft W F0 L V) (h1 : Ob I' ft' V') (h2 : Chg ft ft' V V') : An I' ft' W F0 L V' :=
  ⟨h1, h.chg.trans h2, fun x hx => ⟨(h2.block _ (lt_of (h.box x hx).1) (h.box x hx).2.2).trans (h.box x hx).1, (h.box x hx).2.1, fun h3 => by
    rcases h2.new _ h3 with h4 | h4
    · exact (h.box x hx).2.2 h4
    · have := lt_of (h.box x hx).1; omega⟩⟩
theorem An.call (h : An I ft W F0 L V) (hb : Below V.heap.size V V') : An I ft W F0 L V' := h.step (h.ob.below hb) (Chg.of_below hb)
theorem An.alloc (h : An I ft W F0 L V) (o : Obj) : An I ft W F0 ((V.heap.size, o) :: L) (V.alloc o) := by
  have h1 := h.call ((Below.refl _ _).alloc (Nat.le_refl _) o)
  refine ⟨h1.ob, h1.chg, fun x hx => ?_⟩
  rcases List.mem_cons.1 hx with rfl | hx
  · exact ⟨heap_alloc_new _ _, h.chg.size, fun hk => by have := h.ob.lt _ hk; simp at this⟩
  · exact h1.box x hx
theorem An.sub {L' : List (Nat × Obj)} (h : An I ft W F0 L V) (hs : ∀ x ∈ L', x ∈ L) : An I ft W F0 L' V := ⟨h.ob, h.chg, fun x hx => h.box x (hs x hx)⟩
theorem An.put {q : Nat} {o o' : Obj} (h : An I ft W F0 ((q, o) :: L) V) (hc : Chg (fun k => k = q) (fun k => k = q) V V') (ho : V'.heap[q]? = some o') (hL : ∀ x ∈ L, x.1 ≠ q) : An I ft W F0 ((q, o') :: L) V' := by
  obtain ⟨_, h2, h3⟩ := h.box (q, o) (by simp)
  have hk : ∀ k, k < V.heap.size → k ≠ q → V'.heap[k]? = V.heap[k]? := fun k h1 h2 => hc.block k h1 h2
  refine ⟨h.ob.kept fun k hk' => hk k (h.ob.lt k hk') fun e => h3 (by rw [← e]; exact hk'), ⟨hc.os.trans h.chg.os, hc.tape.trans h.chg.tape, hc.output.trans h.chg.output, Nat.le_trans h.chg.size hc.size, fun k h1 h4 => (hk k (Nat.lt_of_lt_of_le h1 h.chg.size) (by simp only at h2; omega)).trans (h.chg.block k h1 h4), h.chg.new⟩, fun x hx => ?_⟩
  rcases List.mem_cons.1 hx with rfl | hx
  · exact ⟨ho, h2, h3⟩
  · have h4 := h.box x (by simp [hx])
    exact ⟨(hk _ (lt_of h4.1) (hL x hx)).trans h4.1, h4.2⟩
theorem An.at (h : An I ft W F0 L V) {q : Nat} {o : Obj} (hm : (q, o) ∈ L) : V.heap[q]? = some o := (h.box (q, o) hm).1
end
theorem setBlock_other {W : World} {m : Nat} {o : Obj} {k : Nat} (hk : k ≠ m) : (ChangeMaps.setBlock W m o).heap[k]? = W.heap[k]? := by
  simp [ChangeMaps.setBlock, Array.getElem?_setIfInBounds_ne (Ne.symm hk)]
theorem setBlock_size {W : World} {m : Nat} {o : Obj} : (ChangeMaps.setBlock W m o).heap.size = W.heap.size := by simp [ChangeMaps.setBlock]
theorem setBlock_chg {W : World} {m : Nat} {o : Obj} {F' : Nat → Prop} (hF : ∀ k, F' k → k = m ∨ W.heap.size ≤ k) : Chg (fun j => j = m) F' W (ChangeMaps.setBlock W m o) :=
  ⟨rfl, rfl, rfl, by rw [setBlock_size]; exact Nat.le_refl _, fun k _ hk => setBlock_other hk, fun k hk => hF k hk⟩


/-! What a code is. -/
structure Inf where
  nm : Nm
  gas : Int
  inn : Int
  out : Int
deriving DecidableEq
def infC (i : Inf) : Array Value := #[.string (str i.nm), .int .u64 i.gas, .int .i64 i.inn, .int .i64 i.out]
def infZ : Array Value := #[.string ⟨#[]⟩, .int .u64 0, .int .i64 0, .int .i64 0]
theorem u8_wf {n : Nat} (h : n < 256) : (Lit.int .u8 (n : Int)).wf = true := by
  rw [Lit.wf_int_iff]
  have h1 : IntKind.u8.min = 0 := rfl
  have h2 : IntKind.u8.max = 255 := rfl
  rw [h1, h2]
  omega
noncomputable def kitB : Kit Tryd.prog Nat Inf where
  mt := 48
  kt := 5
  vt := 25
  ek k := .int .u8 (k : Nat)
  ev i := .agg (infC i)
  lit k := .int .u8 (k : Nat)
  Ok k := k < 256
  z := .agg infZ
  hu := Tryd.underlying48
  law := int_keyed Tryd.underlying5
  key {k} h := keyOf_int_mk Tryd.underlying5 (u8_wf h)
  inj {a b} h1 h2 h := by
    injection h with _ h
    omega
  zero := fun _ => by kernel_rfl
/-- A table, its newest row first. -/
def tab : List (Nat × Inf) → Nat → Option Inf
  | [], _ => none
  | p :: l, k => if k = p.1 then some p.2 else tab l k
theorem tab_put (l : List (Nat × Inf)) (k : Nat) (v : Inf) : upf (tab l) k (some v) = tab ((k, v) :: l) := rfl
theorem tab_none : ∀ {l : List (Nat × Inf)} {k : Nat}, (∀ p ∈ l, p.1 ≠ k) → tab l k = none
  | [], _, _ => rfl
  | p :: l, k, h => by
    show (if k = p.1 then some p.2 else tab l k) = none
    rw [if_neg (fun e => h p (by simp) e.symm), tab_none (fun q hq => h q (by simp [hq]))]
/-- Amid a call of its own map: below W's end nothing has turned; the map at m is the table l. -/
structure Mt (W : World) (m n : Nat) (f : Nat → Option Inf) (V : World) : Prop where
  below : Below W.heap.size W V
  new : W.heap.size ≤ m
  map : MapFn kitB m n f V
theorem setBlock_below {B m : Nat} {W V : World} (h : Below B W V) (hm : B ≤ m) (o : Obj) : Below B W (ChangeMaps.setBlock V m o) :=
  ⟨h.os, h.tape, h.output, by rw [setBlock_size]; exact h.size, fun k hk => (setBlock_other (by omega)).trans (h.block k hk)⟩
theorem Mt.put {W V : World} {m n : Nat} {f : Nat → Option Inf} (h : Mt W m n f V) (hn : n < 1000000) {k : Nat} (hk : k < 256) (v : Inf) :
    ∃ o, (Instr.mapUpdate 48 (.map (some m)) (.int .u8 (k : Nat)) (.agg (infC v))).run Tryd.prog V = .ok () (ChangeMaps.setBlock V m o) ∧ Mt W m (n + 1) (upf f k (some v)) (ChangeMaps.setBlock V m o) := by
  obtain ⟨o, h1, h2⟩ := h.map.put (k := k) (by unfold maxLen; omega) hk v
  exact ⟨o, h1, setBlock_below h.below h.new o, h.new, h2⟩
theorem wpList_insert_tab {W V : World} {m n : Nat} {l : List (Nat × Inf)} {ops : Array Oper} {rest : List Oper} {o : Oper} {a : Act} {Q : Exit → Act → World → Prop} (h : Mt W m n (tab l) V) (hg : o.guard = none) (mo ko vo : Operand) (hop : o.op = Op.insert 48 mo ko vo)
    (hm : a.eval mo = .map (some m)) {kz : Int} (hk : a.eval ko = .int .u8 kz) {s : ByteArray} {g i u : Int} (hv : a.eval vo = .agg #[.string s, .int .u64 g, .int .i64 i, .int .i64 u]) {nm : Nm} (hs : s = str nm) (hk0 : (decide (0 ≤ kz) && decide (kz < 256) && decide (n < 1000000)) = true)
    (hK : ∀ V', Mt W m (n + 1) (tab ((kz.toNat, ⟨nm, g, i, u⟩) :: l)) V' → wpList Tryd.prog ops Q rest (a.put o.dst undef) V') :
    wpList Tryd.prog ops Q (o :: rest) a V := by
  simp only [Bool.and_eq_true, decide_eq_true_eq] at hk0
  obtain ⟨k, rfl⟩ : ∃ k : Nat, kz = (k : Int) := ⟨kz.toNat, by omega⟩
  subst hs
  obtain ⟨ob, hrun, h2⟩ := h.put hk0.2 (k := k) (by omega) ⟨nm, g, i, u⟩
  have hrun2 : (Instr.mapUpdate 48 (.map (some m)) (.int .u8 (k : Nat)) (.agg #[.string (str nm), .int .u64 g, .int .i64 i, .int .i64 u])).run Tryd.prog V = .ok () (ChangeMaps.setBlock V m ob) := hrun
  refine wpList_plain hg fun K' hK' => ?_
  unfold Oper.wp
  simp [execOp, hop, hm, hk, hv, hrun2, Result.andThen]
  rw [Int.toNat_natCast] at hK
  exact hK' _ _ (hK _ h2)
end Go.Proofs.YtfcmcccfclaefaaDoor
