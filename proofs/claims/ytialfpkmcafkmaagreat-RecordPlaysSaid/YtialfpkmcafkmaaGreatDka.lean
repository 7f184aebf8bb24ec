/- Files of a disk: names, bytes, how many are synced; a map whose elements are pointers to them; what a call may turn. -/
import Derived.Test.YtialfpkmcafkmaaGreatChecked
import Derived.Test.YtialfpkmcafkmaaGreatBase
import Derived.Maps.AppendAt
import Derived.Maps.RangeWalk
import Derived.Maps.OwnSet
import Derived.Maps.Ext
import Derived.Maps.OwnOps
import Derived.Lib.AppendStr
import Derived.Lib.BitFns
import Derived.StillTailTactics
import Derived.OwnWalk
namespace Go.Proofs.YtialfpkmcafkmaaGreat
open Go.RowKit Go.Maps

def str (l : List UInt8) : ByteArray := ⟨l.toArray⟩
theorem str_size (l : List UInt8) : (str l).size = l.length := by simp [str, ByteArray.size]
theorem str_list (l : List UInt8) : (str l).data.toList = l := by simp [str]
theorem str_of (s : ByteArray) : str s.data.toList = s := by cases s; simp [str]
theorem strCells_str (l : List UInt8) : Lib.strCells (str l) = Lib.byteCells l := by rw [Lib.strCells_eq]; rfl

/-- From w to w' a call has turned nothing but blocks of F, and new ones; F' is what it may turn then. -/
structure Chg (F F' : Nat → Prop) (w w' : World) : Prop where
  os : w'.os = w.os
  tape : w'.tape = w.tape
  output : w'.output = w.output
  size : w.heap.size ≤ w'.heap.size
  block : ∀ k, k < w.heap.size → ¬ F k → w'.heap[k]? = w.heap[k]?
  new : ∀ k, F' k → F k ∨ w.heap.size ≤ k
theorem Chg.refl (F : Nat → Prop) (w : World) : Chg F F w w := ⟨rfl, rfl, rfl, Nat.le_refl _, fun _ _ _ => rfl, fun _ h => Or.inl h⟩
theorem Chg.trans {F F' F'' : Nat → Prop} {a b c : World} (h : Chg F F' a b) (k : Chg F' F'' b c) : Chg F F'' a c :=
  ⟨k.os.trans h.os, k.tape.trans h.tape, k.output.trans h.output, Nat.le_trans h.size k.size,
    fun i hi hn => (k.block i (Nat.lt_of_lt_of_le hi h.size) (fun hf => (h.new i hf).elim hn (by omega))).trans (h.block i hi hn),
    fun i hi => (k.new i hi).elim (fun hf => h.new i hf) (fun h2 => Or.inr (Nat.le_trans h.size h2))⟩
theorem Chg.undrew {F F' : Nat → Prop} {w w' : World} (h : Chg F F' w.drew w') : Chg F F' w w' := ⟨h.os, h.tape, h.output, h.size, h.block, h.new⟩
theorem Chg.below {F : Nat → Prop} {w w' : World} (h : Chg (fun _ => False) F w w') : Below w.heap.size w w' :=
  ⟨h.os, h.tape, h.output, h.size, fun k hk => h.block k hk (fun h => h)⟩
theorem Chg.of_below {F : Nat → Prop} {w w' : World} (h : Below w.heap.size w w') : Chg F F w w' :=
  ⟨h.os, h.tape, h.output, h.size, fun k hk _ => h.block k hk, fun _ h => Or.inl h⟩
/-- .. and may turn less than F' says. -/
theorem Chg.mono {F G F' G' : Nat → Prop} {w w' : World} (h : Chg F F' w w') (h1 : ∀ k, F k → G k) (h2 : ∀ k, G' k → F' k ∨ G k) : Chg G G' w w' :=
  ⟨h.os, h.tape, h.output, h.size, fun k hk hn => h.block k hk (fun hf => hn (h1 k hf)), fun k hk => (h2 k hk).elim (fun hf => (h.new k hf).imp (h1 k) id) Or.inl⟩

theorem own_keep {w w' : World} {B : Nat} {e : TypeId} {v : Value} {n : Nat} {xs : List Value} (h : w.ownsRow B e 1 v n xs) (hb : ∀ k, v.ownBlock = some k → w'.heap[k]? = w.heap[k]?) : w'.ownsRow B e 1 v n xs := by
  refine ⟨h.1, ?_⟩
  rcases h.2 with h0 | ⟨g, cap, cur, rfl, hbg, hg, rest⟩
  · exact Or.inl h0
  · exact Or.inr ⟨g, cap, cur, rfl, hbg, (hb g rfl).trans hg, rest⟩
theorem own_any {w : World} {B : Nat} {e : TypeId} {v : Value} {n : Nat} {xs : List Value} (h : w.ownsRow B e 1 v n xs) : ∃ a c, v = .slice a n c := by
  rcases h.2 with ⟨rfl, rfl⟩ | ⟨g, cap, cur, rfl, _⟩
  · exact ⟨_, _, rfl⟩
  · exact ⟨_, _, rfl⟩
theorem own_block {w : World} {B : Nat} {e : TypeId} {v : Value} {n : Nat} {xs : List Value} (h : w.ownsRow B e 1 v n xs) {k : Nat} (hk : v.ownBlock = some k) : ∃ cs, w.heap[k]? = some (.cells cs e (0, 0)) := by
  rcases h.2 with ⟨rfl, _⟩ | ⟨g, cap, cur, rfl, _, hg, _⟩
  · cases hk
  · cases hk; exact ⟨_, hg⟩

/-- A pointer as an element of a map: the number of its block. -/
def ptrElem (v : Value) : Option (DataW Unit × List MemPlace) :=
  match v with
  | .pointer none => some (.nil, [])
  | .pointer (some ⟨b, 0, none⟩) => some (.lit (.int .i64 b), [])
  | _ => none
theorem ptrElem_inv {v : Value} {z : DataW Unit × List MemPlace} (h : ptrElem v = some z) : (v = .pointer none ∧ z = (.nil, [])) ∨ ∃ b, v = .pointer (some ⟨b, 0, none⟩) ∧ z = (.lit (.int .i64 (b : Nat)), []) := by
  unfold ptrElem at h
  split at h
  · cases h; exact Or.inl ⟨rfl, rfl⟩
  · cases h; exact Or.inr ⟨_, rfl, rfl⟩
  · cases h

abbrev Nm := List UInt8
/-- A file: where it lies, its row, its bytes, how many are synced. -/
structure Fl where
  b : Nat
  v : Value
  bs : List UInt8
  syn : Nat
def encF : Option Fl → DataW Unit
  | none => .nil
  | some f => .lit (.int .i64 f.b)
def updF (fs : Nm → Option Fl) (s : Nm) (x : Option Fl) : Nm → Option Fl := fun t => if t = s then x else fs t
theorem updF_same (fs : Nm → Option Fl) (s : Nm) (x : Option Fl) : updF fs s x s = x := by simp [updF]
theorem updF_other (fs : Nm → Option Fl) {s t : Nm} (x : Option Fl) (h : t ≠ s) : updF fs s x t = fs t := by simp [updF, h]

structure FileAt (f : Fl) (W : World) : Prop where
  cell : W.heap[f.b]? = some (.cells #[f.v, .int .i64 (f.syn : Nat)] 82 (0, 0))
  row : W.ownsRow 0 5 1 f.v f.bs.length (Lib.byteCells f.bs)
/-- A disk as the proof sees it. -/
structure Dk where
  d : Nat
  m : Nat
  n : Nat
  fs : Nm → Option Fl
  room : Int
  used : Int
  after : Int
  torn : Int
  dead : Bool
def Dk.cells (x : Dk) : Array Value := #[.int .i64 x.room, .map (some x.m), .int .i64 x.used, .int .i64 x.after, .int .i64 x.torn, .bool x.dead]
def Dk.ft (x : Dk) (k : Nat) : Prop := k = x.d ∨ k = x.m ∨ ∃ s f, x.fs s = some f ∧ (k = f.b ∨ f.v.ownBlock = some k)
structure DiskAt (x : Dk) (W : World) : Prop where
  cell : W.heap[x.d]? = some (.cells x.cells 68 (0, 0))
  own : ∃ D, W.ownsMap Tryz.prog 9 ptrElem x.m x.n D ∧ (∀ s, D.atKey (.string s) .nil = encF (x.fs s)) ∧ ∀ s, Maps.has D (.string s) = (x.fs s).isSome
  file : ∀ s f, x.fs s = some f → FileAt f W
  apart : ∀ s t f g, x.fs s = some f → x.fs t = some g → s ≠ t → f.b ≠ g.b ∧ ∀ k, f.v.ownBlock = some k → g.v.ownBlock ≠ some k

theorem DiskAt.lt {x : Dk} {W : World} (h : DiskAt x W) {k : Nat} (hk : x.ft k) : k < W.heap.size := by
  rcases hk with rfl | rfl | ⟨s, f, hs, rfl | hk⟩
  · exact lt_of h.cell
  · obtain ⟨D, ho, _⟩ := h.own; exact ho.lt
  · exact lt_of (h.file s f hs).cell
  · obtain ⟨cs, hg⟩ := own_block (h.file s f hs).row hk; exact lt_of hg
theorem ownsMap_keep {W W' : World} {P : Program} {k : TypeId} {R : Value → Option (DataW Unit × List MemPlace)} {b n : Nat} {D : DataW Unit} (h : W.ownsMap P k R b n D) (hb : W'.heap[b]? = W.heap[b]?) : W'.ownsMap P k R b n D := by
  obtain ⟨es, c, h1, h2⟩ := h; exact ⟨es, c, hb.trans h1, h2⟩
theorem FileAt.kept {f : Fl} {W W' : World} (h : FileAt f W) (h1 : W'.heap[f.b]? = W.heap[f.b]?) (h2 : ∀ k, f.v.ownBlock = some k → W'.heap[k]? = W.heap[k]?) : FileAt f W' :=
  ⟨h1.trans h.cell, own_keep h.row h2⟩
theorem DiskAt.kept {x : Dk} {W W' : World} (h : DiskAt x W) (hk : ∀ k, x.ft k → W'.heap[k]? = W.heap[k]?) : DiskAt x W' := by
  refine ⟨(hk _ (Or.inl rfl)).trans h.cell, ?_, fun s f hs => (h.file s f hs).kept (hk _ (Or.inr (Or.inr ⟨s, f, hs, Or.inl rfl⟩))) (fun k hb => hk _ (Or.inr (Or.inr ⟨s, f, hs, Or.inr hb⟩))), h.apart⟩
  obtain ⟨D, ho, h2⟩ := h.own
  exact ⟨D, ownsMap_keep ho (hk _ (Or.inr (Or.inl rfl))), h2⟩
theorem DiskAt.below {x : Dk} {W W' : World} (h : DiskAt x W) (hb : Below W.heap.size W W') : DiskAt x W' := h.kept fun k hk => hb.block k (h.lt hk)
theorem DiskAt.alloc {x : Dk} {W : World} (h : DiskAt x W) (o : Obj) : DiskAt x (W.alloc o) := h.below ((Below.refl _ _).alloc (Nat.le_refl _) _)
theorem DiskAt.drew {x : Dk} {W : World} (h : DiskAt x W) : DiskAt x W.drew := h.kept fun _ _ => rfl
/-- Another disk's call leaves it as it was. -/
theorem DiskAt.chg {x : Dk} {W W' : World} {F F' : Nat → Prop} (h : DiskAt x W) (hc : Chg F F' W W') (hd : ∀ k, x.ft k → ¬ F k) : DiskAt x W' := h.kept fun k hk => hc.block k (h.lt hk) (hd k hk)

section
variable {x : Dk} {W : World}
/-- What the walk reads of a disk. -/
theorem DiskAt.reads (h : DiskAt x W) : (W.cell? ⟨x.d, 0, none⟩ = some (.int .i64 x.room) ∧ W.cell? ⟨x.d, 1, none⟩ = some (.map (some x.m)) ∧ W.cell? ⟨x.d, 2, none⟩ = some (.int .i64 x.used) ∧ W.cell? ⟨x.d, 3, none⟩ = some (.int .i64 x.after) ∧
    W.cell? ⟨x.d, 4, none⟩ = some (.int .i64 x.torn) ∧ W.cell? ⟨x.d, 5, none⟩ = some (.bool x.dead)) ∧ ∀ j, W.frozen? ⟨x.d, j, none⟩ = false := by
  refine ⟨⟨?_, ?_, ?_, ?_, ?_, ?_⟩, fun j => free_of h.cell j⟩ <;> (rw [cell_of h.cell]; rfl)
/-- A number of the disk's own that is set. -/
theorem DiskAt.set (h : DiskAt x W) (j : Nat) (u : Value) (y : Dk) (hd : y.d = x.d) (hm : y.m = x.m) (hn : y.n = x.n) (hf : y.fs = x.fs) (hc : x.cells.setIfInBounds j u = y.cells) :
    DiskAt y (W.setCell ⟨x.d, j, none⟩ u) ∧ Chg x.ft y.ft W (W.setCell ⟨x.d, j, none⟩ u) := by
  have hk : ∀ k, k ≠ x.d → (W.setCell ⟨x.d, j, none⟩ u).heap[k]? = W.heap[k]? := fun k hk => heap_setCell_other _ _ _ _ (by simpa using hk)
  have hmd : x.m ≠ x.d := by
    obtain ⟨D, ⟨es, c, hb, _⟩, _⟩ := h.own
    intro e; rw [e, h.cell] at hb; cases hb
  have hfd : ∀ s f, x.fs s = some f → f.b ≠ x.d := fun s f hs e => by
    have hb := (h.file s f hs).cell; rw [e, h.cell] at hb; simp [Dk.cells] at hb
  have hrd : ∀ s f k, x.fs s = some f → f.v.ownBlock = some k → k ≠ x.d := fun s f k hs hk e => by
    obtain ⟨cs, hg⟩ := own_block (h.file s f hs).row hk; rw [e, h.cell] at hg; injection hg with hg; injection hg with _ hg; exact absurd hg (by decide)
  refine ⟨⟨?_, ?_, ?_, ?_⟩, ⟨rfl, rfl, rfl, by simp [World.setCell], fun k _ hn => hk k (fun e => hn (Or.inl e)), fun k hk => Or.inl ?_⟩⟩
  · rw [hd, ← hc]; exact heap_setCell_same _ _ _ _ _ _ h.cell
  · obtain ⟨D, ho, h2⟩ := h.own
    rw [hm, hn, hf]
    exact ⟨D, ownsMap_keep ho (hk _ hmd), h2⟩
  · intro s f hs; rw [hf] at hs
    exact (h.file s f hs).kept (hk _ (hfd s f hs)) (fun k hb => hk _ (hrd s f k hs hb))
  · rw [hf]; exact h.apart
  · unfold Dk.ft at hk ⊢; rw [hd, hm, hf] at hk; exact hk
end
end Go.Proofs.YtialfpkmcafkmaaGreat
