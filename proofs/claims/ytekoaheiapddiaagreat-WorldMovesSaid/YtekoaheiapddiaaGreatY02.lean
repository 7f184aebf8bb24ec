/- Merged: Dka, Dkb, Dkc, Dkd, Dke, Dkf, Dkg, Dkh, Dki. -/
import Derived.Test.YtekoaheiapddiaaGreatChecked
import Derived.Test.YtekoaheiapddiaaGreatY01
import Derived.Maps.AppendAt
import Derived.Maps.RangeWalk
import Derived.Maps.OwnSet
import Derived.Maps.Ext
import Derived.Maps.OwnOps
import Derived.Lib.AppendStr
import Derived.Lib.BitFns
import Derived.StillTailTactics
import Derived.OwnWalk
section
namespace Go.Proofs.YtekoaheiapddiaaGreat.Dz
open Go.RowKit Go.Maps

theorem str_list (l : List UInt8) : (str l).data.toList = l := by simp [str]
/-- From w to w' a call has turned nothing but blocks of F, and new ones; F' is what it may turn then. -/
structure Chg (F F' : Nat → Prop) (w w' : World) : Prop where
  os : w'.os = w.os
  tape : w'.tape = w.tape
  output : w'.output = w.output
  size : w.heap.size ≤ w'.heap.size
  block : ∀ k, k < w.heap.size → ¬ F k → w'.heap[k]? = w.heap[k]?
  new : ∀ k, F' k → F k ∨ w.heap.size ≤ k
theorem Chg.refl (F : Nat → Prop) (w : World) : Chg F F w w := ⟨rfl, rfl, rfl, Nat.le_refl _, fun _ _ _ => rfl, fun _ h => Or.inl h⟩
theorem Chg.trans {F F' F'' : Nat → Prop} {a b c : World} (h : Chg F F' a b) (k : Chg F' F'' b c) : Chg F F'' a c :=
  ⟨k.os.trans h.os, k.tape.trans h.tape, k.output.trans h.output, Nat.le_trans h.size k.size,
    fun i hi hn => (k.block i (Nat.lt_of_lt_of_le hi h.size) (fun hf => (h.new i hf).elim hn (by omega))).trans (h.block i hi hn),
    fun i hi => (k.new i hi).elim (fun hf => h.new i hf) (fun h2 => Or.inr (Nat.le_trans h.size h2))⟩
theorem Chg.of_below {F : Nat → Prop} {w w' : World} (h : Below w.heap.size w w') : Chg F F w w' :=
  ⟨h.os, h.tape, h.output, h.size, fun k hk _ => h.block k hk, fun _ h => Or.inl h⟩
theorem own_keep {w w' : World} {B : Nat} {e : TypeId} {v : Value} {n : Nat} {xs : List Value} (h : w.ownsRow B e 1 v n xs) (hb : ∀ k, v.ownBlock = some k → w'.heap[k]? = w.heap[k]?) : w'.ownsRow B e 1 v n xs := by
  refine ⟨h.1, ?_⟩
  rcases h.2 with h0 | ⟨g, cap, cur, rfl, hbg, hg, rest⟩
  · exact Or.inl h0
  · exact Or.inr ⟨g, cap, cur, rfl, hbg, (hb g rfl).trans hg, rest⟩
theorem own_any {w : World} {B : Nat} {e : TypeId} {v : Value} {n : Nat} {xs : List Value} (h : w.ownsRow B e 1 v n xs) : ∃ a c, v = .slice a n c := by
  rcases h.2 with ⟨rfl, rfl⟩ | ⟨g, cap, cur, rfl, _⟩
  · exact ⟨_, _, rfl⟩
  · exact ⟨_, _, rfl⟩
theorem own_block {w : World} {B : Nat} {e : TypeId} {v : Value} {n : Nat} {xs : List Value} (h : w.ownsRow B e 1 v n xs) {k : Nat} (hk : v.ownBlock = some k) : ∃ cs, w.heap[k]? = some (.cells cs e (0, 0)) := by
  rcases h.2 with ⟨rfl, _⟩ | ⟨g, cap, cur, rfl, _, hg, _⟩
  · cases hk
  · cases hk; exact ⟨_, hg⟩

/-- A pointer as an element of a map: the number of its block. -/
def ptrElem (v : Value) : Option (DataW Unit × List MemPlace) :=
  match v with
  | .pointer none => some (.nil, [])
  | .pointer (some ⟨b, 0, none⟩) => some (.lit (.int .i64 b), [])
  | _ => none
abbrev Nm := List UInt8
/-- A file: where it lies, its row, its bytes, how many are synced. -/
structure Fl where
  b : Nat
  v : Value
  bs : List UInt8
  syn : Nat
def encF : Option Fl → DataW Unit
  | none => .nil
  | some f => .lit (.int .i64 f.b)
structure FileAt (f : Fl) (W : World) : Prop where
  cell : W.heap[f.b]? = some (.cells #[f.v, .int .i64 (f.syn : Nat)] 243 (0, 0))
  row : W.ownsRow 0 5 1 f.v f.bs.length (Lib.byteCells f.bs)
/-- A disk as the proof sees it. -/
structure Dk where
  d : Nat
  m : Nat
  n : Nat
  fs : Nm → Option Fl
  room : Int
  used : Int
  after : Int
  torn : Int
  dead : Bool
def Dk.cells (x : Dk) : Array Value := #[.int .i64 x.room, .map (some x.m), .int .i64 x.used, .int .i64 x.after, .int .i64 x.torn, .bool x.dead]
def Dk.ft (x : Dk) (k : Nat) : Prop := k = x.d ∨ k = x.m ∨ ∃ s f, x.fs s = some f ∧ (k = f.b ∨ f.v.ownBlock = some k)
structure DiskAt (x : Dk) (W : World) : Prop where
  cell : W.heap[x.d]? = some (.cells x.cells 111 (0, 0))
  own : ∃ D, W.ownsMap Tryz.prog 9 ptrElem x.m x.n D ∧ (∀ s, D.atKey (.string s) .nil = encF (x.fs s)) ∧ ∀ s, Maps.has D (.string s) = (x.fs s).isSome
  file : ∀ s f, x.fs s = some f → FileAt f W
  apart : ∀ s t f g, x.fs s = some f → x.fs t = some g → s ≠ t → f.b ≠ g.b ∧ ∀ k, f.v.ownBlock = some k → g.v.ownBlock ≠ some k

theorem DiskAt.lt {x : Dk} {W : World} (h : DiskAt x W) {k : Nat} (hk : x.ft k) : k < W.heap.size := by
  rcases hk with rfl | rfl | ⟨s, f, hs, rfl | hk⟩
  · exact lt_of h.cell
  · obtain ⟨D, ho, _⟩ := h.own; exact ho.lt
  · exact lt_of (h.file s f hs).cell
  · obtain ⟨cs, hg⟩ := own_block (h.file s f hs).row hk; exact lt_of hg
theorem ownsMap_keep {W W' : World} {P : Program} {k : TypeId} {R : Value → Option (DataW Unit × List MemPlace)} {b n : Nat} {D : DataW Unit} (h : W.ownsMap P k R b n D) (hb : W'.heap[b]? = W.heap[b]?) : W'.ownsMap P k R b n D := by
  obtain ⟨es, c, h1, h2⟩ := h; exact ⟨es, c, hb.trans h1, h2⟩
theorem FileAt.kept {f : Fl} {W W' : World} (h : FileAt f W) (h1 : W'.heap[f.b]? = W.heap[f.b]?) (h2 : ∀ k, f.v.ownBlock = some k → W'.heap[k]? = W.heap[k]?) : FileAt f W' :=
  ⟨h1.trans h.cell, own_keep h.row h2⟩
theorem DiskAt.kept {x : Dk} {W W' : World} (h : DiskAt x W) (hk : ∀ k, x.ft k → W'.heap[k]? = W.heap[k]?) : DiskAt x W' := by
  refine ⟨(hk _ (Or.inl rfl)).trans h.cell, ?_, fun s f hs => (h.file s f hs).kept (hk _ (Or.inr (Or.inr ⟨s, f, hs, Or.inl rfl⟩))) (fun k hb => hk _ (Or.inr (Or.inr ⟨s, f, hs, Or.inr hb⟩))), h.apart⟩
  obtain ⟨D, ho, h2⟩ := h.own
  exact ⟨D, ownsMap_keep ho (hk _ (Or.inr (Or.inl rfl))), h2⟩
end Go.Proofs.YtekoaheiapddiaaGreat.Dz
end
section
namespace Go.Proofs.YtekoaheiapddiaaGreat.Dz
open Go.RowKit Go.Maps Go.WideElems Go.ChangeMaps Go.MapKept Go.WideMaps

theorem law : Keyed Tryz.prog 9 := string_keyed Tryz.underlying9
theorem key_str {s : Nm} (hs : s.length ≤ maxLen) : keyOf Tryz.prog 9 (.string (str s)) = some (.string s) := by
  have h := keyOf_string_mk (P := Tryz.prog) (k := 9) Tryz.underlying9 (s := str s) (by rw [str_size]; exact hs)
  rwa [str_list] at h
end Go.Proofs.YtekoaheiapddiaaGreat.Dz
end
section
namespace Go.Proofs.YtekoaheiapddiaaGreat.Dz
open Go.RowKit Go.Maps Go.WideElems Go.ChangeMaps Go.MapKept Go.WideMaps
section
variable {x : Dk} {W : World} {s xs : Nm} {b0 b1 b2 b3 : Nat}
/-- What is torn off. -/
def tornN (t : Int) (n : Nat) : Nat := min t.toNat n
end
end Go.Proofs.YtekoaheiapddiaaGreat.Dz
end
