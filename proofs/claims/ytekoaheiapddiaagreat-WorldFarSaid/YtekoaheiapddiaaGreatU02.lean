/- Merged: Dka, Dkb, Dkc, Dkd, Dke. -/
import Derived.Test.YtekoaheiapddiaaGreatChecked
import Derived.Test.YtekoaheiapddiaaGreatU01
import Derived.Maps.AppendAt
import Derived.Maps.RangeWalk
import Derived.Maps.OwnSet
import Derived.Maps.Ext
import Derived.Maps.OwnOps
import Derived.Lib.AppendStr
import Derived.Lib.BitFns
import Derived.StillTailTactics
import Derived.OwnWalk
section
namespace Go.Proofs.YtekoaheiapddiaaGreat.Dz
open Go.RowKit Go.Maps

theorem str_list (l : List UInt8) : (str l).data.toList = l := by simp [str]
theorem strCells_str (l : List UInt8) : Lib.strCells (str l) = Lib.byteCells l := by rw [Lib.strCells_eq]; rfl

/-- From w to w' a call has turned nothing but blocks of F, and new ones; F' is what it may turn then. -/
structure Chg (F F' : Nat → Prop) (w w' : World) : Prop where
  os : w'.os = w.os
  tape : w'.tape = w.tape
  output : w'.output = w.output
  size : w.heap.size ≤ w'.heap.size
  block : ∀ k, k < w.heap.size → ¬ F k → w'.heap[k]? = w.heap[k]?
  new : ∀ k, F' k → F k ∨ w.heap.size ≤ k
theorem Chg.refl (F : Nat → Prop) (w : World) : Chg F F w w := ⟨rfl, rfl, rfl, Nat.le_refl _, fun _ _ _ => rfl, fun _ h => Or.inl h⟩
theorem Chg.trans {F F' F'' : Nat → Prop} {a b c : World} (h : Chg F F' a b) (k : Chg F' F'' b c) : Chg F F'' a c :=
  ⟨k.os.trans h.os, k.tape.trans h.tape, k.output.trans h.output, Nat.le_trans h.size k.size,
    fun i hi hn => (k.block i (Nat.lt_of_lt_of_le hi h.size) (fun hf => (h.new i hf).elim hn (by omega))).trans (h.block i hi hn),
    fun i hi => (k.new i hi).elim (fun hf => h.new i hf) (fun h2 => Or.inr (Nat.le_trans h.size h2))⟩
theorem Chg.undrew {F F' : Nat → Prop} {w w' : World} (h : Chg F F' w.drew w') : Chg F F' w w' := ⟨h.os, h.tape, h.output, h.size, h.block, h.new⟩
theorem Chg.of_below {F : Nat → Prop} {w w' : World} (h : Below w.heap.size w w') : Chg F F w w' :=
  ⟨h.os, h.tape, h.output, h.size, fun k hk _ => h.block k hk, fun _ h => Or.inl h⟩
/-- .. and may turn less than F' says. -/
theorem Chg.mono {F G F' G' : Nat → Prop} {w w' : World} (h : Chg F F' w w') (h1 : ∀ k, F k → G k) (h2 : ∀ k, G' k → F' k ∨ G k) : Chg G G' w w' :=
  ⟨h.os, h.tape, h.output, h.size, fun k hk hn => h.block k hk (fun hf => hn (h1 k hf)), fun k hk => (h2 k hk).elim (fun hf => (h.new k hf).imp (h1 k) id) Or.inl⟩

theorem own_keep {w w' : World} {B : Nat} {e : TypeId} {v : Value} {n : Nat} {xs : List Value} (h : w.ownsRow B e 1 v n xs) (hb : ∀ k, v.ownBlock = some k → w'.heap[k]? = w.heap[k]?) : w'.ownsRow B e 1 v n xs := by
  refine ⟨h.1, ?_⟩
  rcases h.2 with h0 | ⟨g, cap, cur, rfl, hbg, hg, rest⟩
  · exact Or.inl h0
  · exact Or.inr ⟨g, cap, cur, rfl, hbg, (hb g rfl).trans hg, rest⟩
theorem own_any {w : World} {B : Nat} {e : TypeId} {v : Value} {n : Nat} {xs : List Value} (h : w.ownsRow B e 1 v n xs) : ∃ a c, v = .slice a n c := by
  rcases h.2 with ⟨rfl, rfl⟩ | ⟨g, cap, cur, rfl, _⟩
  · exact ⟨_, _, rfl⟩
  · exact ⟨_, _, rfl⟩
theorem own_block {w : World} {B : Nat} {e : TypeId} {v : Value} {n : Nat} {xs : List Value} (h : w.ownsRow B e 1 v n xs) {k : Nat} (hk : v.ownBlock = some k) : ∃ cs, w.heap[k]? = some (.cells cs e (0, 0)) := by
  rcases h.2 with ⟨rfl, _⟩ | ⟨g, cap, cur, rfl, _, hg, _⟩
  · cases hk
  · cases hk; exact ⟨_, hg⟩

/-- A pointer as an element of a map: the number of its block. -/
def ptrElem (v : Value) : Option (DataW Unit × List MemPlace) :=
  match v with
  | .pointer none => some (.nil, [])
  | .pointer (some ⟨b, 0, none⟩) => some (.lit (.int .i64 b), [])
  | _ => none
theorem ptrElem_inv {v : Value} {z : DataW Unit × List MemPlace} (h : ptrElem v = some z) : (v = .pointer none ∧ z = (.nil, [])) ∨ ∃ b, v = .pointer (some ⟨b, 0, none⟩) ∧ z = (.lit (.int .i64 (b : Nat)), []) := by
  unfold ptrElem at h
  split at h
  · cases h; exact Or.inl ⟨rfl, rfl⟩
  · cases h; exact Or.inr ⟨_, rfl, rfl⟩
  · cases h

abbrev Nm := List UInt8
/-- A file: where it lies, its row, its bytes, how many are synced. -/
structure Fl where
  b : Nat
  v : Value
  bs : List UInt8
  syn : Nat
def encF : Option Fl → DataW Unit
  | none => .nil
  | some f => .lit (.int .i64 f.b)
def updF (fs : Nm → Option Fl) (s : Nm) (x : Option Fl) : Nm → Option Fl := fun t => if t = s then x else fs t
theorem updF_same (fs : Nm → Option Fl) (s : Nm) (x : Option Fl) : updF fs s x s = x := by simp [updF]
theorem updF_other (fs : Nm → Option Fl) {s t : Nm} (x : Option Fl) (h : t ≠ s) : updF fs s x t = fs t := by simp [updF, h]

structure FileAt (f : Fl) (W : World) : Prop where
  cell : W.heap[f.b]? = some (.cells #[f.v, .int .i64 (f.syn : Nat)] 243 (0, 0))
  row : W.ownsRow 0 5 1 f.v f.bs.length (Lib.byteCells f.bs)
/-- A disk as the proof sees it. -/
structure Dk where
  d : Nat
  m : Nat
  n : Nat
  fs : Nm → Option Fl
  room : Int
  used : Int
  after : Int
  torn : Int
  dead : Bool
def Dk.cells (x : Dk) : Array Value := #[.int .i64 x.room, .map (some x.m), .int .i64 x.used, .int .i64 x.after, .int .i64 x.torn, .bool x.dead]
def Dk.ft (x : Dk) (k : Nat) : Prop := k = x.d ∨ k = x.m ∨ ∃ s f, x.fs s = some f ∧ (k = f.b ∨ f.v.ownBlock = some k)
structure DiskAt (x : Dk) (W : World) : Prop where
  cell : W.heap[x.d]? = some (.cells x.cells 111 (0, 0))
  own : ∃ D, W.ownsMap Tryz.prog 9 ptrElem x.m x.n D ∧ (∀ s, D.atKey (.string s) .nil = encF (x.fs s)) ∧ ∀ s, Maps.has D (.string s) = (x.fs s).isSome
  file : ∀ s f, x.fs s = some f → FileAt f W
  apart : ∀ s t f g, x.fs s = some f → x.fs t = some g → s ≠ t → f.b ≠ g.b ∧ ∀ k, f.v.ownBlock = some k → g.v.ownBlock ≠ some k

theorem DiskAt.lt {x : Dk} {W : World} (h : DiskAt x W) {k : Nat} (hk : x.ft k) : k < W.heap.size := by
  rcases hk with rfl | rfl | ⟨s, f, hs, rfl | hk⟩
  · exact lt_of h.cell
  · obtain ⟨D, ho, _⟩ := h.own; exact ho.lt
  · exact lt_of (h.file s f hs).cell
  · obtain ⟨cs, hg⟩ := own_block (h.file s f hs).row hk; exact lt_of hg
theorem ownsMap_keep {W W' : World} {P : Program} {k : TypeId} {R : Value → Option (DataW Unit × List MemPlace)} {b n : Nat} {D : DataW Unit} (h : W.ownsMap P k R b n D) (hb : W'.heap[b]? = W.heap[b]?) : W'.ownsMap P k R b n D := by
  obtain ⟨es, c, h1, h2⟩ := h; exact ⟨es, c, hb.trans h1, h2⟩
theorem FileAt.kept {f : Fl} {W W' : World} (h : FileAt f W) (h1 : W'.heap[f.b]? = W.heap[f.b]?) (h2 : ∀ k, f.v.ownBlock = some k → W'.heap[k]? = W.heap[k]?) : FileAt f W' :=
  ⟨h1.trans h.cell, own_keep h.row h2⟩
theorem DiskAt.kept {x : Dk} {W W' : World} (h : DiskAt x W) (hk : ∀ k, x.ft k → W'.heap[k]? = W.heap[k]?) : DiskAt x W' := by
  refine ⟨(hk _ (Or.inl rfl)).trans h.cell, ?_, fun s f hs => (h.file s f hs).kept (hk _ (Or.inr (Or.inr ⟨s, f, hs, Or.inl rfl⟩))) (fun k hb => hk _ (Or.inr (Or.inr ⟨s, f, hs, Or.inr hb⟩))), h.apart⟩
  obtain ⟨D, ho, h2⟩ := h.own
  exact ⟨D, ownsMap_keep ho (hk _ (Or.inr (Or.inl rfl))), h2⟩
theorem DiskAt.below {x : Dk} {W W' : World} (h : DiskAt x W) (hb : Below W.heap.size W W') : DiskAt x W' := h.kept fun k hk => hb.block k (h.lt hk)
theorem DiskAt.alloc {x : Dk} {W : World} (h : DiskAt x W) (o : Obj) : DiskAt x (W.alloc o) := h.below ((Below.refl _ _).alloc (Nat.le_refl _) _)
theorem DiskAt.drew {x : Dk} {W : World} (h : DiskAt x W) : DiskAt x W.drew := h.kept fun _ _ => rfl
section
variable {x : Dk} {W : World}
/-- What the walk reads of a disk. -/
theorem DiskAt.reads (h : DiskAt x W) : (W.cell? ⟨x.d, 0, none⟩ = some (.int .i64 x.room) ∧ W.cell? ⟨x.d, 1, none⟩ = some (.map (some x.m)) ∧ W.cell? ⟨x.d, 2, none⟩ = some (.int .i64 x.used) ∧ W.cell? ⟨x.d, 3, none⟩ = some (.int .i64 x.after) ∧
    W.cell? ⟨x.d, 4, none⟩ = some (.int .i64 x.torn) ∧ W.cell? ⟨x.d, 5, none⟩ = some (.bool x.dead)) ∧ ∀ j, W.frozen? ⟨x.d, j, none⟩ = false := by
  refine ⟨⟨?_, ?_, ?_, ?_, ?_, ?_⟩, fun j => free_of h.cell j⟩ <;> (rw [cell_of h.cell]; rfl)
/-- A number of the disk's own that is set. -/
theorem DiskAt.set (h : DiskAt x W) (j : Nat) (u : Value) (y : Dk) (hd : y.d = x.d) (hm : y.m = x.m) (hn : y.n = x.n) (hf : y.fs = x.fs) (hc : x.cells.setIfInBounds j u = y.cells) :
    DiskAt y (W.setCell ⟨x.d, j, none⟩ u) ∧ Chg x.ft y.ft W (W.setCell ⟨x.d, j, none⟩ u) := by
  have hk : ∀ k, k ≠ x.d → (W.setCell ⟨x.d, j, none⟩ u).heap[k]? = W.heap[k]? := fun k hk => heap_setCell_other _ _ _ _ (by simpa using hk)
  have hmd : x.m ≠ x.d := by
    obtain ⟨D, ⟨es, c, hb, _⟩, _⟩ := h.own
    intro e; rw [e, h.cell] at hb; cases hb
  have hfd : ∀ s f, x.fs s = some f → f.b ≠ x.d := fun s f hs e => by
    have hb := (h.file s f hs).cell; rw [e, h.cell] at hb; simp [Dk.cells] at hb
  have hrd : ∀ s f k, x.fs s = some f → f.v.ownBlock = some k → k ≠ x.d := fun s f k hs hk e => by
    obtain ⟨cs, hg⟩ := own_block (h.file s f hs).row hk; rw [e, h.cell] at hg; injection hg with hg; injection hg with _ hg; exact absurd hg (by decide)
  refine ⟨⟨?_, ?_, ?_, ?_⟩, ⟨rfl, rfl, rfl, by simp [World.setCell], fun k _ hn => hk k (fun e => hn (Or.inl e)), fun k hk => Or.inl ?_⟩⟩
  · rw [hd, ← hc]; exact heap_setCell_same _ _ _ _ _ _ h.cell
  · obtain ⟨D, ho, h2⟩ := h.own
    rw [hm, hn, hf]
    exact ⟨D, ownsMap_keep ho (hk _ hmd), h2⟩
  · intro s f hs; rw [hf] at hs
    exact (h.file s f hs).kept (hk _ (hfd s f hs)) (fun k hb => hk _ (hrd s f k hs hb))
  · rw [hf]; exact h.apart
  · unfold Dk.ft at hk ⊢; rw [hd, hm, hf] at hk; exact hk
end
end Go.Proofs.YtekoaheiapddiaaGreat.Dz
end
section
namespace Go.Proofs.YtekoaheiapddiaaGreat.Dz
open Go.RowKit Go.Maps Go.WideElems Go.ChangeMaps Go.MapKept Go.WideMaps

theorem law : Keyed Tryz.prog 9 := string_keyed Tryz.underlying9
theorem zeroP (w : World) : (zeroValue 241).run Tryz.prog w = .ok (.pointer none) w := by kernel_rfl
def ptrF : Option Fl → Value
  | none => .pointer none
  | some f => .pointer (some ⟨f.b, 0, none⟩)
theorem key_str {s : Nm} (hs : s.length ≤ maxLen) : keyOf Tryz.prog 9 (.string (str s)) = some (.string s) := by
  have h := keyOf_string_mk (P := Tryz.prog) (k := 9) Tryz.underlying9 (s := str s) (by rw [str_size]; exact hs)
  rwa [str_list] at h
section
variable {x : Dk} {W : World}
theorem ptr_of_enc {v : Value} {ps : List MemPlace} {o : Option Fl} (h : ptrElem v = some (encF o, ps)) : v = ptrF o := by
  rcases ptrElem_inv h with ⟨rfl, e⟩ | ⟨b, rfl, e⟩
  · cases o with
    | none => rfl
    | some f => cases e
  · cases o with
    | none => cases e
    | some f =>
      have : f.b = b := by injection e with e; simp only [encF, DataW.lit.injEq, Lit.int.injEq, true_and] at e; omega
      rw [ptrF, this]
theorem DiskAt.look (h : DiskAt x W) {s : Nm} (hs : s.length ≤ maxLen) : (Instr.lookup 109 (.map (some x.m)) (.string (str s)) false).run Tryz.prog W = .ok (ptrF (x.fs s)) W := by
  obtain ⟨D, ho, h2, _⟩ := h.own
  obtain ⟨v, ps, hr, hv⟩ := ho.lookup law (t := 109) (e := 241) Tryz.underlying109 (zeroP W) (zd := .nil) (zp := []) rfl (key_str hs)
  rw [h2 s] at hv
  rw [hr, ptr_of_enc hv]
end
/-- A disk without files. -/
def Dk.new (d m : Nat) (room : Int) : Dk := ⟨d, m, 0, fun _ => none, room, 0, -1, 0, false⟩
theorem new_at {room : Int} {W : World} {m d : Nat} (hm : W.heap[m]? = some (.map #[] 0)) (hd : W.heap[d]? = some (.cells (Dk.new d m room).cells 111 (0, 0))) : DiskAt (Dk.new d m room) W := by
  refine ⟨hd, ⟨.map [], ⟨#[], 0, hm, ⟨by simp, stamped_empty 0, by simp⟩, Nat.le_refl _, rfl⟩, fun s => rfl, fun s => rfl⟩, ?_, ?_⟩
  · intro s f h; cases h
  · intro s t f g h; cases h
set_option maxRecDepth 100000 in
theorem empty_c (room : Int) (W : World) : Calls Tryz.prog 52 #[.int .i64 room] W fun e W' => e = .returned (.pointer (some ⟨W.heap.size + 1, 0, none⟩)) ∧ DiskAt (Dk.new (W.heap.size + 1) W.heap.size room) W' ∧ Chg (fun _ => False) (Dk.new (W.heap.size + 1) W.heap.size room).ft W W' := by
  have hmm := @run_makeMap Tryz.prog
  go_enter Tryz.func52, Tryz.ntmps52
  go_wp2_with fail
  go_ret
  refine ⟨?_, ?_, ?_⟩
  · rfl
  · refine new_at ?_ ?_
    · rw [Below.heap_alloc _ _ _ (by simp)]; exact (MapKept.heap_alloc W _).1
    · have h := heap_alloc_new (W.alloc (.map #[] 0)) (.cells (Dk.new (W.heap.size + 1) W.heap.size room).cells 111)
      rw [alloc_size] at h; exact h
  · refine ⟨rfl, rfl, rfl, by simp; omega, fun k hk _ => ?_, ?_⟩
    · rw [Below.heap_alloc _ _ _ (by simp; omega), Below.heap_alloc _ _ _ hk]
    · rintro k (rfl | rfl | ⟨s, f, h, _⟩)
      · exact Or.inr (by simp [Dk.new])
      · exact Or.inr (Nat.le_refl _)
      · cases h
set_option maxRecDepth 100000 in
theorem new_c (room : Nat) (hr : room ≤ 1048576) (W : World) : Calls Tryz.prog 12 #[.int .i64 (room : Nat)] W fun e W' => ∃ d m, e = .returned (.tuple #[.pointer (some ⟨d, 0, none⟩), .int .i64 0]) ∧ DiskAt (Dk.new d m room) W' ∧ Chg (fun _ => False) (Dk.new d m room).ft W W' := by
  go_enter Tryz.func12, Tryz.ntmps12
  go_wp2_with (go_at_call 52; refine (empty_c _ _).mono ?_; rintro e W1 ⟨rfl, h1, h2⟩; have HZ := Lib.hid (And.intro h1 h2); clear h1 h2)
  go_ret2
  exact ⟨_, _, rfl, HZ.out.1, HZ.out.2⟩
section
variable {x : Dk} {W : World}
theorem own_conv {B : Nat} {l : List UInt8} {a : Option Addr} {c : Nat} (h : W.ownsRow B 5 1 (.slice a l.length c) l.length (Lib.byteCells l)) (n : Nat) (hn : n ≤ l.length) :
    (convert 218 9 (.slice a n c)).run Tryz.prog W = .ok (.string (str (l.take n))) W := by
  rcases Nat.eq_zero_or_pos n with rfl | h0
  · rw [run_convert_bytes_string W 218 9 5 _ 0 c Tryz.underlying218 Tryz.underlying5 Tryz.underlying9]
    cases a <;> simp [Conv.bytesToString, loadCells] <;> rfl
  · rcases h.2 with ⟨he, h0'⟩ | ⟨g, cap, cur, e, _, hg, _⟩
    · omega
    · cases e
      have hk := run_convert_bytes_back (P := Tryz.prog) W 218 9 5 ⟨g, 0, none⟩ c (l.take n) Tryz.underlying218 Tryz.underlying5 Tryz.underlying9 (fun j hj => by
        have hj' : j < l.length := by rw [List.length_take] at hj; omega
        exact h.cells (g := g) rfl j (.int .u8 ((l.take n)[j].toNat : Int)) (by simp [Lib.byteCells, hj']))
      rw [List.length_take, Nat.min_eq_left hn] at hk
      exact hk
/-- What Read tells. -/
def told : Option Fl → Value
  | none => .tuple #[.string (str []), .bool false]
  | some f => .tuple #[.string (str f.bs), .bool true]
set_option maxRecDepth 100000 in
theorem read_c (h : DiskAt x W) {s : Nm} (hs : s.length ≤ maxLen) : Calls Tryz.prog 101 #[.pointer (some ⟨x.d, 0, none⟩), .string (str s)] W fun e W' => e = .returned (told (x.fs s)) ∧ W' = W := by
  obtain ⟨⟨_, c1, _⟩, _⟩ := h.reads
  have hl := h.look hs
  cases hf : x.fs s with
  | none =>
    rw [hf] at hl
    simp only [ptrF] at hl
    clear h hf
    generalize str s = y at *
    go_enter Tryz.func101, Tryz.ntmps101
    go_wp2_with fail
    go_ret2
    exact ⟨rfl, rfl⟩
  | some f =>
    rw [hf] at hl
    simp only [ptrF] at hl
    obtain ⟨h1, h2⟩ := h.file s f hf
    obtain ⟨a, c, hv⟩ := own_any h2
    rw [hv] at h1 h2
    have hc := own_conv h2 f.bs.length (Nat.le_refl _)
    rw [List.take_length] at hc
    have d0 : W.cell? ⟨f.b, 0, none⟩ = some (.slice a f.bs.length c) := cell_of h1 0
    clear h hf h1 h2
    generalize str s = y at *
    generalize hz : str f.bs = z at *
    have HZ := Lib.hid hz
    clear hz
    go_enter Tryz.func101, Tryz.ntmps101
    go_wp2_with fail
    go_ret2
    exact ⟨by rw [told, HZ.out]; rfl, rfl⟩
set_option maxRecDepth 100000 in
theorem crash_c (h : DiskAt x W) : Calls Tryz.prog 267 #[.pointer (some ⟨x.d, 0, none⟩)] W fun e W' => e = .returned (.tuple #[]) ∧ DiskAt { x with dead := true } W' ∧ Chg x.ft x.ft W W' := by
  obtain ⟨⟨_, _, _, _, _, c5⟩, f5⟩ := h.reads
  have f5 := f5 5
  have HZ := Lib.hid (h.set 5 (.bool true) { x with dead := true } rfl rfl rfl rfl rfl)
  clear h
  go_enter Tryz.func267, Tryz.ntmps267
  go_wp2_with fail
  go_end0
  exact ⟨rfl, HZ.out⟩
end
end Go.Proofs.YtekoaheiapddiaaGreat.Dz
end
section
namespace Go.Proofs.YtekoaheiapddiaaGreat.Dz
open Go.RowKit Go.Maps Go.WideElems Go.ChangeMaps Go.MapKept Go.WideMaps

theorem infoByte : (Tryz.prog.info? 5).map (fun i => (i.zero, i.size, i.bytes)) = some (some (.int .u8 0), 1, 1) := by kernel_rfl
/-- A text behind a row of bytes of the call's own: where the new row lies. -/
theorem wpList_append_text {ops : Array Oper} {rest : List Oper} {o : Oper} {a : Act} {Q : Exit → Act → World → Prop} {W : World} (hgd : o.guard = none) (sl x : Operand)
    (ho : o.op = .call { callee := .builtin .append, args := #[sl, x], argTypes := #[218, 9] }) (B : Nat) (v : Value) (n : Nat) (xs : List Value) (hs : a.eval sl = v) (hown : W.ownsRow B 5 1 v n xs) (s : ByteArray) (hx : a.eval x = .string s)
    (hbytes : n + s.size ≤ 140737488355328) (hB : B ≤ W.heap.size)
    (h : ∀ v' W', W'.ownsRow B 5 1 v' (n + s.size) (xs ++ Lib.strCells s) → W.grownBy W' v.ownBlock → (v'.ownBlock = v.ownBlock ∨ v'.ownBlock = some W.heap.size) → wpList Tryz.prog ops Q rest (a.put o.dst v') W') : wpList Tryz.prog ops Q (o :: rest) a W := by
  obtain ⟨i0, hi, hz0, hz1, hz2⟩ := info_parts infoByte
  refine wpList_plain hgd fun K hK => ?_
  obtain ⟨v', w', hr, h2, h3, h4⟩ := Lib.run_append_own_string (P := Tryz.prog) W B 218 9 o.type 5 i0 Tryz.underlying218 Tryz.underlying9 hi hz0 hz1 hz2 v n xs hown s (by unfold maxLen; omega) hbytes hB
  have hl : v'.ownBlock = v.ownBlock ∨ v'.ownBlock = some W.heap.size := by
    rcases hown.2 with ⟨rfl, rfl⟩ | ⟨g, cap, cur, rfl, hbg, hg, hnc, _, hcs, _⟩
    · by_cases hm : s.size = 0
      · left; rw [h4.2 ⟨rfl, hm⟩]
      · have e := hr.symm.trans (run_append_nil_string (P := Tryz.prog) W 218 9 o.type 5 i0 _ Tryz.underlying218 Tryz.underlying9 hi hz0 s (by omega) (by omega) (by rw [hz2]; omega))
        injection e with e _
        right; rw [e]; rfl
    · by_cases hroom : n + s.size ≤ cap
      · have e := hr.symm.trans (Lib.run_append_room_string (P := Tryz.prog) W 218 9 o.type 5 i0 Tryz.underlying218 Tryz.underlying9 hi hz1 g n cap cur hg s hroom (by omega))
        injection e with e _
        left; rw [e]; rfl
      · have e := hr.symm.trans (Lib.run_append_grow_string (P := Tryz.prog) W 218 9 o.type 5 i0 _ Tryz.underlying218 Tryz.underlying9 hi hz0 ⟨g, 0, none⟩ n cap xs (by rw [hz1]; exact hown.1) (hown.cells rfl) s (by omega) (by omega) (by rw [hz2]; exact growslice_fits (by omega) (by omega)))
        injection e with e _
        right; rw [e]; rfl
  unfold Oper.wp execOp
  simp only [ho, resolve, invoke, builtin, Sem.run_bind, Sem.run_pure, Result.andThen_ok, List.map_toArray, List.map_cons, List.map_nil, hs, hx, hr]
  exact hK _ _ (h v' w' h2 h3 hl)

def bytesF : Option Fl → List UInt8
  | none => []
  | some f => f.bs
def synF : Option Fl → Nat
  | none => 0
  | some f => f.syn
section
variable {x : Dk} {W : World}
/-- The blocks of a disk apart. -/
theorem DiskAt.ne (h : DiskAt x W) : x.m ≠ x.d ∧ (∀ s f, x.fs s = some f → f.b ≠ x.d ∧ f.b ≠ x.m ∧ ∀ k, f.v.ownBlock = some k → k ≠ x.d ∧ k ≠ x.m) ∧ ∀ s t f g k, x.fs s = some f → x.fs t = some g → f.v.ownBlock = some k → k ≠ g.b := by
  obtain ⟨D, ⟨es, c, hb, _⟩, _⟩ := h.own
  refine ⟨fun e => ?_, fun s f hs => ⟨fun e => ?_, fun e => ?_, fun k hk => ⟨fun e => ?_, fun e => ?_⟩⟩, fun s t f g k hs ht hk e => ?_⟩
  · rw [e, h.cell] at hb; cases hb
  · have hb := (h.file s f hs).cell; rw [e, h.cell] at hb; simp [Dk.cells] at hb
  · have hc := (h.file s f hs).cell; rw [e, hb] at hc; cases hc
  · obtain ⟨cs, hg⟩ := own_block (h.file s f hs).row hk; rw [e, h.cell] at hg; injection hg with hg; injection hg with _ hg; exact absurd hg (by decide)
  · obtain ⟨cs, hg⟩ := own_block (h.file s f hs).row hk; rw [e, hb] at hg; cases hg
  · obtain ⟨cs, hg⟩ := own_block (h.file s f hs).row hk; rw [e, (h.file t g ht).cell] at hg; injection hg with hg; injection hg with _ hg; exact absurd hg (by decide)
/-- A new file, empty. -/
theorem DiskAt.fresh (h : DiskAt x W) {s : Nm} (hs : x.fs s = none) {D : DataW Unit} (hD : Maps.IsMap D) (hat : ∀ t, D.atKey (.string t) .nil = encF (x.fs t)) (hhas : ∀ t, Maps.has D (.string t) = (x.fs t).isSome) {W2 : World}
    (ho : W2.ownsMap Tryz.prog 9 ptrElem x.m (x.n + 1) (D.put (.string s) (.lit (.int .i64 (W.heap.size : Nat)))))
    (hg : (W.alloc (.cells #[.slice none 0 0, .int .i64 0] 243)).grownBy W2 (some x.m)) :
    DiskAt { x with n := x.n + 1, fs := updF x.fs s (some ⟨W.heap.size, .slice none 0 0, [], 0⟩) } W2 ∧ Chg x.ft (Dk.ft { x with n := x.n + 1, fs := updF x.fs s (some ⟨W.heap.size, .slice none 0 0, [], 0⟩) }) W W2 := by
  obtain ⟨hmd, hne, _⟩ := h.ne
  have hk : ∀ k, k < W.heap.size → k ≠ x.m → W2.heap[k]? = W.heap[k]? := fun k hk hm => (hg.block k (by simp; omega) (by simpa using hm)).trans (Below.heap_alloc _ _ _ hk)
  have hml := h.lt (k := x.m) (Or.inr (Or.inl rfl))
  refine ⟨⟨?_, ⟨_, ho, fun t => ?_, fun t => ?_⟩, fun t f ht => ?_, fun t t' f g ht ht' htt => ?_⟩, ⟨hg.os, hg.tape, hg.output, by have := hg.size; simp at this; omega, fun k hk1 hk2 => hk k hk1 (fun e => hk2 (Or.inr (Or.inl e))), fun k hk1 => ?_⟩⟩
  · exact (hk _ (h.lt (Or.inl rfl)) (Ne.symm hmd)).trans h.cell
  · by_cases e : t = s
    · subst e; rw [Maps.atKey_put_same (k := .string t) hD (by simp [WideAt.IsKeyLit])]; simp [updF, encF]
    · rw [Maps.atKey_put_other (by simpa using e), hat]; simp [updF, e]
  · by_cases e : t = s
    · subst e; rw [Maps.has_put_same (k := .string t) hD (by simp [WideAt.IsKeyLit])]; simp [updF]
    · rw [Maps.has_put_other (by simpa using e), hhas]; simp [updF, e]
  · by_cases e : t = s
    · subst e
      simp only [updF, if_true, Option.some.injEq] at ht
      subst ht
      refine ⟨?_, ?_⟩
      · exact (hg.block W.heap.size (by simp) (by simp; omega)).trans (heap_alloc_new _ _)
      · exact ⟨rfl, Or.inl ⟨rfl, rfl⟩⟩
    · simp only [updF, e, if_false] at ht
      have hf := h.file t f ht
      exact hf.kept (hk _ (h.lt (Or.inr (Or.inr ⟨t, f, ht, Or.inl rfl⟩))) (hne t f ht).2.1) (fun k hb => hk _ (h.lt (Or.inr (Or.inr ⟨t, f, ht, Or.inr hb⟩))) ((hne t f ht).2.2 k hb).2)
  · have hlt : ∀ r u, x.fs r = some u → u.b ≠ W.heap.size := fun r u hr => by have := h.lt (k := u.b) (Or.inr (Or.inr ⟨r, u, hr, Or.inl rfl⟩)); omega
    simp only [updF] at ht ht'
    split at ht <;> split at ht'
    · rename_i e1 e2; exact absurd (e1.trans e2.symm) htt
    · cases ht; exact ⟨fun e => hlt _ _ ht' e.symm, fun k hb => by cases hb⟩
    · cases ht'; exact ⟨hlt _ _ ht, fun k _ hb => by cases hb⟩
    · exact h.apart t t' f g ht ht' htt
  · rcases hk1 with e | e | ⟨t, f, ht, hk1⟩
    · exact Or.inl (Or.inl e)
    · exact Or.inl (Or.inr (Or.inl e))
    · simp only [updF] at ht
      split at ht
      · cases ht
        rcases hk1 with e | e
        · exact Or.inr (by rw [e]; exact Nat.le_refl _)
        · cases e
      · exact Or.inl (Or.inr (Or.inr ⟨t, f, ht, hk1⟩))
/-- A file whose cells are others: its own block and its row have turned, nothing else of the disk's. -/
theorem DiskAt.turn (h : DiskAt x W) {s : Nm} {f f' : Fl} (hf : x.fs s = some f) {W2 : World} (hb : f'.b = f.b) (hk : ∀ k, k < W.heap.size → k ≠ f.b → f.v.ownBlock ≠ some k → W2.heap[k]? = W.heap[k]?) (hat : FileAt f' W2)
    (hv : ∀ k, f'.v.ownBlock = some k → f.v.ownBlock = some k ∨ W.heap.size ≤ k) (hos : W2.os = W.os) (htp : W2.tape = W.tape) (hout : W2.output = W.output) (hsz : W.heap.size ≤ W2.heap.size) :
    DiskAt { x with fs := updF x.fs s (some f') } W2 ∧ Chg x.ft (Dk.ft { x with fs := updF x.fs s (some f') }) W W2 := by
  obtain ⟨hmd, hne, hrb⟩ := h.ne
  obtain ⟨D, ho, h2, h3⟩ := h.own
  have hfx : x.ft f.b := Or.inr (Or.inr ⟨s, f, hf, Or.inl rfl⟩)
  have hfl : f.b < W.heap.size := h.lt hfx
  refine ⟨⟨?_, ⟨D, ownsMap_keep ho ?_, fun t => ?_, fun t => ?_⟩, fun t g ht => ?_, fun t t' g g' ht ht' htt => ?_⟩, ⟨hos, htp, hout, hsz, fun k hk1 hk2 => hk k hk1 (fun e => hk2 (e ▸ hfx)) (fun e => hk2 (Or.inr (Or.inr ⟨s, f, hf, Or.inr e⟩))), fun k hk1 => ?_⟩⟩
  · exact (hk _ (h.lt (Or.inl rfl)) (Ne.symm (hne s f hf).1) (fun e => ((hne s f hf).2.2 _ e).1 rfl)).trans h.cell
  · exact hk _ (h.lt (Or.inr (Or.inl rfl))) (Ne.symm (hne s f hf).2.1) (fun e => ((hne s f hf).2.2 _ e).2 rfl)
  · rw [h2]
    by_cases e : t = s
    · subst e; simp [updF, hf, encF, hb]
    · simp [updF, e]
  · rw [h3]
    by_cases e : t = s
    · subst e; simp [updF, hf]
    · simp [updF, e]
  · simp only [updF] at ht
    split at ht
    · cases ht; exact hat
    · rename_i e
      have ha := h.apart t s g f ht hf e
      refine (h.file t g ht).kept (hk _ (h.lt (Or.inr (Or.inr ⟨t, g, ht, Or.inl rfl⟩))) ha.1 (fun e2 => hrb s t f g _ hf ht e2 rfl)) (fun k hb2 => hk _ (h.lt (Or.inr (Or.inr ⟨t, g, ht, Or.inr hb2⟩))) (hrb t s g f k ht hf hb2) (fun e2 => ha.2 k hb2 e2))
  · simp only [updF] at ht ht'
    have hlt : ∀ r u k, x.fs r = some u → u.v.ownBlock = some k → k < W.heap.size := fun r u k hr hk => h.lt (Or.inr (Or.inr ⟨r, u, hr, Or.inr hk⟩))
    split at ht <;> split at ht'
    · rename_i e1 e2; exact absurd (e1.trans e2.symm) htt
    · rename_i e1 e2; subst e1; cases ht
      have ha := h.apart t t' f g' hf ht' htt
      refine ⟨by rw [hb]; exact ha.1, fun k hk2 hk3 => ?_⟩
      rcases hv k hk2 with h4 | h4
      · exact ha.2 k h4 hk3
      · have := hlt _ _ _ ht' hk3; omega
    · rename_i e1 e2; subst e2; cases ht'
      have ha := h.apart t t' g f ht hf htt
      refine ⟨by rw [hb]; exact ha.1, fun k hk2 hk3 => ?_⟩
      rcases hv k hk3 with h4 | h4
      · exact ha.2 k hk2 h4
      · have := hlt _ _ _ ht hk2; omega
    · exact h.apart t t' g g' ht ht' htt
  · rcases hk1 with e | e | ⟨t, g, ht, hk1⟩
    · exact Or.inl (Or.inl e)
    · exact Or.inl (Or.inr (Or.inl e))
    · simp only [updF] at ht
      split at ht
      · cases ht
        rcases hk1 with e | e
        · exact Or.inl (by rw [e, hb]; exact hfx)
        · exact (hv k e).imp (fun e => Or.inr (Or.inr ⟨s, f, hf, Or.inr e⟩)) id
      · exact Or.inl (Or.inr (Or.inr ⟨t, g, ht, hk1⟩))
/-- A file has more bytes. -/
theorem DiskAt.grow (h : DiskAt x W) {s : Nm} {f : Fl} (hf : x.fs s = some f) {xs : List UInt8} {v' : Value} {W2 : World} (hown : W2.ownsRow 0 5 1 v' (f.bs ++ xs).length (Lib.byteCells (f.bs ++ xs))) (hg : W.grownBy W2 f.v.ownBlock)
    (hl : v'.ownBlock = f.v.ownBlock ∨ v'.ownBlock = some W.heap.size) :
    DiskAt { x with fs := updF x.fs s (some ⟨f.b, v', f.bs ++ xs, f.syn⟩) } (W2.setCell ⟨f.b, 0, none⟩ v') ∧ Chg x.ft (Dk.ft { x with fs := updF x.fs s (some ⟨f.b, v', f.bs ++ xs, f.syn⟩) }) W (W2.setCell ⟨f.b, 0, none⟩ v') ∧
      (W2.cell? ⟨f.b, 0, none⟩ = some f.v ∧ W2.frozen? ⟨f.b, 0, none⟩ = false) ∧ W2.cell? ⟨x.d, 2, none⟩ = some (.int .i64 x.used) ∧ W2.frozen? ⟨x.d, 2, none⟩ = false := by
  obtain ⟨hmd, hne, hrb⟩ := h.ne
  have hfl : f.b < W.heap.size := h.lt (Or.inr (Or.inr ⟨s, f, hf, Or.inl rfl⟩))
  have h2b : W2.heap[f.b]? = _ := (hg.block f.b hfl (fun e => hrb s s f f _ hf hf e.symm rfl)).trans (h.file s f hf).cell
  have hvb : ∀ k, v'.ownBlock = some k → k ≠ f.b := fun k hk => by
    rcases hl with e | e
    · exact hrb s s f f k hf hf (e ▸ hk)
    · rw [e] at hk; injection hk with hk; omega
  have ht := h.turn hf (f' := ⟨f.b, v', f.bs ++ xs, f.syn⟩) (W2 := W2.setCell ⟨f.b, 0, none⟩ v') rfl
    (fun k hk1 hk2 hk3 => (heap_setCell_other _ _ _ _ (by simpa using hk2)).trans (hg.block k hk1 (fun e => hk3 e.symm)))
    ⟨by simpa using heap_setCell_same _ _ 0 _ _ v' h2b, own_keep hown fun k hk => heap_setCell_other _ _ _ _ (by simpa using hvb k hk)⟩
    (fun k hk => by
      rcases hl with e | e
      · exact Or.inl (e ▸ hk)
      · have hk : v'.ownBlock = some k := hk
        rw [e] at hk; injection hk with hk; right; omega)
    hg.os hg.tape hg.output (by have := hg.size; simpa [World.setCell] using this)
  have h2d : W2.heap[x.d]? = _ := (hg.block x.d (h.lt (Or.inl rfl)) (fun e => ((hne s f hf).2.2 _ e.symm).1 rfl)).trans h.cell
  exact ⟨ht.1, ht.2, ⟨cell_of h2b 0, free_of h2b 0⟩, cell_of h2d 2, free_of h2d 2⟩
end
end Go.Proofs.YtekoaheiapddiaaGreat.Dz
end
section
namespace Go.Proofs.YtekoaheiapddiaaGreat.Dz
open Go.RowKit Go.Maps Go.WideElems Go.ChangeMaps Go.MapKept Go.WideMaps

section
variable {x : Dk} {W : World}
theorem upd_upd (fs : Nm → Option Fl) (s : Nm) (a b : Option Fl) : updF (updF fs s a) s b = updF fs s b := by
  funext t; unfold updF; split <;> rfl
theorem byteCells_app (a b : List UInt8) : Lib.byteCells a ++ Lib.byteCells b = Lib.byteCells (a ++ b) := by simp [Lib.byteCells]
set_option maxRecDepth 100000 in
/-- .. a file that is there. -/
theorem write_some (h : DiskAt x W) {s xs : List UInt8} {f : Fl} (hf : x.fs s = some f) (hs : s.length ≤ maxLen) (hb : f.bs.length + xs.length ≤ 1000000000) (hu : -1000000000000 ≤ x.used ∧ x.used ≤ 1000000000000) :
    Calls Tryz.prog 248 #[.pointer (some ⟨x.d, 0, none⟩), .string (str s), .string (str xs)] W fun e W' => e = .returned (.tuple #[]) ∧ ∃ v, DiskAt { x with fs := updF x.fs s (some ⟨f.b, v, f.bs ++ xs, f.syn⟩), used := x.used + xs.length } W' ∧
      Chg x.ft (Dk.ft { x with fs := updF x.fs s (some ⟨f.b, v, f.bs ++ xs, f.syn⟩), used := x.used + xs.length }) W W' := by
  obtain ⟨⟨_, c1, _⟩, _⟩ := h.reads
  have hl := h.look hs
  rw [hf] at hl
  simp only [ptrF] at hl
  obtain ⟨h1, h2⟩ := h.file s f hf
  have d0 : W.cell? ⟨f.b, 0, none⟩ = some f.v := cell_of h1 0
  have hxs := str_size xs
  have hsc := strCells_str xs
  have H := Lib.hid (And.intro h (And.intro hf (And.intro h2 hsc)))
  clear h hf h1 h2 hs hsc
  generalize str s = y at *
  generalize str xs = z at *
  obtain ⟨va, vc, hv⟩ := own_any H.out.2.2.1
  rw [hv] at d0
  have HV := Lib.hid hv
  clear hv
  go_enter Tryz.func248, Tryz.ntmps248
  go_wp2_with (at_builtin; refine wpList_append_text (by rfl) _ _ (by rfl) 0 _ f.bs.length (Lib.byteCells f.bs) (by rfl) (HV.out ▸ H.out.2.2.1) z (by rfl) (by omega) (Nat.zero_le _) ?_; intro v' W2 hown hgr hl2; obtain ⟨a2, c2, rfl⟩ := own_any hown; have HZ := Lib.hid (H.out.1.grow H.out.2.1 (xs := xs) (v' := .slice a2 (f.bs.length + z.size) c2) (W2 := W2) (by rw [List.length_append, ← hxs, ← byteCells_app, ← H.out.2.2.2]; exact hown) (HV.out ▸ hgr) (by rw [HV.out]; exact hl2)); obtain ⟨⟨e0, e1⟩, e2, e3⟩ := HZ.out.2.2; rw [HV.out] at e0; clear hown hgr hl2)
  go_end0
  have hz := HZ.out
  rw [hxs] at hz
  have h2 := hz.1.set 2 (.int .i64 (x.used + xs.length)) { x with fs := updF x.fs s (some ⟨f.b, .slice a2 (f.bs.length + xs.length) c2, f.bs ++ xs, f.syn⟩), used := x.used + xs.length } rfl rfl rfl rfl rfl
  exact ⟨rfl, _, h2.1, hz.2.1.trans h2.2⟩
set_option maxRecDepth 100000 in
/-- .. a file that begins. -/
theorem write_none (h : DiskAt x W) {s xs : List UInt8} (hf : x.fs s = none) (hs : s.length ≤ maxLen) (hb : xs.length ≤ 1000000000) (hn : x.n < 1000000) (hu : -1000000000000 ≤ x.used ∧ x.used ≤ 1000000000000) :
    Calls Tryz.prog 248 #[.pointer (some ⟨x.d, 0, none⟩), .string (str s), .string (str xs)] W fun e W' => e = .returned (.tuple #[]) ∧ ∃ b v, DiskAt { x with n := x.n + 1, fs := updF x.fs s (some ⟨b, v, xs, 0⟩), used := x.used + xs.length } W' ∧
      Chg x.ft (Dk.ft { x with n := x.n + 1, fs := updF x.fs s (some ⟨b, v, xs, 0⟩), used := x.used + xs.length }) W W' := by
  obtain ⟨⟨_, c1, _⟩, _⟩ := h.reads
  have hl := h.look hs
  rw [hf] at hl
  simp only [ptrF] at hl
  obtain ⟨D, ho, hat, hhas⟩ := h.own
  have hkey := key_str hs
  have hxs := str_size xs
  have hsc := strCells_str xs
  have H := Lib.hid (And.intro h (And.intro hf (And.intro ho (And.intro hat (And.intro hhas hsc)))))
  have hdl := h.lt (Or.inl rfl : x.ft x.d)
  clear h hf hs hsc ho hat hhas
  generalize str s = y at *
  generalize str xs = z at *
  have HB := Lib.hid (And.intro hb (And.intro hn hu))
  have hbz : z.size ≤ 1000000000 := by omega
  go_enter Tryz.func248, Tryz.ntmps248
  go_wp2_with (first
    | (at_mapUpdate; refine wpList_mapUpdate_own _ rfl _ _ _ 109 rfl 9 241 law Tryz.underlying109 ptrElem x.m x.n D rfl (H.out.2.2.1.alloc _) (by have := HB.out.2.1; unfold maxLen; omega) _ _ (.string s) rfl rfl hkey (.lit (.int .i64 (W.heap.size : Nat))) [] rfl ?_; intro W1 ho1 hg1; have HF := Lib.hid (H.out.1.fresh H.out.2.1 H.out.2.2.1.isMap H.out.2.2.2.1 H.out.2.2.2.2.1 ho1 hg1); have d0 : W1.cell? ⟨W.heap.size, 0, none⟩ = some (.slice none 0 0) := cell_of (HF.out.1.file s ⟨W.heap.size, .slice none 0 0, [], 0⟩ (updF_same _ _ _)).cell 0; have ⟨⟨_, e1, _⟩, _⟩ := HF.out.1.reads; simp only at e1; clear ho1 hg1)
    | (at_builtin; refine wpList_append_text (by rfl) _ _ (by rfl) 0 _ 0 [] (by rfl) ⟨rfl, Or.inl ⟨rfl, rfl⟩⟩ z (by rfl) (by omega) (Nat.zero_le _) ?_; intro v' W2 hown hgr hl2; obtain ⟨a2, c2, rfl⟩ := own_any hown; have HZ := Lib.hid (HF.out.1.grow (s := s) (updF_same _ _ _) (xs := xs) (v' := .slice a2 (0 + z.size) c2) (W2 := W2) (by rw [List.nil_append, ← hxs, ← H.out.2.2.2.2.2]; simpa using hown) hgr hl2); obtain ⟨⟨e0, e1⟩, e2, e3⟩ := HZ.out.2.2; simp only at e0 e1 e2 e3; clear hown hgr hl2))
  go_end0
  have hz := HZ.out
  rw [hxs, Nat.zero_add, List.nil_append, upd_upd] at hz
  have h2 := hz.1.set 2 (.int .i64 (x.used + xs.length)) { x with n := x.n + 1, fs := updF x.fs s (some ⟨W.heap.size, .slice a2 xs.length c2, xs, 0⟩), used := x.used + xs.length } rfl rfl rfl rfl rfl
  exact ⟨rfl, _, _, h2.1, HF.out.2.trans (hz.2.1.trans h2.2)⟩
theorem DiskAt.more (h : DiskAt x W) {n : Nat} (hn : x.n ≤ n) : DiskAt { x with n := n } W := by
  obtain ⟨D, ho, h2⟩ := h.own
  exact ⟨h.cell, ⟨D, ho.mono hn, h2⟩, h.file, h.apart⟩
theorem write_c (h : DiskAt x W) {s xs : List UInt8} (hs : s.length ≤ maxLen) (hb : (bytesF (x.fs s)).length + xs.length ≤ 1000000000) (hn : x.n < 1000000) (hu : -1000000000000 ≤ x.used ∧ x.used ≤ 1000000000000) :
    Calls Tryz.prog 248 #[.pointer (some ⟨x.d, 0, none⟩), .string (str s), .string (str xs)] W fun e W' => e = .returned (.tuple #[]) ∧ ∃ f, f.bs = bytesF (x.fs s) ++ xs ∧ f.syn = synF (x.fs s) ∧
      DiskAt { x with n := x.n + 1, fs := updF x.fs s (some f), used := x.used + xs.length } W' ∧ Chg x.ft (Dk.ft { x with n := x.n + 1, fs := updF x.fs s (some f), used := x.used + xs.length }) W W' := by
  cases hf : x.fs s with
  | none =>
    rw [hf] at hb
    refine (write_none h hf hs (by simpa [bytesF] using hb) hn hu).mono ?_
    rintro e W' ⟨rfl, b, v, h1, h2⟩
    exact ⟨rfl, ⟨b, v, xs, 0⟩, rfl, rfl, h1, h2⟩
  | some f =>
    rw [hf] at hb
    refine (write_some h hf hs hb hu).mono ?_
    rintro e W' ⟨rfl, v, h1, h2⟩
    exact ⟨rfl, ⟨f.b, v, f.bs ++ xs, f.syn⟩, rfl, rfl, h1.more (n := x.n + 1) (by simp), h2⟩
set_option maxRecDepth 100000 in
theorem secure_c (h : DiskAt x W) {s : List UInt8} {f : Fl} (hf : x.fs s = some f) (hs : s.length ≤ maxLen) :
    Calls Tryz.prog 252 #[.pointer (some ⟨x.d, 0, none⟩), .string (str s)] W fun e W' => e = .returned (.tuple #[]) ∧ DiskAt { x with fs := updF x.fs s (some ⟨f.b, f.v, f.bs, f.bs.length⟩) } W' ∧
      Chg x.ft (Dk.ft { x with fs := updF x.fs s (some ⟨f.b, f.v, f.bs, f.bs.length⟩) }) W W' := by
  obtain ⟨⟨_, c1, _⟩, _⟩ := h.reads
  have hl := h.look hs
  rw [hf] at hl
  simp only [ptrF] at hl
  obtain ⟨h1, h2⟩ := h.file s f hf
  have d0 : W.cell? ⟨f.b, 0, none⟩ = some f.v := cell_of h1 0
  have d1 : W.cell? ⟨f.b, 1, none⟩ = some (.int .i64 f.syn) := cell_of h1 1
  have z1 : W.frozen? ⟨f.b, 1, none⟩ = false := free_of h1 1
  have HT := Lib.hid (h.turn hf (f' := ⟨f.b, f.v, f.bs, f.bs.length⟩) (W2 := W.setCell ⟨f.b, 1, none⟩ (.int .i64 (f.bs.length : Nat))) rfl
    (fun k _ hk2 _ => heap_setCell_other _ _ _ _ (by simpa using hk2))
    ⟨by simpa using heap_setCell_same _ _ 1 _ _ (.int .i64 (f.bs.length : Nat)) h1, own_keep h2 fun k hk => heap_setCell_other _ _ _ _ (by simpa using h.ne.2.2 s s f f k hf hf hk)⟩
    (fun k hk => Or.inl hk) rfl rfl rfl (by simp [World.setCell]))
  obtain ⟨va, vc, hv⟩ := own_any h2
  rw [hv] at d0
  clear h hf h1 h2 hs hv
  generalize str s = y at *
  go_enter Tryz.func252, Tryz.ntmps252
  go_wp2_with fail
  go_end0
  exact ⟨rfl, HT.out⟩
end
end Go.Proofs.YtekoaheiapddiaaGreat.Dz
end
section
namespace Go.Proofs.YtekoaheiapddiaaGreat.Dz
open Go.RowKit Go.Maps Go.WideElems Go.ChangeMaps Go.MapKept Go.WideMaps

section
variable {x : Dk} {W : World}
set_option maxRecDepth 100000 in
theorem step_dead (h : DiskAt x W) (hd : x.dead = true) (vw vt : Value) : Calls Tryz.prog 250 #[.pointer (some ⟨x.d, 0, none⟩), vw, vt] W fun e W' => e = .returned (.int .i64 19) ∧ W' = W := by
  obtain ⟨⟨_, _, _, _, _, c5⟩, _⟩ := h.reads
  rw [hd] at c5
  clear h hd
  go_enter Tryz.func250, Tryz.ntmps250
  go_wp2_with fail
  go_ret
  exact ⟨rfl, rfl⟩
set_option maxRecDepth 100000 in
theorem step_crash (h : DiskAt x W) (hd : x.dead = false) (ha : x.after = 0) (vw : Value) (nt : FuncId) (caps : Array Value) (hf : ∀ w, (callFunc nt caps).run Tryz.prog w = .ok (.enter nt caps) w) (Q : World → Prop)
    (hT : ∀ W1, DiskAt { x with dead := true } W1 → Chg x.ft x.ft W W1 → Calls Tryz.prog nt caps W1 fun e W' => e = .returned (.tuple #[]) ∧ Q W') :
    Calls Tryz.prog 250 #[.pointer (some ⟨x.d, 0, none⟩), vw, .func (.func nt) #[] caps] W fun e W' => e = .returned (.int .i64 19) ∧ Q W' := by
  obtain ⟨⟨_, _, _, c3, _, c5⟩, _⟩ := h.reads
  rw [hd] at c5
  rw [ha] at c3
  have HC := Lib.hid (crash_c h)
  have HT := Lib.hid hT
  clear h hd ha hT
  go_enter Tryz.func250, Tryz.ntmps250
  go_wp2_with fail
  refine HC.out.mono ?_
  rintro e W1 ⟨rfl, h1, h2⟩
  have HT1 := Lib.hid (HT.out W1 h1 h2)
  clear h1 h2
  go_wp2_with fail
  refine HT1.out.mono ?_
  rintro e W2 ⟨rfl, hq⟩
  have HQ := Lib.hid hq
  clear hq
  go_wp2_with fail
  go_ret
  exact ⟨rfl, HQ.out⟩
set_option maxRecDepth 100000 in
theorem step_whole (h : DiskAt x W) (hd : x.dead = false) (ha : x.after ≠ 0) (hr : -9223372036854775808 ≤ x.after ∧ x.after ≤ 9223372036854775807) (vt : Value) (nt : FuncId) (caps : Array Value) (hf : ∀ w, (callFunc nt caps).run Tryz.prog w = .ok (.enter nt caps) w) (Q : Int → World → Prop)
    (hT : ∀ W1, DiskAt { x with after := if 0 < x.after then x.after - 1 else x.after } W1 → Chg x.ft x.ft W W1 → Calls Tryz.prog nt caps W1 fun e W' => ∃ r, e = .returned (.int .i64 r) ∧ Q r W') :
    Calls Tryz.prog 250 #[.pointer (some ⟨x.d, 0, none⟩), .func (.func nt) #[] caps, vt] W fun e W' => ∃ r, e = .returned (.int .i64 r) ∧ Q r W' := by
  obtain ⟨⟨_, _, _, c3, _, c5⟩, z3⟩ := h.reads
  have z3 := z3 3
  rw [hd] at c5
  by_cases hp : 0 < x.after
  · rw [if_pos hp] at hT
    have HS := Lib.hid (h.set 3 (.int .i64 (x.after - 1)) { x with after := x.after - 1 } rfl rfl rfl rfl rfl)
    have HT := Lib.hid hT
    clear h hd hT
    generalize x.after = k at *
    go_enter Tryz.func250, Tryz.ntmps250
    go_wp2_with fail
    refine (HT.out _ HS.out.1 HS.out.2).mono ?_
    rintro e W2 ⟨r, rfl, hq⟩
    have HQ := Lib.hid hq
    clear hq
    go_wp2_with fail
    go_ret
    exact ⟨_, rfl, HQ.out⟩
  · rw [if_neg hp] at hT
    have HT := Lib.hid (hT W h (Chg.refl _ _))
    have hn : x.after < 0 := by omega
    clear h hd hT ha
    generalize x.after = k at *
    go_enter Tryz.func250, Tryz.ntmps250
    go_wp2_with fail
    refine HT.out.mono ?_
    rintro e W2 ⟨r, rfl, hq⟩
    have HQ := Lib.hid hq
    clear hq
    go_wp2_with fail
    go_ret
    exact ⟨_, rfl, HQ.out⟩
end
end Go.Proofs.YtekoaheiapddiaaGreat.Dz
end
