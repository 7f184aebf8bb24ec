/- Merged: Fb, Fa, Fc, Fd, Fe, Ff, Fg, Fh, Fi, Fj, Fk, Fl, Fm, Fn, Fo, Fp, Fq, Fr, Fs, Ft, Fu, Fv, Fw. -/
import Derived.Test.YtekoaheiapddiaaGreatY08
import Derived.Maps.AppendAt
import Derived.Laws.AppendOwnNone
import Derived.Maps.Keyed
import Derived.DeepKeys4
import Derived.DataShut
import Derived.Test.YtekoaheiapddiaaGreatY06
import Derived.Test.YtekoaheiapddiaaGreatY05
import Derived.Deep.CutRange
section
namespace Go.Proofs.YtekoaheiapddiaaGreat
open Go.RowKit

def Of (B : Nat) (e : TypeId) (l : List Value) (v : Value) (W : World) : Prop :=
  (v = .slice none 0 0 ∧ l = []) ∨ ∃ g o c cur, v = .slice (some ⟨g, o, none⟩) l.length c ∧ B ≤ g ∧ W.heap[g]? = some (.cells cur e (0, 0)) ∧ l.length ≤ c ∧ c ≤ maxLen ∧ o + c ≤ cur.size ∧ ∀ j u, l[j]? = some u → cur[o + j]? = some u
section
variable {B : Nat} {e : TypeId} {l : List Value} {v : Value} {W : World}
theorem Of.keep {W' : World} (h : Of B e l v W) (hb : ∀ k, v.ownBlock = some k → W'.heap[k]? = W.heap[k]?) : Of B e l v W' := by
  rcases h with h | ⟨g, o, c, cur, rfl, h1, h2, h3⟩
  · exact Or.inl h
  · exact Or.inr ⟨g, o, c, cur, rfl, h1, (hb g rfl).trans h2, h3⟩
theorem Of.lt (h : Of B e l v W) {k : Nat} (hk : v.ownBlock = some k) : B ≤ k ∧ k < W.heap.size := by
  rcases h with ⟨rfl, _⟩ | ⟨g, o, c, cur, rfl, h1, h2, _⟩
  · cases hk
  · cases hk; exact ⟨h1, lt_of h2⟩
end
end Go.Proofs.YtekoaheiapddiaaGreat
end
section
namespace Go.Proofs.YtekoaheiapddiaaGreat
open Go.RowKit Go.Maps

instance : DecidableEq AskP := fun a b => decidable_of_iff (a.id = b.id ∧ a.addr = b.addr ∧ a.slot = b.slot ∧ a.kind = b.kind)
  ⟨fun ⟨h1, h2, h3, h4⟩ => by cases a; cases b; simp_all, fun h => by subst h; exact ⟨rfl, rfl, rfl, rfl⟩⟩
abbrev KL := List (AskP × ReplyP)
def getK : KL → AskP → Option ReplyP
  | [], _ => none
  | p :: t, a => if p.1 = a then some p.2 else getK t a
def putK : KL → AskP → ReplyP → KL
  | [], a, r => [(a, r)]
  | p :: t, a, r => if p.1 = a then (a, r) :: t else p :: putK t a r
/-- In K each ask stands once, and may be a key. -/
def AskP.Key (a : AskP) : Prop := a.Wf ∧ a.Ok ∧ a.id = 0
structure KOk (K : KL) : Prop where
  nd : (K.map (·.1)).Nodup
  key : ∀ p ∈ K, p.1.Key ∧ p.2.Wf ∧ p.2.Ok p.1.kind ∧ p.2.id = 0
theorem word_lim_inj {m n : Nat} (hm : m < W256) (hn : n < W256) (h0 : l0 m = l0 n) (h1 : l1 m = l1 n) (h2 : l2 m = l2 n) (h3 : l3 m = l3 n) : m = n := by
  have e1 := (dig_of hm).eq
  have e2 := (dig_of hn).eq
  rw [h0, h1, h2, h3] at e1
  omega
theorem laidOutF : laidOutB Tryz.prog = true := by kernel_rfl
theorem cellsOfWord : Tryz.prog.cellsOf 61 = 4 := by kernel_rfl
theorem cellsOfU64 : Tryz.prog.cellsOf 41 = 1 := by kernel_rfl
theorem typesMore : ∃ m, Tryz.prog.types.size = m + 2 := ⟨Tryz.prog.types.size - 2, by have h : 2 ≤ Tryz.prog.types.size := of_decide_eq_true (by kernel_rfl); omega⟩
theorem u64_wf {n : Nat} (h : n < M64) : (Lit.int .u64 (n : Int)).wf = true := by
  unfold M64 at h
  rw [Lit.wf_int_iff]
  have h1 : IntKind.u64.min = 0 := rfl
  have h2 : IntKind.u64.max = 18446744073709551615 := rfl
  rw [h1, h2]
  omega
theorem l_lt {n : Nat} (h : n < W256) : l0 n < M64 ∧ l1 n < M64 ∧ l2 n < M64 ∧ l3 n < M64 := by
  have d := dig_of h
  exact ⟨d.h0, d.h1, d.h2, d.h3⟩
theorem key_u64 (m : Nat) {n : Nat} (h : (Lit.int .u64 (n : Int)).wf = true) : Tryz.prog.keyLits (m + 1) 41 [.int .u64 (n : Nat)] = some [.int .u64 (n : Nat)] := by
  simp [Program.keyLits, Tryz.underlying41, h]
theorem key_word4 (m : Nat) {a b c d : Nat} (ha : (Lit.int .u64 (a : Int)).wf = true) (hb : (Lit.int .u64 (b : Int)).wf = true) (hc : (Lit.int .u64 (c : Int)).wf = true) (hd : (Lit.int .u64 (d : Int)).wf = true) :
    Tryz.prog.keyLits (m + 2) 61 [.int .u64 (a : Nat), .int .u64 (b : Nat), .int .u64 (c : Nat), .int .u64 (d : Nat)] = some [.int .u64 (a : Nat), .int .u64 (b : Nat), .int .u64 (c : Nat), .int .u64 (d : Nat)] := by
  unfold Program.keyLits
  simp only [Tryz.underlying61, cellsOfWord]
  rw [if_pos ⟨by rfl, by kernel_rfl⟩]
  simp only [List.mapM_cons, List.mapM_nil, cellsOfU64, List.drop, List.take, key_u64 m ha, key_u64 m hb, key_u64 m hc, key_u64 m hd]
  rfl
/-- The map at block m holds K, in order. -/
def MapIs (m : Nat) (K : KL) (W : World) : Prop := ∃ es clock, W.heap[m]? = some (.map es clock) ∧ es.toList.map (fun x => (x.key, x.val)) = K.map (fun p => (askV p.1, replyV p.2))
section
variable {m : Nat} {K : KL} {W : World}
theorem MapIs.lt (h : MapIs m K W) : m < W.heap.size := by obtain ⟨es, c, h, _⟩ := h; exact lt_of h
theorem MapIs.keep {W' : World} (h : MapIs m K W) (hb : W'.heap[m]? = W.heap[m]?) : MapIs m K W' := by obtain ⟨es, c, h, h2⟩ := h; exact ⟨es, c, hb.trans h, h2⟩
theorem setBlock_other {o : Obj} {k : Nat} (hk : k ≠ m) : (ChangeMaps.setBlock W m o).heap[k]? = W.heap[k]? := by
  simp [ChangeMaps.setBlock, Array.getElem?_setIfInBounds_ne (Ne.symm hk)]
theorem setBlock_size {o : Obj} : (ChangeMaps.setBlock W m o).heap.size = W.heap.size := by simp [ChangeMaps.setBlock]
end
end Go.Proofs.YtekoaheiapddiaaGreat
end
section
namespace Go.Proofs.YtekoaheiapddiaaGreat.Dz
open Go.RowKit

theorem askIs_ex (s : List UInt8) : ∃ o, AskIs s o := by
  by_cases h : ∃ a : AskP, a.Wf ∧ a.Ok ∧ a.enc = s
  · obtain ⟨a, h⟩ := h; exact ⟨some a, h⟩
  · exact ⟨none, fun a h1 h2 h3 => h ⟨a, h1, h2, h3⟩⟩
theorem replyIs_ex (kind : Int) (s : List UInt8) : ∃ o, ReplyIs kind s o := by
  by_cases h : ∃ r : ReplyP, r.Wf ∧ r.Ok kind ∧ r.enc kind = s
  · obtain ⟨a, h⟩ := h; exact ⟨some a, h⟩
  · exact ⟨none, fun a h1 h2 h3 => h ⟨a, h1, h2, h3⟩⟩
noncomputable def getA (s : List UInt8) : Option AskP := Classical.choose (askIs_ex s)
noncomputable def getR (kind : Int) (s : List UInt8) : Option ReplyP := Classical.choose (replyIs_ex kind s)
noncomputable def pairV (t1 t2 : List UInt8) : Option (AskP × ReplyP) :=
  match getA t1 with
  | none => none
  | some a => match getR a.kind t2 with
    | none => none
    | some r => if a.id = 0 ∧ r.id = 0 then some (a, r) else none
/-- The item that stands in a cache. -/
def recF (a : AskP) (r : ReplyP) : Fo := .text a.enc (.text (r.enc a.kind) .nil)
def recE (a : AskP) (r : ReplyP) : List UInt8 := (It.list (recF a r)).enc
/-- A client: what it knows, what will come, what it asked. -/
structure Cl where
  known : KL
  script : List (List UInt8)
  asked : List (List UInt8)
noncomputable def Cl.tries (a : AskP) : Nat → Cl → Option ReplyP × Cl
  | 0, c => (none, c)
  | n + 1, c =>
    match getR a.kind (c.script.headD []) with
    | none => Cl.tries a n ⟨c.known, c.script.tail, c.asked ++ [({ a with id := c.asked.length + 1 } : AskP).enc]⟩
    | some r => if r.id = c.asked.length + 1 then (some { r with id := 0 }, ⟨c.known, c.script.tail, c.asked ++ [({ a with id := c.asked.length + 1 } : AskP).enc]⟩)
      else Cl.tries a n ⟨c.known, c.script.tail, c.asked ++ [({ a with id := c.asked.length + 1 } : AskP).enc]⟩
/-- What is told of an ask that is not known: the reply, the error; the disk, the client. -/
noncomputable def learnP (name : List UInt8) (p : Pd) (c : Cl) (a : AskP) : (ReplyP × Int) × Pd × Cl :=
  match c.tries a 3 with
  | (none, c1) => ((ReplyP.zero, 4), p, c1)
  | (some r, c1) => if (p.add name (recE a r)).1 = 0 then ((r, 0), (p.add name (recE a r)).2, { c1 with known := putK c1.known a r })
    else ((ReplyP.zero, (p.add name (recE a r)).1), (p.add name (recE a r)).2, c1)
noncomputable def askP (name : List UInt8) (p : Pd) (c : Cl) (a : AskP) : (ReplyP × Int) × Pd × Cl :=
  if a.addr.length ≠ 20 then ((ReplyP.zero, 1), p, c) else match getK c.known a with
  | some r => ((r, 0), p, c)
  | none => learnP name p c a
end Go.Proofs.YtekoaheiapddiaaGreat.Dz
end
section
namespace Go.Proofs.YtekoaheiapddiaaGreat.Dz
open Go.RowKit

/-- A client: its block, its map's, its script's row, its asks' row. -/
def ftC (b m : Nat) (sv av : Value) (k : Nat) : Prop := k = b ∨ k = m ∨ sv.ownBlock = some k ∨ av.ownBlock = some k
def cellsC (d m : Nat) (name : Nm) (sv av : Value) : Array Value := #[.pointer (some ⟨d, 0, none⟩), .string (str name), .map (some m), sv, av]
structure CAt (c : Cl) (name : Nm) (d b m : Nat) (sv av : Value) (W : World) : Prop where
  cell : W.heap[b]? = some (.cells (cellsC d m name sv av) 114 (0, 0))
  map : MapIs m c.known W
  scr : Of 0 9 (c.script.map encS) sv W
  ask : OwnS 0 c.asked av W
  ap : ∀ k, sv.ownBlock = some k → av.ownBlock ≠ some k
  ok : KOk c.known
section
variable {c : Cl} {name : Nm} {d b m : Nat} {sv av : Value} {W : World}
theorem CAt.lt (h : CAt c name d b m sv av W) {k : Nat} (hk : ftC b m sv av k) : k < W.heap.size := by
  rcases hk with rfl | rfl | hk | hk
  · exact lt_of h.cell
  · exact h.map.lt
  · exact (h.scr.lt hk).2
  · exact (h.ask.lt hk).2
theorem CAt.kept {W' : World} (h : CAt c name d b m sv av W) (hk : ∀ k, ftC b m sv av k → W'.heap[k]? = W.heap[k]?) : CAt c name d b m sv av W' :=
  ⟨(hk _ (Or.inl rfl)).trans h.cell, h.map.keep (hk _ (Or.inr (Or.inl rfl))), h.scr.keep fun k e => hk k (Or.inr (Or.inr (Or.inl e))), own_keep h.ask fun k e => hk k (Or.inr (Or.inr (Or.inr e))), h.ap, h.ok⟩
theorem chg_set {F F' : Nat → Prop} {W1 : World} (h : Chg F F' W W1) {q : Nat} (hq : F q ∨ W.heap.size ≤ q) (j : Nat) (u : Value) : Chg F F' W (W1.setCell ⟨q, j, none⟩ u) :=
  ⟨h.os, h.tape, h.output, by simpa [World.setCell] using h.size, fun k hk hn => (heap_setCell_other _ _ _ _ (by rcases hq with hq | hq; exact fun e => hn (by simp at e; rw [e]; exact hq); intro e; simp at e; omega)).trans (h.block k hk hn), h.new⟩
end
end Go.Proofs.YtekoaheiapddiaaGreat.Dz
end
section
namespace Go.Proofs.YtekoaheiapddiaaGreat.Dz
open Go.RowKit

structure Bo (p : Pd) (c : Cl) (name : Nm) (d N : Nat) (F : Nat → Prop) (b m : Nat) (sv av : Value) (W : World) : Prop where
  on : On p d N F W
  at' : CAt c name d b m sv av W
  ap : ∀ k, F k → ¬ ftC b m sv av k
/-- All that is theirs. -/
def ftB (F : Nat → Prop) (b m : Nat) (sv av : Value) (k : Nat) : Prop := F k ∨ ftC b m sv av k
section
variable {p : Pd} {c : Cl} {name : Nm} {d N : Nat} {F F0 : Nat → Prop} {b m : Nat} {sv av : Value} {W V : World}
theorem Bo.lt (h : Bo p c name d N F b m sv av W) {k : Nat} (hk : ftB F b m sv av k) : k < W.heap.size := hk.elim (fun h1 => h.on.lt h1) (fun h1 => h.at'.lt h1)
theorem Bo.kept {W' : World} (h : Bo p c name d N F b m sv av W) (hk : ∀ k, ftB F b m sv av k → W'.heap[k]? = W.heap[k]?) : Bo p c name d N F b m sv av W' :=
  ⟨h.on.kept fun k h1 => hk k (Or.inl h1), h.at'.kept fun k h1 => hk k (Or.inr h1), h.ap⟩
theorem Bo.mono {M : Nat} (h : Bo p c name d N F b m sv av W) (hM : N ≤ M) : Bo p c name d M F b m sv av W := ⟨h.on.mono hM, h.at', h.ap⟩
end
/-- What a call of a client leaves. -/
def Gone (r : Pd × Cl) (name : Nm) (d N b m : Nat) (F0 : Nat → Prop) (W W' : World) : Prop := ∃ F' sv' av', Bo r.1 r.2 name d N F' b m sv' av' W' ∧ Chg F0 (ftB F' b m sv' av') W W'
end Go.Proofs.YtekoaheiapddiaaGreat.Dz
end
section
namespace Go.Proofs.YtekoaheiapddiaaGreat.Dz
open Go.RowKit

def accC (r : ReplyP) : Array Value := #[.int .u64 r.nonce, .int .u64 (l3 r.bal : Nat), .int .u64 (l2 r.bal : Nat), .int .u64 (l1 r.bal : Nat), .int .u64 (l0 r.bal : Nat), .string (str r.code)]
def valC (r : ReplyP) : Array Value := #[.int .u64 (l3 r.value : Nat), .int .u64 (l2 r.value : Nat), .int .u64 (l1 r.value : Nat), .int .u64 (l0 r.value : Nat)]
theorem set6 {w : World} {b : Nat} {v0 v1 v2 v3 v4 v5 : Value} {t : TypeId} (h : w.heap[b]? = some (.cells #[v0, v1, v2, v3, v4, v5] t (0, 0))) (u0 u1 u2 u3 u4 u5 : Value) :
    ((((((w.setCell ⟨b, 0, none⟩ u0).setCell ⟨b, 1, none⟩ u1).setCell ⟨b, 2, none⟩ u2).setCell ⟨b, 3, none⟩ u3).setCell ⟨b, 4, none⟩ u4).setCell ⟨b, 5, none⟩ u5).heap[b]? = some (.cells #[u0, u1, u2, u3, u4, u5] t (0, 0)) := by
  have e := heap_setCell_same _ _ 5 _ _ u5 (heap_setCell_same _ _ 4 _ _ u4 (heap_setCell_same _ _ 3 _ _ u3 (heap_setCell_same _ _ 2 _ _ u2 (heap_setCell_same _ _ 1 _ _ u1 (heap_setCell_same _ _ 0 _ _ u0 h)))))
  simpa using e
theorem chg_set6 (V : World) (q : Nat) (u0 u1 u2 u3 u4 u5 : Value) : Chg (fun k => k = q) (fun k => k = q) V ((((((V.setCell ⟨q, 0, none⟩ u0).setCell ⟨q, 1, none⟩ u1).setCell ⟨q, 2, none⟩ u2).setCell ⟨q, 3, none⟩ u3).setCell ⟨q, 4, none⟩ u4).setCell ⟨q, 5, none⟩ u5) :=
  have s : ∀ {W1 : World}, Chg (fun k => k = q) (fun k => k = q) V W1 → ∀ j u, Chg (fun k => k = q) (fun k => k = q) V (W1.setCell ⟨q, j, none⟩ u) := fun h j u => chg_set (F := fun k => k = q) (F' := fun k => k = q) h (Or.inl rfl) j u
  s (s (s (s (s (s (Chg.refl _ V) 0 _) 1 _) 2 _) 3 _) 4 _) 5 _
end Go.Proofs.YtekoaheiapddiaaGreat.Dz
end
section
namespace Go.Proofs.YtekoaheiapddiaaGreat.Dz
open Go.RowKit
namespace acc
abbrev tO : Obj := .cells #[.int .u64 0, .int .u64 0, .int .u64 0, .int .u64 0, .int .u64 0, .string ⟨#[]⟩] 82 (0, 0)
end acc
end Go.Proofs.YtekoaheiapddiaaGreat.Dz
end
section
namespace Go.Proofs.YtekoaheiapddiaaGreat.Dz
open Go.RowKit
/-- Amid a call that began in W and turns nothing of what was there: boxes. -/
structure Bl (W : World) (L : List (Nat × Obj)) (V : World) : Prop where
  below : Below W.heap.size W V
  box : ∀ x ∈ L, V.heap[x.1]? = some x.2 ∧ W.heap.size ≤ x.1
section
variable {W V V' : World} {L : List (Nat × Obj)} {q : Nat} {o o' : Obj}
theorem Bl.start (W : World) : Bl W [] W := ⟨Below.refl _ _, by simp⟩
theorem Bl.call (h : Bl W L V) (hb : Below V.heap.size V V') : Bl W L V' :=
  ⟨h.below.trans (hb.mono h.below.size), fun x hx => ⟨(hb.block _ (lt_of (h.box x hx).1)).trans (h.box x hx).1, (h.box x hx).2⟩⟩
theorem Bl.more (h : Bl W L V) (hq : V.heap[q]? = some o) (hs : W.heap.size ≤ q) : Bl W ((q, o) :: L) V :=
  ⟨h.below, fun x hx => by
    rcases List.mem_cons.1 hx with rfl | hx
    · exact ⟨hq, hs⟩
    · exact h.box x hx⟩
theorem Bl.alloc (h : Bl W L V) (o : Obj) : Bl W ((V.heap.size, o) :: L) (V.alloc o) :=
  (h.call ((Below.refl _ _).alloc (Nat.le_refl _) o)).more (heap_alloc_new _ _) h.below.size
theorem Bl.at (h : Bl W L V) (hm : (q, o) ∈ L) : V.heap[q]? = some o := (h.box (q, o) hm).1
end
theorem chg_set7 (V : World) (q : Nat) (u0 u1 u2 u3 u4 u5 u6 : Value) : Chg (fun k => k = q) (fun k => k = q) V (((((((V.setCell ⟨q, 0, none⟩ u0).setCell ⟨q, 1, none⟩ u1).setCell ⟨q, 2, none⟩ u2).setCell ⟨q, 3, none⟩ u3).setCell ⟨q, 4, none⟩ u4).setCell ⟨q, 5, none⟩ u5).setCell ⟨q, 6, none⟩ u6) :=
  have s : ∀ {W1 : World}, Chg (fun k => k = q) (fun k => k = q) V W1 → ∀ j u, Chg (fun k => k = q) (fun k => k = q) V (W1.setCell ⟨q, j, none⟩ u) := fun h j u => chg_set (F := fun k => k = q) (F' := fun k => k = q) h (Or.inl rfl) j u
  s (s (s (s (s (s (s (Chg.refl _ V) 0 _) 1 _) 2 _) 3 _) 4 _) 5 _) 6 _
end Go.Proofs.YtekoaheiapddiaaGreat.Dz
end
section
namespace Go.Proofs.YtekoaheiapddiaaGreat.Dz
open Go.RowKit

def nmC : Nm := [99]
end Go.Proofs.YtekoaheiapddiaaGreat.Dz
end
section
namespace Go.Proofs.YtekoaheiapddiaaGreat.Dz
open Go.RowKit
set_option maxRecDepth 100000 in
theorem eq_acc (r : ReplyP) (w : World) : (binOp .eql 82 (.agg (accC r)) (.agg (accC r))).run Tryz.prog w = .ok (.bool true) w := by
  have u3 := Tryz.underlying41
  have a3' := Tryz.isAgg41
  have z3 := Tryz.sizeOf41
  have u9 := Tryz.underlying9
  have a9 := Tryz.isAgg9
  have z9 := Tryz.sizeOf9
  have uW := Tryz.underlying61
  have aW := Tryz.isAgg61
  have zW := Tryz.sizeOf61
  have hS : Tryz.prog.underlying 82 = some (.struct (Tryz.prog.fieldsOf 82)) := by kernel_rfl
  have hp : Tryz.prog.stoodInHeld 82 = false := by kernel_rfl
  have hSA : Tryz.prog.underlying 82 = some (.struct (Tryz.prog.fieldsOf 82)) := by kernel_rfl
  have hpA : Tryz.prog.stoodInHeld 82 = false := by kernel_rfl
  have hSW : Tryz.prog.underlying 61 = some (.struct (Tryz.prog.fieldsOf 61)) := by kernel_rfl
  have hpW : Tryz.prog.stoodInHeld 61 = false := by kernel_rfl
  unfold accC
  rw [run_eql_struct, show (10000 : Nat) = 9999 + 1 from rfl, run_equalIn_agg w 9999 82 _ _ hS hp]
  simp only [Program.fieldsOf, Tryz.underlying82]
  go_simp
end Go.Proofs.YtekoaheiapddiaaGreat.Dz
end
