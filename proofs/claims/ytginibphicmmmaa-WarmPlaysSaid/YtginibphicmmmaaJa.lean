/- What was touched: plain data, and the kinds of the maps that hold it. -/
import Derived.Test.YtginibphicmmmaaChecked
import Derived.Test.YtginibphicmmmaaBase
import Derived.Test.YtginibphicmmmaaSt
import Derived.Test.YtginibphicmmmaaMa
import Derived.Maps.AppendAt
import Derived.OwnWalk
import Derived.StillTailTactics
import Derived.DeepKeys4
import Derived.DataShut
import Derived.StringKeys
namespace Go.Proofs.Ytginibphicmmmaa
open Go.RowKit Go.Maps Go.WideMaps Mp

theorem str_list (l : List UInt8) : (str l).data.toList = l := by simp [str]
theorem str_of (s : ByteArray) : str s.data.toList = s := by cases s; simp [str]
abbrev Nm := List UInt8

/-- From w to w' a call has turned nothing but blocks of F, and new ones; F' is what it may turn then. -/
structure Chg (F F' : Nat → Prop) (w w' : World) : Prop where
  os : w'.os = w.os
  tape : w'.tape = w.tape
  output : w'.output = w.output
  size : w.heap.size ≤ w'.heap.size
  block : ∀ k, k < w.heap.size → ¬ F k → w'.heap[k]? = w.heap[k]?
  new : ∀ k, F' k → F k ∨ w.heap.size ≤ k
theorem Chg.refl (F : Nat → Prop) (w : World) : Chg F F w w := ⟨rfl, rfl, rfl, Nat.le_refl _, fun _ _ _ => rfl, fun _ h => Or.inl h⟩
theorem Chg.trans {F F' F'' : Nat → Prop} {a b c : World} (h : Chg F F' a b) (k : Chg F' F'' b c) : Chg F F'' a c :=
  ⟨k.os.trans h.os, k.tape.trans h.tape, k.output.trans h.output, Nat.le_trans h.size k.size,
    fun i hi hn => (k.block i (Nat.lt_of_lt_of_le hi h.size) (fun hf => (h.new i hf).elim hn (by omega))).trans (h.block i hi hn),
    fun i hi => (k.new i hi).elim (fun hf => h.new i hf) (fun h2 => Or.inr (Nat.le_trans h.size h2))⟩
theorem Chg.undrew {F F' : Nat → Prop} {w w' : World} (h : Chg F F' w.drew w') : Chg F F' w w' := ⟨h.os, h.tape, h.output, h.size, h.block, h.new⟩
theorem Chg.below {F : Nat → Prop} {w w' : World} (h : Chg (fun _ => False) F w w') : Below w.heap.size w w' :=
  ⟨h.os, h.tape, h.output, h.size, fun k hk => h.block k hk (fun h => h)⟩
theorem Chg.of_below {F : Nat → Prop} {w w' : World} (h : Below w.heap.size w w') : Chg F F w w' :=
  ⟨h.os, h.tape, h.output, h.size, fun k hk _ => h.block k hk, fun _ h => Or.inl h⟩
theorem Chg.mono {F G F' G' : Nat → Prop} {w w' : World} (h : Chg F F' w w') (h1 : ∀ k, F k → G k) (h2 : ∀ k, G' k → F' k ∨ G k) : Chg G G' w w' :=
  ⟨h.os, h.tape, h.output, h.size, fun k hk hn => h.block k hk (fun hf => hn (h1 k hf)), fun k hk => (h2 k hk).elim (fun hf => (h.new k hf).imp (h1 k) id) Or.inl⟩
theorem chg_set {F F' : Nat → Prop} {W W1 : World} (h : Chg F F' W W1) {q : Nat} (hq : F q ∨ W.heap.size ≤ q) (j : Nat) (u : Value) : Chg F F' W (W1.setCell ⟨q, j, none⟩ u) :=
  ⟨h.os, h.tape, h.output, by simpa [World.setCell] using h.size, fun k hk hn => (heap_setCell_other _ _ _ _ (by rcases hq with hq | hq; exact fun e => hn (by simp at e; rw [e]; exact hq); intro e; simp at e; omega)).trans (h.block k hk hn), h.new⟩

theorem own_keep {w w' : World} {B z : Nat} {e : TypeId} {v : Value} {n : Nat} {xs : List Value} (h : w.ownsRow B e z v n xs) (hb : ∀ k, v.ownBlock = some k → w'.heap[k]? = w.heap[k]?) : w'.ownsRow B e z v n xs := by
  refine ⟨h.1, ?_⟩
  rcases h.2 with h0 | ⟨g, cap, cur, rfl, hbg, hg, rest⟩
  · exact Or.inl h0
  · exact Or.inr ⟨g, cap, cur, rfl, hbg, (hb g rfl).trans hg, rest⟩
theorem own_any {w : World} {B z : Nat} {e : TypeId} {v : Value} {n : Nat} {xs : List Value} (h : w.ownsRow B e z v n xs) : ∃ a c, v = .slice a n c := by
  rcases h.2 with ⟨rfl, rfl⟩ | ⟨g, cap, cur, rfl, _⟩
  · exact ⟨_, _, rfl⟩
  · exact ⟨_, _, rfl⟩
theorem own_block {w : World} {B z : Nat} {e : TypeId} {v : Value} {n : Nat} {xs : List Value} (h : w.ownsRow B e z v n xs) {k : Nat} (hk : v.ownBlock = some k) : ∃ cs, w.heap[k]? = some (.cells cs e (0, 0)) := by
  rcases h.2 with ⟨rfl, _⟩ | ⟨g, cap, cur, rfl, _, hg, _⟩
  · cases hk
  · cases hk; exact ⟨_, hg⟩

/-- I holds in W, and in every world that has the blocks ft as W has them. -/
structure Ob (I : World → Prop) (ft : Nat → Prop) (W : World) : Prop where
  it : I W
  lt : ∀ k, ft k → k < W.heap.size
  keep : ∀ V, (∀ k, ft k → V.heap[k]? = W.heap[k]?) → I V
/-- Amid a call that began in W: what is owned; boxes of the call's own. -/
structure An (I : World → Prop) (ft : Nat → Prop) (W : World) (F0 : Nat → Prop) (L : List (Nat × Obj)) (V : World) : Prop where
  ob : Ob I ft V
  chg : Chg F0 ft W V
  box : ∀ x ∈ L, V.heap[x.1]? = some x.2 ∧ W.heap.size ≤ x.1 ∧ ¬ ft x.1
section
variable {I I' J : World → Prop} {ft ft' gt F0 : Nat → Prop} {W V V' : World} {L : List (Nat × Obj)}
theorem Ob.kept (h : Ob I ft W) (hk : ∀ k, ft k → V.heap[k]? = W.heap[k]?) : Ob I ft V := by
  refine ⟨h.keep V hk, fun k h1 => ?_, fun U hU => h.keep U fun k h1 => (hU k h1).trans (hk k h1)⟩
  have h2 := hk k h1
  rw [Array.getElem?_eq_getElem (h.lt k h1)] at h2
  exact (Array.getElem?_eq_some_iff.1 h2).1
theorem Ob.below (h : Ob I ft W) (hb : Below W.heap.size W V) : Ob I ft V := h.kept fun k hk => hb.block k (h.lt k hk)
theorem Ob.chg {F F' : Nat → Prop} (h : Ob I ft W) (hc : Chg F F' W V) (hd : ∀ k, ft k → ¬ F k) : Ob I ft V := h.kept fun k hk => hc.block k (h.lt k hk) (hd k hk)
theorem An.start (h : Ob I ft W) : An I ft W ft [] W := ⟨h, Chg.refl _ _, by simp⟩
theorem An.step (h : An I ft W F0 L V) (h1 : Ob I' ft' V') (h2 : Chg ft ft' V V') : An I' ft' W F0 L V' :=
  ⟨h1, h.chg.trans h2, fun x hx => ⟨(h2.block _ (lt_of (h.box x hx).1) (h.box x hx).2.2).trans (h.box x hx).1, (h.box x hx).2.1, fun h3 => by
    rcases h2.new _ h3 with h4 | h4
    · exact (h.box x hx).2.2 h4
    · have := lt_of (h.box x hx).1; omega⟩⟩
theorem An.call (h : An I ft W F0 L V) (hb : Below V.heap.size V V') : An I ft W F0 L V' := h.step (h.ob.below hb) (Chg.of_below hb)
theorem An.alloc (h : An I ft W F0 L V) (o : Obj) : An I ft W F0 ((V.heap.size, o) :: L) (V.alloc o) := by
  have h1 := h.call ((Below.refl _ _).alloc (Nat.le_refl _) o)
  refine ⟨h1.ob, h1.chg, fun x hx => ?_⟩
  rcases List.mem_cons.1 hx with rfl | hx
  · exact ⟨heap_alloc_new _ _, h.chg.size, fun hk => by have := h.ob.lt _ hk; simp at this⟩
  · exact h1.box x hx
theorem An.sub {L' : List (Nat × Obj)} (h : An I ft W F0 L V) (hs : ∀ x ∈ L', x ∈ L) : An I ft W F0 L' V := ⟨h.ob, h.chg, fun x hx => h.box x (hs x hx)⟩
theorem An.put {q : Nat} {o o' : Obj} (h : An I ft W F0 ((q, o) :: L) V) (hc : Chg (fun k => k = q) (fun k => k = q) V V') (ho : V'.heap[q]? = some o') (hL : ∀ x ∈ L, x.1 ≠ q) : An I ft W F0 ((q, o') :: L) V' := by
  obtain ⟨_, h2, h3⟩ := h.box (q, o) (by simp)
  have hk : ∀ k, k < V.heap.size → k ≠ q → V'.heap[k]? = V.heap[k]? := fun k h1 h2 => hc.block k h1 h2
  refine ⟨h.ob.kept fun k hk' => hk k (h.ob.lt k hk') fun e => h3 (by rw [← e]; exact hk'), ⟨hc.os.trans h.chg.os, hc.tape.trans h.chg.tape, hc.output.trans h.chg.output, Nat.le_trans h.chg.size hc.size, fun k h1 h4 => (hk k (Nat.lt_of_lt_of_le h1 h.chg.size) (by simp only at h2; omega)).trans (h.chg.block k h1 h4), h.chg.new⟩, fun x hx => ?_⟩
  rcases List.mem_cons.1 hx with rfl | hx
  · exact ⟨ho, h2, h3⟩
  · have h4 := h.box x (by simp [hx])
    exact ⟨(hk _ (lt_of h4.1) (hL x hx)).trans h4.1, h4.2⟩
theorem An.at (h : An I ft W F0 L V) {q : Nat} {o : Obj} (hm : (q, o) ∈ L) : V.heap[q]? = some o := (h.box (q, o) hm).1
end
theorem setBlock_other {W : World} {m : Nat} {o : Obj} {k : Nat} (hk : k ≠ m) : (ChangeMaps.setBlock W m o).heap[k]? = W.heap[k]? := by
  simp [ChangeMaps.setBlock, Array.getElem?_setIfInBounds_ne (Ne.symm hk)]
theorem setBlock_size {W : World} {m : Nat} {o : Obj} : (ChangeMaps.setBlock W m o).heap.size = W.heap.size := by simp [ChangeMaps.setBlock]
theorem setBlock_chg {W : World} {m : Nat} {o : Obj} {F' : Nat → Prop} (hF : ∀ k, F' k → k = m ∨ W.heap.size ≤ k) : Chg (fun j => j = m) F' W (ChangeMaps.setBlock W m o) :=
  ⟨rfl, rfl, rfl, by rw [setBlock_size]; exact Nat.le_refl _, fun k _ hk => setBlock_other hk, fun k hk => hF k hk⟩

/-! Words, places, logs, changes. -/
structure Wq where
  a : Nat
  b : Nat
  c : Nat
  d : Nat
deriving DecidableEq
def Wq.zero : Wq := ⟨0, 0, 0, 0⟩
structure Wq.Ok (k : Wq) : Prop where
  a : k.a < M64
  b : k.b < M64
  c : k.c < M64
  d : k.d < M64
theorem Wq.zero_ok : Wq.zero.Ok := ⟨by decide, by decide, by decide, by decide⟩
def wqC (k : Wq) : Array Value := #[.int .u64 (k.a : Nat), .int .u64 (k.b : Nat), .int .u64 (k.c : Nat), .int .u64 (k.d : Nat)]
/-- What may be warm: an address, or a slot of it. -/
structure Pl where
  addr : Nm
  whole : Bool
  slot : Wq
deriving DecidableEq
structure LogP where
  addr : Nm
  tops : List Wq
  data : Nm
deriving DecidableEq
/-- The changes. -/
inductive Cg where
  | addr (a : Nm)
  | slot (a : Nm) (k : Wq)
  | made (a : Nm)
  | refund (n : Int)
  | log (l : LogP)
  | gone (a : Nm)
deriving DecidableEq
def plOf : Cg → Option Pl
  | .addr a => some ⟨a, true, Wq.zero⟩
  | .slot a k => some ⟨a, false, k⟩
  | _ => none
def mdOf : Cg → Option Nm
  | .made a => some a
  | _ => none
def gnOf : Cg → Option Nm
  | .gone a => some a
  | _ => none
/-- Wraps round, signed. -/
abbrev w64 (n : Int) : Int := wrap64 n
/-- The newest first. -/
def tot : List Cg → Int
  | [] => 0
  | .refund n :: L => w64 (tot L + n)
  | _ :: L => tot L
def logsOf : List Cg → List LogP
  | [] => []
  | .log l :: L => logsOf L ++ [l]
  | _ :: L => logsOf L
/-- What of a kind there is among the changes. -/
def hasBy {K : Type} [DecidableEq K] (g : Cg → Option K) (L : List Cg) (k : K) : Option Unit := if L.any (fun c => decide (g c = some k)) then some () else none
section
variable {K : Type} [DecidableEq K] {g : Cg → Option K} {L : List Cg} {k : K} {c : Cg}
theorem hasBy_none (h : g c = none) : hasBy g (c :: L) = hasBy g L := by
  funext j
  simp [hasBy, h]
theorem hasBy_some (h : g c = some k) : hasBy g (c :: L) = upf (hasBy g L) k (some ()) := by
  funext j
  unfold upf hasBy
  by_cases e : j = k
  · simp [e, h]
  · have : ¬ k = j := fun h => e h.symm
    simp [e, h, this]
theorem hasBy_undo (h : g c = some k) (hn : hasBy g L k = none) : upf (hasBy g (c :: L)) k none = hasBy g L := by
  rw [hasBy_some h]
  funext j
  by_cases e : j = k
  · rw [e, upf_same, hn]
  · rw [upf_other _ _ e, upf_other _ _ e]
theorem hasBy_nil : hasBy g [] = fun _ => none := by funext j; simp [hasBy]
theorem hasBy_mem : (hasBy g L k).isSome = true ↔ ∃ c ∈ L, g c = some k := by
  unfold hasBy
  by_cases h : L.any (fun c => decide (g c = some k)) = true
  · rw [if_pos h]
    simpa using h
  · rw [if_neg h]
    simpa using h
end
/-- Each touch is of what was not there. -/
def Once : List Cg → Prop
  | [] => True
  | c :: L => (∀ k, plOf c = some k → hasBy plOf L k = none) ∧ (∀ k, mdOf c = some k → hasBy mdOf L k = none) ∧ (∀ k, gnOf c = some k → hasBy gnOf L k = none) ∧ Once L
theorem Once.drop : ∀ {k : Nat} {L : List Cg}, Once L → Once (L.drop k)
  | 0, _, h => h
  | _ + 1, [], h => h
  | k + 1, _ :: L, h => Once.drop (k := k) (L := L) h.2.2.2
def Wq.cells (k : Wq) : List Value := [.int .u64 (k.a : Nat), .int .u64 (k.b : Nat), .int .u64 (k.c : Nat), .int .u64 (k.d : Nat)]
def plC (p : Pl) : Array Value := #[.string (str p.addr), .bool p.whole, .int .u64 (p.slot.a : Nat), .int .u64 (p.slot.b : Nat), .int .u64 (p.slot.c : Nat), .int .u64 (p.slot.d : Nat)]
/-! The maps' kinds. -/
theorem key_str {s : Nm} (hs : s.length ≤ maxLen) : keyOf Try.prog 9 (.string (str s)) = some (.string s) := by
  have h := keyOf_string_mk (P := Try.prog) (k := 9) Try.underlying9 (s := str s) (by rw [str_size]; exact hs)
  rwa [str_list] at h
def big : Nat := 281474976710656
noncomputable def kitS : Kit Try.prog Nm Unit where
  mt := 61
  kt := 9
  vt := 69
  ek k := .string (str k)
  ev _ := .agg #[]
  lit k := .string k
  Ok k := k.length ≤ big
  z := .agg #[]
  hu := Try.underlying61
  law := string_keyed Try.underlying9
  key {k} h := key_str (by have : k.length ≤ 281474976710656 := h; unfold maxLen; omega)
  inj h1 h2 h := by cases h; rfl
  zero := fun _ => by kernel_rfl
theorem laidOutF : laidOutB Try.prog = true := by kernel_rfl
theorem plWide : (match Try.prog.underlying 75 with | some (.array _ _) | some (.struct _) => true | _ => false) = true := by kernel_rfl
theorem plRow : (75 : TypeId) < Try.prog.types.size := of_decide_eq_true (by kernel_rfl)
set_option maxRecDepth 100000 in
theorem plLaw : Keyed Try.prog 75 := Keyed.of_law (deep_law_laid laidOutF (m := 4) (by omega) plRow (by kernel_rfl) plWide)
theorem plType : Try.prog.keyType 75 = true := by kernel_rfl
theorem cellsOfPl : Try.prog.cellsOf 75 = 6 := by kernel_rfl
theorem cellsOfWord : Try.prog.cellsOf 46 = 4 := by kernel_rfl
theorem cellsOfU64 : Try.prog.cellsOf 44 = 1 := by kernel_rfl
theorem cellsOfStr : Try.prog.cellsOf 9 = 1 := by kernel_rfl
theorem cellsOfBool : Try.prog.cellsOf 4 = 1 := by kernel_rfl
theorem typesMore : ∃ m, Try.prog.types.size = m + 2 := ⟨Try.prog.types.size - 2, by have h : 2 ≤ Try.prog.types.size := of_decide_eq_true (by kernel_rfl); omega⟩
theorem u64_wf {n : Nat} (h : n < M64) : (Lit.int .u64 (n : Int)).wf = true := by
  unfold M64 at h
  rw [Lit.wf_int_iff]
  have h1 : IntKind.u64.min = 0 := rfl
  have h2 : IntKind.u64.max = 18446744073709551615 := rfl
  rw [h1, h2]
  omega
theorem key_u64 (m : Nat) {n : Nat} (h : (Lit.int .u64 (n : Int)).wf = true) : Try.prog.keyLits (m + 1) 44 [.int .u64 (n : Nat)] = some [.int .u64 (n : Nat)] := by
  simp [Program.keyLits, Try.underlying44, h]
theorem key_bool (m : Nat) (b : Bool) : Try.prog.keyLits (m + 1) 4 [.bool b] = some [.bool b] := by
  simp [Program.keyLits, Try.underlying4]
theorem key_string (m : Nat) {s : ByteArray} (h : s.size ≤ maxLen) : Try.prog.keyLits (m + 1) 9 [.string s] = some [.string s.data.toList] := by
  simp [Program.keyLits, Try.underlying9, h]
theorem key_word4 (m : Nat) {a b c d : Nat} (ha : (Lit.int .u64 (a : Int)).wf = true) (hb : (Lit.int .u64 (b : Int)).wf = true) (hc : (Lit.int .u64 (c : Int)).wf = true) (hd : (Lit.int .u64 (d : Int)).wf = true) :
    Try.prog.keyLits (m + 2) 46 [.int .u64 (a : Nat), .int .u64 (b : Nat), .int .u64 (c : Nat), .int .u64 (d : Nat)] = some [.int .u64 (a : Nat), .int .u64 (b : Nat), .int .u64 (c : Nat), .int .u64 (d : Nat)] := by
  unfold Program.keyLits
  simp only [Try.underlying46, cellsOfWord]
  rw [if_pos ⟨by rfl, by kernel_rfl⟩]
  simp only [List.mapM_cons, List.mapM_nil, cellsOfU64, List.drop, List.take, key_u64 m ha, key_u64 m hb, key_u64 m hc, key_u64 m hd]
  rfl
structure Pl.Ok (p : Pl) : Prop where
  addr : p.addr.length ≤ big
  slot : p.slot.Ok
set_option maxRecDepth 100000 in
theorem key_pl {p : Pl} (h : p.Ok) : ∃ l, keyOf Try.prog 75 (.agg (plC p)) = some l := by
  obtain ⟨m, hm⟩ := typesMore
  have w1 := u64_wf h.slot.a
  have w2 := u64_wf h.slot.b
  have w3 := u64_wf h.slot.c
  have w4 := u64_wf h.slot.d
  have hs : (str p.addr).size ≤ maxLen := by rw [str_size]; have := h.addr; unfold big at this; unfold maxLen; omega
  obtain ⟨ad, wh, s1, s2, s3, s4⟩ := p
  simp only [plC] at *
  clear h
  generalize str ad = y at *
  have hk : Try.prog.keyLits (m + 3) 75 [.string y, .bool wh, .int .u64 (s1 : Nat), .int .u64 (s2 : Nat), .int .u64 (s3 : Nat), .int .u64 (s4 : Nat)] = some [.string y.data.toList, .bool wh, .int .u64 (s1 : Nat), .int .u64 (s2 : Nat), .int .u64 (s3 : Nat), .int .u64 (s4 : Nat)] := by
    unfold Program.keyLits
    simp only [Try.underlying75, cellsOfPl]
    rw [if_pos ⟨by rfl, by kernel_rfl⟩]
    simp only [List.mapM_cons, List.mapM_nil, cellsOfBool, cellsOfStr, cellsOfWord, List.drop, List.take, key_bool (m + 1), key_string (m + 1) hs, key_word4 m w1 w2 w3 w4]
    rfl
  unfold keyOf
  simp only [Try.underlying75, plType, Value.formed, cellsOfPl, Value.cells, hm, Bool.true_and]
  rw [if_pos (by rfl)]
  rw [hk]
  exact ⟨_, rfl⟩
theorem plC_inj {a b : Pl} (h : (Value.agg (plC a)) = .agg (plC b)) : a = b := by
  obtain ⟨ad, wh, s1, s2, s3, s4⟩ := a
  obtain ⟨ad', wh', s1', s2', s3', s4'⟩ := b
  simp only [plC, Value.agg.injEq, Array.mk.injEq, List.cons.injEq, Value.int.injEq, Value.string.injEq, Value.bool.injEq, true_and, and_true] at h
  obtain ⟨h1, h2, h3, h4, h5, h6⟩ := h
  have e1 := str_inj h1
  have e3 : s1 = s1' := by omega
  have e4 : s2 = s2' := by omega
  have e5 : s3 = s3' := by omega
  have e6 : s4 = s4' := by omega
  subst e1 h2 e3 e4 e5 e6
  rfl
noncomputable def kitP : Kit Try.prog Pl Unit where
  mt := 60
  kt := 75
  vt := 69
  ek p := .agg (plC p)
  ev _ := .agg #[]
  lit p := (keyOf Try.prog 75 (.agg (plC p))).getD (.bool false)
  Ok p := p.Ok
  z := .agg #[]
  hu := Try.underlying60
  law := plLaw
  key {n} h := by obtain ⟨l, hl⟩ := key_pl h; rw [hl]; rfl
  inj {a b} h1 h2 h := by
    obtain ⟨la, ha⟩ := key_pl h1
    obtain ⟨lb, hb⟩ := key_pl h2
    rw [ha, hb] at h
    cases h
    exact plC_inj (plLaw.inj ha hb)
  zero := fun _ => by kernel_rfl
end Go.Proofs.Ytginibphicmmmaa
