/- Merged: Ma, Ha, Hb, Hs, Hc. -/
import Derived.Maps.Ext
import Derived.Maps.OwnOps
import Derived.Maps.RangeWalk
import Derived.ChangeMaps5
import Derived.DeepKeys4
import Derived.Test.YtekoaheiapddiaaGreatU29
import Derived.Test.YtekoaheiapddiaaGreatU30
section
namespace Go.Proofs.YtekoaheiapddiaaGreat.Mp
open Go Go.Maps Go.RowKit Go.ChangeMaps Go.MapKept

/-- An element's datum is its value. -/
def heldElem (v : Value) : Option (DataW Value × List MemPlace) := some (.held v, [])
/-- A kind of maps: how its keys and elements stand as values. -/
structure Kit (P : Program) (K V : Type) where
  mt : TypeId
  kt : TypeId
  vt : TypeId
  ek : K → Value
  ev : V → Value
  lit : K → Lit
  Ok : K → Prop
  z : Value
  hu : P.underlying mt = some (.map kt vt)
  law : Keyed P kt
  key : ∀ {k : K}, Ok k → keyOf P kt (ek k) = some (lit k)
  inj : ∀ {a b : K}, Ok a → Ok b → lit a = lit b → a = b
  zero : ∀ w : World, (zeroValue vt).run P w = .ok z w
def upf {K V : Type} [DecidableEq K] (f : K → Option V) (k : K) (o : Option V) : K → Option V := fun j => if j = k then o else f j
theorem upf_same {K V : Type} [DecidableEq K] (f : K → Option V) (k : K) (o : Option V) : upf f k o k = o := if_pos rfl
theorem upf_other {K V : Type} [DecidableEq K] (f : K → Option V) {k j : K} (o : Option V) (h : j ≠ k) : upf f k o j = f j := if_neg h
theorem upf_back {K V : Type} [DecidableEq K] (f : K → Option V) (k : K) (o : Option V) : upf (upf f k o) k (f k) = f := by
  funext j
  by_cases h : j = k
  · rw [h, upf_same]
  · rw [upf_other _ _ h, upf_other _ _ h]
section
variable {P : Program} {K V : Type} (T : Kit P K V)
def encO (o : Option V) : DataW Value := match o with | some v => .held (T.ev v) | none => .nil
/-- What the data D say, told by a function. -/
structure Says (f : K → Option V) (D : DataW Value) : Prop where
  get : ∀ k, T.Ok k → D.atKey (T.lit k) .nil = encO T (f k)
  has : ∀ k, T.Ok k → Maps.has D (T.lit k) = (f k).isSome
  keys : ∀ kl, Maps.has D kl = true → ∃ k, T.Ok k ∧ kl = T.lit k
  off : ∀ k, ¬ T.Ok k → f k = none
/-- The map at block m, of at most n entries, is f. -/
def MapFn (m n : Nat) (f : K → Option V) (W : World) : Prop := ∃ D, W.ownsMap P T.kt heldElem m n D ∧ Says T f D
variable {T} {m n r cnt : Nat} {f : K → Option V} {W W' : World} {D : DataW Value} {k : K}
theorem MapFn.lt (h : MapFn T m n f W) : m < W.heap.size := by obtain ⟨D, h, _⟩ := h; exact h.lt
theorem MapFn.mono (h : MapFn T m n f W) {n' : Nat} (hn : n ≤ n') : MapFn T m n' f W := by obtain ⟨D, h, h2⟩ := h; exact ⟨D, h.mono hn, h2⟩
theorem MapFn.keep (h : MapFn T m n f W) (hb : W'.heap[m]? = W.heap[m]?) : MapFn T m n f W' := by
  obtain ⟨D, ⟨es, clock, h, h1⟩, h2⟩ := h
  exact ⟨D, ⟨es, clock, hb.trans h, h1⟩, h2⟩
theorem Says.empty (T : Kit P K V) : Says T (fun _ => none) (.map []) := ⟨fun _ _ => rfl, fun _ _ => rfl, fun _ h => (by cases h), fun _ _ => rfl⟩
theorem MapFn.made (T : Kit P K V) (W : World) : MapFn T W.heap.size 0 (fun _ => none) (W.alloc (.map #[] 0)) := ⟨_, World.ownsMap_made W P T.kt heldElem, Says.empty T⟩
theorem held_inj {v : Value} {o : Option V} (h : encO T o = .held v) : ∃ x, o = some x ∧ T.ev x = v := by
  cases o with
  | none => simp [encO] at h
  | some x => simp [encO] at h; exact ⟨x, rfl, h⟩
theorem Says.at_ (h : Says T f D) (hk : T.Ok k) {y : DataW Value} (hat : ∀ zd, D.atKey (T.lit k) zd = y) {v : Value} (hy : y = .held v) : ∃ x, f k = some x ∧ T.ev x = v := by
  have h1 := h.get k hk
  rw [hat, hy] at h1
  exact held_inj h1.symm
theorem MapFn.look (h : MapFn T m n f W) (hk : T.Ok k) (c : Bool) : (Instr.lookup T.mt (.map (some m)) (T.ek k) c).run P W = .ok (if c then .tuple #[(f k).elim T.z T.ev, .bool (f k).isSome] else (f k).elim T.z T.ev) W := by
  obtain ⟨D, ⟨es, clock, hb, F, _, rfl⟩, hS⟩ := h
  rcases fit_look c T.law T.hu (T.zero W) hb F (T.key hk) with ⟨hrun, _, hat⟩ | ⟨e0, y, _, _, hrun, hR, hat, _⟩
  · have h1 := hS.has k hk
    rw [has_false_of_atKey hat] at h1
    have h2 : f k = none := by cases hf : f k with
      | none => rfl
      | some x => rw [hf] at h1; cases h1
    rw [h2, hrun]
    rfl
  · simp only [heldElem, Option.some.injEq] at hR
    obtain ⟨x, h2, h3⟩ := hS.at_ hk hat (v := e0.val) (by rw [← hR])
    rw [h2, hrun, ← h3]
    rfl
theorem look_nil (T : Kit P K V) (hk : T.Ok k) (W : World) (c : Bool) : (Instr.lookup T.mt (.map none) (T.ek k) c).run P W = .ok (if c then .tuple #[T.z, .bool false] else T.z) W := by
  have hck := T.law.check W true (T.key hk)
  rcases T.law.find W (T.key hk) [] (by simp) with ⟨h1, _⟩ | ⟨j, e, _, h2, _⟩
  · simp [Instr.lookup, run_underlying T.hu, hck, h1, T.zero W, Result.andThen]
  · simp at h2
theorem key_lit (T : Kit P K V) (hk : T.Ok k) : WideAt.IsKeyLit (T.lit k) := T.law.key (T.key hk)
theorem MapFn.put [DecidableEq K] (h : MapFn T m n f W) (hn : n < maxLen) (hk : T.Ok k) (v : V) :
    ∃ o, (Instr.mapUpdate T.mt (.map (some m)) (T.ek k) (T.ev v)).run P W = .ok () (ChangeMaps.setBlock W m o) ∧ MapFn T m (n + 1) (upf f k (some v)) (ChangeMaps.setBlock W m o) := by
  obtain ⟨D, ⟨es, clock, hb, F, hs, hD⟩, hS⟩ := h
  have hm : IsMap D := by rw [hD]; exact ⟨_, rfl⟩
  obtain ⟨es', clock', hrun, F', hput, _⟩ := fit_store (R' := heldElem) (yv := (.held (T.ev v), [])) T.law T.hu hb F (Nat.lt_of_le_of_lt hs hn) (fun _ _ _ _ hz => hz) (T.key hk) rfl
  have hmem : (ChangeMaps.setBlock W m (.map es' clock')).ownsMap P T.kt heldElem m (n + 1) (D.put (T.lit k) (.held (T.ev v))) := by
    refine ⟨es', clock', heap_setBlock_same hb _, F', ?_, ?_⟩
    · have e1 : es'.size = ((es'.toList.map (Go.WideElems.rg P T.kt heldElem)).foldr DataW.insert []).length := by rw [length_sorted]; simp
      rw [e1, hput]
      unfold putKey
      rw [length_insert]
      have e2 := List.length_filter_le (notKey (T.lit k)) ((es.toList.map (Go.WideElems.rg P T.kt heldElem)).foldr DataW.insert [])
      rw [length_sorted] at e2
      simp at e2
      omega
    · rw [hD, DataW.put_eq, hput]
  refine ⟨_, hrun, _, hmem, ⟨fun j hj => ?_, fun j hj => ?_, fun kl hkl => ?_, fun j hj => ?_⟩⟩
  · by_cases e : j = k
    · rw [e, atKey_put_same hm (key_lit T hk), upf_same]; rfl
    · rw [atKey_put_other (fun h => e (T.inj hj hk h)), hS.get j hj, upf_other _ _ e]
  · by_cases e : j = k
    · rw [e, has_put_same hm (key_lit T hk), upf_same]; rfl
    · rw [has_put_other (fun h => e (T.inj hj hk h)), hS.has j hj, upf_other _ _ e]
  · by_cases e : kl = T.lit k
    · exact ⟨k, hk, e⟩
    · rw [has_put_other e] at hkl
      exact hS.keys kl hkl
  · rw [upf_other _ _ (fun e => hj (by rw [e]; exact hk))]
    exact hS.off j hj
theorem MapFn.del [DecidableEq K] (h : MapFn T m n f W) (hk : T.Ok k) (ty : TypeId) :
    ∃ o, (Builtin.delete_ #[T.mt, T.kt] ty #[.map (some m), T.ek k]).run P W = .ok (.tuple #[]) (ChangeMaps.setBlock W m o) ∧ MapFn T m n (upf f k none) (ChangeMaps.setBlock W m o) := by
  obtain ⟨D, ⟨es, clock, hb, F, hs, hD⟩, hS⟩ := h
  obtain ⟨es', hrun, F', hsz, hdel, _⟩ := fit_drop (ty := ty) T.law T.hu hb F (T.key hk)
  have hmem : (ChangeMaps.setBlock W m (.map es' clock)).ownsMap P T.kt heldElem m n (D.del (T.lit k)) :=
    ⟨es', clock, heap_setBlock_same hb _, F', Nat.le_trans hsz hs, by rw [hD, DataW.del_eq, hdel]⟩
  refine ⟨_, hrun, _, hmem, ⟨fun j hj => ?_, fun j hj => ?_, fun kl hkl => ?_, fun j hj => ?_⟩⟩
  · by_cases e : j = k
    · rw [e, atKey_del_same, upf_same]; rfl
    · rw [atKey_del_other (fun h => e (T.inj hj hk h)), hS.get j hj, upf_other _ _ e]
  · by_cases e : j = k
    · rw [e, has_del_same, upf_same]; rfl
    · rw [has_del_other (fun h => e (T.inj hj hk h)), hS.has j hj, upf_other _ _ e]
  · by_cases e : kl = T.lit k
    · rw [e, has_del_same] at hkl; cases hkl
    · rw [has_del_other e] at hkl
      exact hS.keys kl hkl
  · by_cases e : j = k
    · rw [e, upf_same]
    · rw [upf_other _ _ e]; exact hS.off j hj
/-! A loop over the map. -/
end
end Go.Proofs.YtekoaheiapddiaaGreat.Mp
end
section
namespace Go.Proofs.YtekoaheiapddiaaGreat.Dz.Wo
open Go.RowKit Go.Maps Mp

structure AccP where
  nonce : Nat
  bal : Nat
  code : Nm
deriving DecidableEq
def AccP.zero : AccP := ⟨0, 0, []⟩
def accCells (a : AccP) : Array Value := #[.int .u64 a.nonce, .int .u64 (l3 a.bal : Nat), .int .u64 (l2 a.bal : Nat), .int .u64 (l1 a.bal : Nat), .int .u64 (l0 a.bal : Nat), .string (str a.code)]
/-- What was changed of an address: its slots' map is told by its block. -/
structure Ch where
  ch : Bool
  acc : AccP
  wi : Bool
  sl : Option Nat
def Ch.zero : Ch := ⟨false, AccP.zero, false, none⟩
def chCells (c : Ch) : Array Value := #[.bool c.ch, .int .u64 c.acc.nonce, .int .u64 (l3 c.acc.bal : Nat), .int .u64 (l2 c.acc.bal : Nat), .int .u64 (l1 c.acc.bal : Nat), .int .u64 (l0 c.acc.bal : Nat), .string (str c.acc.code), .bool c.wi, .map c.sl]
abbrev chO (c : Ch) : Obj := .cells (chCells c) 166 (0, 0)
noncomputable def kitO : Kit Tryz.prog Nm Ch where
  mt := 144
  kt := 9
  vt := 166
  ek k := .string (str k)
  ev c := .agg (chCells c)
  lit k := .string k
  Ok k := k.length = 20
  z := .agg (chCells Ch.zero)
  hu := Tryz.underlying144
  law := string_keyed Tryz.underlying9
  key {k} h := key_str (by rw [show k.length = 20 from h]; unfold maxLen; omega)
  inj h1 h2 h := by cases h; rfl
  zero := fun _ => by kernel_rfl
theorem wordWide : (match Tryz.prog.underlying 61 with | some (.array _ _) | some (.struct _) => true | _ => false) = true := by kernel_rfl
theorem wordRow : (61 : TypeId) < Tryz.prog.types.size := of_decide_eq_true (by kernel_rfl)
set_option maxRecDepth 100000 in
theorem wordLaw : Keyed Tryz.prog 61 := Keyed.of_law (deep_law_laid laidOutF (m := 4) (by omega) wordRow (by kernel_rfl) wordWide)
theorem wordType : Tryz.prog.keyType 61 = true := by kernel_rfl
theorem key_word {n : Nat} (h : n < W256) : ∃ l, keyOf Tryz.prog 61 (wordV n) = some l := by
  obtain ⟨m, hm⟩ := typesMore
  obtain ⟨b0, b1, b2, b3⟩ := l_lt h
  have w0 := u64_wf b0
  have w1 := u64_wf b1
  have w2 := u64_wf b2
  have w3 := u64_wf b3
  unfold wordV
  generalize l0 n = s0 at *
  generalize l1 n = s1 at *
  generalize l2 n = s2 at *
  generalize l3 n = s3 at *
  have hk := key_word4 (m + 1) w3 w2 w1 w0
  unfold keyOf
  simp only [Tryz.underlying61, wordType, Value.formed, cellsOfWord, Value.cells, hm, Bool.true_and]
  rw [if_pos (by rfl)]
  rw [hk]
  exact ⟨_, rfl⟩
theorem wordV_inj {a b : Nat} (ha : a < W256) (hb : b < W256) (h : wordV a = wordV b) : a = b := by
  simp only [wordV, Value.agg.injEq, Array.mk.injEq, List.cons.injEq, Value.int.injEq, true_and, and_true] at h
  obtain ⟨h1, h2, h3, h4⟩ := h
  exact word_lim_inj ha hb (by omega) (by omega) (by omega) (by omega)
noncomputable def kitW : Kit Tryz.prog Nat Nat where
  mt := 164
  kt := 61
  vt := 61
  ek n := wordV n
  ev n := wordV n
  lit n := (keyOf Tryz.prog 61 (wordV n)).getD (.bool false)
  Ok n := n < W256
  z := wordV 0
  hu := Tryz.underlying164
  law := wordLaw
  key {n} h := by obtain ⟨l, hl⟩ := key_word h; rw [hl]; rfl
  inj {a b} h1 h2 h := by
    obtain ⟨la, ha⟩ := key_word h1
    obtain ⟨lb, hb⟩ := key_word h2
    rw [ha, hb] at h
    cases h
    exact wordV_inj h1 h2 (wordLaw.inj ha hb)
  zero := fun _ => by kernel_rfl
/-! What a world tells, and how it is taken back. -/
structure Ent where
  ch : Bool
  acc : AccP
  wi : Bool
  sl : Nat → Option Nat
def Ent.zero : Ent := ⟨false, AccP.zero, false, fun _ => none⟩
abbrev Gs := Nm → Option Ent
/-- What stands in the heap: addresses' changes, and the maps of slots by their blocks. -/
structure Ps where
  O : Nm → Option Ch
  I : Nat → Nat → Option Nat
def Ch.ent (I : Nat → Nat → Option Nat) (x : Ch) : Ent := ⟨x.ch, x.acc, x.wi, match x.sl with | none => fun _ => none | some m => I m⟩
def Ps.abs (s : Ps) : Gs := fun k => (s.O k).map (Ch.ent s.I)
inductive Bk where
  | o (k : Nm) (old : Option Ch)
  | i (m k : Nat) (old : Option Nat)
def Bk.undo : Bk → Ps → Ps
  | .o k old, s => ⟨upf s.O k old, s.I⟩
  | .i m k old, s => ⟨s.O, fun j => if j = m then upf (s.I m) k old else s.I j⟩
/-- No two addresses share a map of slots. -/
def Uniq (O : Nm → Option Ch) : Prop := ∀ k k' x x' m, O k = some x → O k' = some x' → x.sl = some m → x'.sl = some m → k = k'
/-- The newest first: what taking back makes of what is told. -/
def Hist : Ps → List Bk → List Gs → Prop
  | _, [], [] => True
  | s, b :: bs, g :: gs => (b.undo s).abs = g ∧ Uniq (b.undo s).O ∧ Hist (b.undo s) bs gs
  | _, _, _ => False
def Bk.live : Bk → Nat → Prop
  | .o _ old, m => ∃ x, old = some x ∧ x.sl = some m
  | .i m' _ _, m => m = m'
/-- The maps of slots that matter. -/
def Live (s : Ps) (bs : List Bk) (m : Nat) : Prop := (∃ k x, s.O k = some x ∧ x.sl = some m) ∨ ∃ b ∈ bs, b.live m
theorem Live.undo {s : Ps} {b : Bk} {bs : List Bk} {m : Nat} (h : Live (b.undo s) bs m) : Live s (b :: bs) m := by
  rcases h with ⟨k, x, h1, h2⟩ | ⟨c, hc, h2⟩
  · cases b with
    | o k0 old =>
      simp only [Bk.undo] at h1
      by_cases e : k = k0
      · rw [e, upf_same] at h1
        exact Or.inr ⟨_, List.mem_cons_self .., x, h1, h2⟩
      · rw [upf_other _ _ e] at h1
        exact Or.inl ⟨k, x, h1, h2⟩
    | i m0 k0 old => exact Or.inl ⟨k, x, h1, h2⟩
  · exact Or.inr ⟨c, List.mem_cons_of_mem _ hc, h2⟩
theorem Hist.len : ∀ {bs : List Bk} {s : Ps} {gs : List Gs}, Hist s bs gs → bs.length = gs.length
  | [], _, [], _ => rfl
  | [], _, _ :: _, h => h.elim
  | _ :: _, _, [], h => h.elim
  | _ :: _, _, _ :: _, h => by simp [h.2.2.len]
end Go.Proofs.YtekoaheiapddiaaGreat.Dz.Wo
end
section
namespace Go.Proofs.YtekoaheiapddiaaGreat.Dz.Wo
open Go.RowKit Go.Maps Mp

theorem mapOb {P : Program} {K V : Type} {T : Kit P K V} {m n : Nat} {f : K → Option V} {W : World} (h : MapFn T m n f W) : Ob (MapFn T m n f) (fun j => j = m) W := ⟨h, fun k hk => by rw [hk]; exact h.lt, fun _ hV => h.keep (hV m rfl)⟩
def wordC (n : Nat) : Array Value := #[.int .u64 (l3 n : Nat), .int .u64 (l2 n : Nat), .int .u64 (l1 n : Nat), .int .u64 (l0 n : Nat)]
def ptr (q : Nat) : Value := .pointer (some ⟨q, 0, none⟩)
/-- How a change is taken back: its closure's value, and what lies in the boxes that it holds. -/
def bkV : Bk → Nat → Value
  | .o _ _, q => .func (.func 218) #[] #[ptr (q + 4), ptr (q + 3), ptr q, ptr (q + 1)]
  | .i _ _ _, q => .func (.func 173) #[] #[ptr (q + 4), ptr (q + 3), ptr q, ptr (q + 1)]
structure BoxO (mo : Nat) (k : Nm) (old : Option Ch) (q : Nat) (W : World) : Prop where
  hm : W.heap[q]? = some (.cells #[.map (some mo)] 144 (0, 0))
  hk : W.heap[q + 1]? = some (.cells #[.string (str k)] 9 (0, 0))
  ho : W.heap[q + 3]? = some (.cells (chCells (old.getD Ch.zero)) 166 (0, 0))
  hw : W.heap[q + 4]? = some (.cells #[.bool old.isSome] 4 (0, 0))
  ok : k.length = 20
structure BoxI (m k : Nat) (old : Option Nat) (q : Nat) (W : World) : Prop where
  hm : W.heap[q]? = some (.cells #[.map (some m)] 164 (0, 0))
  hk : W.heap[q + 1]? = some (.cells (wordC k) 61 (0, 0))
  ho : W.heap[q + 3]? = some (.cells (wordC (old.getD 0)) 61 (0, 0))
  hw : W.heap[q + 4]? = some (.cells #[.bool old.isSome] 4 (0, 0))
  ok : k < W256
def BkAt (mo : Nat) : Bk → Nat → World → Prop
  | .o k old, q, W => BoxO mo k old q W
  | .i m k old, q, W => BoxI m k old q W
theorem BkAt.keep {mo q : Nat} {b : Bk} {W V : World} (h : BkAt mo b q W) (hV : ∀ j, q ≤ j → j < q + 5 → V.heap[j]? = W.heap[j]?) : BkAt mo b q V := by
  cases b with
  | o k old => exact ⟨(hV q (by omega) (by omega)).trans h.hm, (hV (q + 1) (by omega) (by omega)).trans h.hk, (hV (q + 3) (by omega) (by omega)).trans h.ho, (hV (q + 4) (by omega) (by omega)).trans h.hw, h.ok⟩
  | i m k old => exact ⟨(hV q (by omega) (by omega)).trans h.hm, (hV (q + 1) (by omega) (by omega)).trans h.hk, (hV (q + 3) (by omega) (by omega)).trans h.ho, (hV (q + 4) (by omega) (by omega)).trans h.hw, h.ok⟩
theorem setBlock_chg {W : World} {m : Nat} {o : Obj} {F' : Nat → Prop} (hF : ∀ k, F' k → k = m ∨ W.heap.size ≤ k) : Chg (fun j => j = m) F' W (ChangeMaps.setBlock W m o) :=
  ⟨rfl, rfl, rfl, by rw [setBlock_size]; exact Nat.le_refl _, fun k _ hk => setBlock_other hk, fun k hk => hF k hk⟩

set_option maxRecDepth 100000 in
set_option maxHeartbeats 4000000 in
theorem putO_c {mo n : Nat} {f : Nm → Option Ch} {W : World} (h : MapFn kitO mo n f W) (hn : n < 1000000000000) {k : Nm} (hk : k.length = 20) (v : Ch) :
    Calls Tryz.prog 172 #[.map (some mo), .string (str k), .agg (chCells v)] W fun e W' => e = .returned (bkV (.o k (f k)) W.heap.size) ∧ BoxO mo k (f k) W.heap.size W' ∧ MapFn kitO mo (n + 1) (upf f k (some v)) W' ∧ Chg (fun j => j = mo) (fun j => j = mo ∨ (W.heap.size ≤ j ∧ j < W.heap.size + 5)) W W' := by
  have M3 := (((An.start (mapOb h)).alloc (.cells #[.map (some mo)] 144 (0, 0))).alloc (.cells #[.string (str k)] 9 (0, 0))).alloc (.cells (chCells v) 166 (0, 0))
  have HL : (Instr.lookup 144 (.map (some mo)) (.string (str k)) true).run Tryz.prog (((W.alloc (.cells #[.map (some mo)] 144 (0, 0))).alloc (.cells #[.string (str k)] 9 (0, 0))).alloc (.cells (chCells v) 166 (0, 0))) = .ok (.tuple #[.agg (chCells ((f k).getD Ch.zero)), .bool (f k).isSome]) (((W.alloc (.cells #[.map (some mo)] 144 (0, 0))).alloc (.cells #[.string (str k)] 9 (0, 0))).alloc (.cells (chCells v) 166 (0, 0))) := by
    have h1 := M3.ob.it.look (k := k) hk true
    cases hf : f k with
    | none => rw [hf] at h1; exact h1
    | some x => rw [hf] at h1; exact h1
  have M5 := (M3.alloc (.cells (chCells ((f k).getD Ch.zero)) 166 (0, 0))).alloc (.cells #[.bool (f k).isSome] 4 (0, 0))
  obtain ⟨o, HP, hmap⟩ := M5.ob.it.put (k := k) (by unfold maxLen; omega) hk v
  rw [alloc_size, alloc_size, alloc_size, alloc_size] at M5
  have HM := Lib.hid (And.intro M5 (And.intro hmap hk))
  clear h hn M3 M5 hmap hk
  replace HP : (Instr.mapUpdate 144 (.map (some mo)) (.string (str k)) (.agg (chCells v))).run Tryz.prog (((((W.alloc (.cells #[.map (some mo)] 144 (0, 0))).alloc (.cells #[.string (str k)] 9 (0, 0))).alloc (.cells (chCells v) 166 (0, 0))).alloc (.cells (chCells ((f k).getD Ch.zero)) 166 (0, 0))).alloc (.cells #[.bool (f k).isSome] 4 (0, 0))) = _ := HP
  generalize hold : f k = old at *
  have HO := Lib.hid hold
  clear hold
  obtain ⟨c0, hc0⟩ : ∃ c0, c0 = old.getD Ch.zero := ⟨_, rfl⟩
  obtain ⟨is, his⟩ : ∃ is, is = old.isSome := ⟨_, rfl⟩
  rw [← hc0, ← his] at HL HP HM
  have HC := Lib.hid (And.intro hc0 his)
  clear hc0 his
  unfold chCells at *
  go_enter Tryz.func172, Tryz.ntmps172
  go_wp2_with fail
  go_ret
  obtain ⟨M5, hmap, hk⟩ := HM.out
  have e1 := HC.out.1
  have e2 := HC.out.2
  have at_ : ∀ {q : Nat} {o' : Obj}, (q, o') ∈ _ → (ChangeMaps.setBlock _ mo o).heap[q]? = some o' := fun {q o'} hm => (setBlock_other (M5.box (q, o') hm).2.2).trans (M5.at hm)
  refine ⟨rfl, ⟨at_ (List.mem_cons_of_mem _ (List.mem_cons_of_mem _ (List.mem_cons_of_mem _ (List.mem_cons_of_mem _ (List.mem_cons_self ..))))), at_ (List.mem_cons_of_mem _ (List.mem_cons_of_mem _ (List.mem_cons_of_mem _ (List.mem_cons_self ..)))), ?_, ?_, hk⟩, hmap, ?_⟩
  · rw [← e1]; exact at_ (List.mem_cons_of_mem _ (List.mem_cons_self ..))
  · rw [← e2]; exact at_ (List.mem_cons_self ..)
  · have c := M5.chg
    exact ⟨c.os, c.tape, c.output, by rw [setBlock_size]; exact c.size, fun j hj hn => (setBlock_other hn).trans (c.block j hj hn), fun j hj => hj.imp id (·.1)⟩
set_option maxRecDepth 100000 in
set_option maxHeartbeats 4000000 in
theorem undoO_c {mo n : Nat} {f : Nm → Option Ch} {W : World} (h : MapFn kitO mo n f W) (hn : n < 1000000000000) {k : Nm} {old : Option Ch} {q : Nat} (hb : BoxO mo k old q W) :
    Calls Tryz.prog 218 #[ptr (q + 4), ptr (q + 3), ptr q, ptr (q + 1)] W fun e W' => e = .returned (.tuple #[]) ∧ MapFn kitO mo (n + 1) (upf f k old) W' ∧ Chg (fun j => j = mo) (fun j => j = mo) W W' := by
  have b0 : W.cell? ⟨q, 0, none⟩ = some (.map (some mo)) := cell_of hb.hm 0
  have b4 : W.cell? ⟨q + 4, 0, none⟩ = some (.bool old.isSome) := cell_of hb.hw 0
  have b1 : W.cell? ⟨q + 1, 0, none⟩ = some (.string (str k)) := cell_of hb.hk 0
  have c0 : W.cell? ⟨q + 3, 0, none⟩ = (chCells (old.getD Ch.zero))[0]? := cell_of hb.ho 0
  have c1 : W.cell? ⟨q + 3, 1, none⟩ = (chCells (old.getD Ch.zero))[1]? := cell_of hb.ho 1
  have c2 : W.cell? ⟨q + 3, 2, none⟩ = (chCells (old.getD Ch.zero))[2]? := cell_of hb.ho 2
  have c3 : W.cell? ⟨q + 3, 3, none⟩ = (chCells (old.getD Ch.zero))[3]? := cell_of hb.ho 3
  have c4 : W.cell? ⟨q + 3, 4, none⟩ = (chCells (old.getD Ch.zero))[4]? := cell_of hb.ho 4
  have c5 : W.cell? ⟨q + 3, 5, none⟩ = (chCells (old.getD Ch.zero))[5]? := cell_of hb.ho 5
  have c6 : W.cell? ⟨q + 3, 6, none⟩ = (chCells (old.getD Ch.zero))[6]? := cell_of hb.ho 6
  have c7 : W.cell? ⟨q + 3, 7, none⟩ = (chCells (old.getD Ch.zero))[7]? := cell_of hb.ho 7
  have c8 : W.cell? ⟨q + 3, 8, none⟩ = (chCells (old.getD Ch.zero))[8]? := cell_of hb.ho 8
  unfold ptr
  cases old with
  | some v =>
    obtain ⟨o, HP, hmap⟩ := h.put (k := k) (by unfold maxLen; omega) hb.ok v
    have HM := Lib.hid hmap
    clear h hn hb hmap
    replace HP : (Instr.mapUpdate 144 (.map (some mo)) (.string (str k)) (.agg (chCells v))).run Tryz.prog W = _ := HP
    unfold chCells at *
    simp only [Option.getD_some, Option.isSome_some] at *
    go_enter Tryz.func218, Tryz.ntmps218
    go_wp2_with fail
    go_end0
    exact ⟨rfl, HM.out, setBlock_chg fun k hk => Or.inl hk⟩
  | none =>
    obtain ⟨o, HP, hmap⟩ := h.del (k := k) hb.ok 0
    have HM := Lib.hid (hmap.mono (Nat.le_succ n))
    replace HP : (Builtin.delete_ #[144, 9] 0 #[.map (some mo), .string (str k)]).run Tryz.prog W = _ := HP
    clear h hn hb hmap
    unfold chCells at *
    simp only [Option.getD_none, Option.isSome_none] at *
    go_enter Tryz.func218, Tryz.ntmps218
    go_wp2_with fail
    go_end0
    exact ⟨rfl, HM.out, setBlock_chg fun k hk => Or.inl hk⟩

set_option maxRecDepth 100000 in
set_option maxHeartbeats 4000000 in
theorem undoI_c {mo n : Nat} {f : Nat → Option Nat} {W : World} (h : MapFn kitW mo n f W) (hn : n < 1000000000000) {k : Nat} {old : Option Nat} {q : Nat} (hb : BoxI mo k old q W) :
    Calls Tryz.prog 173 #[ptr (q + 4), ptr (q + 3), ptr q, ptr (q + 1)] W fun e W' => e = .returned (.tuple #[]) ∧ MapFn kitW mo (n + 1) (upf f k old) W' ∧ Chg (fun j => j = mo) (fun j => j = mo) W W' := by
  have b0 : W.cell? ⟨q, 0, none⟩ = some (.map (some mo)) := cell_of hb.hm 0
  have b4 : W.cell? ⟨q + 4, 0, none⟩ = some (.bool old.isSome) := cell_of hb.hw 0
  have b10 : W.cell? ⟨q + 1, 0, none⟩ = (wordC k)[0]? := cell_of hb.hk 0
  have b11 : W.cell? ⟨q + 1, 1, none⟩ = (wordC k)[1]? := cell_of hb.hk 1
  have b12 : W.cell? ⟨q + 1, 2, none⟩ = (wordC k)[2]? := cell_of hb.hk 2
  have b13 : W.cell? ⟨q + 1, 3, none⟩ = (wordC k)[3]? := cell_of hb.hk 3
  have c0 : W.cell? ⟨q + 3, 0, none⟩ = (wordC (old.getD 0))[0]? := cell_of hb.ho 0
  have c1 : W.cell? ⟨q + 3, 1, none⟩ = (wordC (old.getD 0))[1]? := cell_of hb.ho 1
  have c2 : W.cell? ⟨q + 3, 2, none⟩ = (wordC (old.getD 0))[2]? := cell_of hb.ho 2
  have c3 : W.cell? ⟨q + 3, 3, none⟩ = (wordC (old.getD 0))[3]? := cell_of hb.ho 3
  unfold ptr
  cases old with
  | some v =>
    obtain ⟨o, HP, hmap⟩ := h.put (k := k) (by unfold maxLen; omega) hb.ok v
    have HM := Lib.hid hmap
    clear h hn hb hmap
    replace HP : (Instr.mapUpdate 164 (.map (some mo)) (.agg (wordC k)) (.agg (wordC v))).run Tryz.prog W = _ := HP
    unfold wordC at *
    simp only [Option.getD_some, Option.isSome_some] at *
    go_enter Tryz.func173, Tryz.ntmps173
    go_wp2_with fail
    go_end0
    exact ⟨rfl, HM.out, setBlock_chg fun k hk => Or.inl hk⟩
  | none =>
    obtain ⟨o, HP, hmap⟩ := h.del (k := k) hb.ok 0
    have HM := Lib.hid (hmap.mono (Nat.le_succ n))
    replace HP : (Builtin.delete_ #[164, 61] 0 #[.map (some mo), .agg (wordC k)]).run Tryz.prog W = _ := HP
    clear h hn hb hmap
    unfold wordC at *
    simp only [Option.getD_none, Option.isSome_none] at *
    go_enter Tryz.func173, Tryz.ntmps173
    go_wp2_with fail
    go_end0
    exact ⟨rfl, HM.out, setBlock_chg fun k hk => Or.inl hk⟩
end Go.Proofs.YtekoaheiapddiaaGreat.Dz.Wo
end
section
namespace Go.Proofs.YtekoaheiapddiaaGreat.Dz.Wo
open Go.RowKit Go.Maps Mp

def replyAcc (r : ReplyP) : AccP := ⟨r.nonce, r.bal, r.code⟩
/-- What is far: nothing, or a client. -/
inductive Fz where
  | no
  | yes (p : Pd) (c : Cl)
noncomputable def Fz.acct : Fz → Nm → (AccP × Int) × Fz
  | .no, _ => ((AccP.zero, 0), .no)
  | .yes p c, a => ((replyAcc (askP nmC p c ⟨0, a, 0, 1⟩).1.1, (askP nmC p c ⟨0, a, 0, 1⟩).1.2), .yes (askP nmC p c ⟨0, a, 0, 1⟩).2.1 (askP nmC p c ⟨0, a, 0, 1⟩).2.2)
noncomputable def Fz.slot : Fz → Nm → Nat → (Nat × Int) × Fz
  | .no, _, _ => ((0, 0), .no)
  | .yes p c, a, k => (((askP nmC p c ⟨0, a, k, 2⟩).1.1.value, (askP nmC p c ⟨0, a, k, 2⟩).1.2), .yes (askP nmC p c ⟨0, a, k, 2⟩).2.1 (askP nmC p c ⟨0, a, k, 2⟩).2.2)
/-- What is told of each address, what was told ahead of each change (the newest first), and what is far. -/
structure Wd where
  G : Gs
  old : List Gs
  far : Fz
def Wd.ent (w : Wd) (a : Nm) : Ent := (w.G a).getD Ent.zero
noncomputable def Wd.acct (w : Wd) (a : Nm) : (AccP × Int) × Wd :=
  if a.length ≠ 20 then ((AccP.zero, 1), w) else if (w.ent a).ch = true then (((w.ent a).acc, 0), w) else ((w.far.acct a).1, ⟨w.G, w.old, (w.far.acct a).2⟩)
noncomputable def Wd.slot (w : Wd) (a : Nm) (k : Nat) : (Nat × Int) × Wd :=
  if a.length ≠ 20 then ((0, 1), w) else match (w.ent a).sl k with
  | some v => ((v, 0), w)
  | none => if (w.ent a).wi = true then ((0, 0), w) else ((w.far.slot a k).1, ⟨w.G, w.old, (w.far.slot a k).2⟩)
def Wd.set (w : Wd) (a : Nm) (x : Ent) : Wd := ⟨upf w.G a (some x), w.G :: w.old, w.far⟩
def Wd.setAcc (w : Wd) (a : Nm) (y : AccP) : Wd := w.set a ⟨true, y, (w.ent a).wi, (w.ent a).sl⟩
noncomputable def Wd.alter (w : Wd) (a : Nm) (f : AccP → AccP) : Int × Wd :=
  if (w.acct a).1.2 ≠ 0 then ((w.acct a).1.2, (w.acct a).2) else (0, (w.acct a).2.setAcc a (f (w.acct a).1.1))
def Wd.del (w : Wd) (a : Nm) : Int × Wd :=
  if a.length ≠ 20 then (1, w) else (0, w.set a ⟨true, AccP.zero, true, fun _ => none⟩)
def pops : Nat → Gs → List Gs → Gs × List Gs
  | 0, g, l => (g, l)
  | n + 1, _, g :: l => pops n g l
  | _ + 1, g, [] => (g, [])
def Wd.back (w : Wd) (m : Int) : Bool × Wd :=
  if m < 0 ∨ (w.old.length : Int) < m then (false, w) else (true, ⟨(pops (w.old.length - m.toNat) w.G w.old).1, (pops (w.old.length - m.toNat) w.G w.old).2, w.far⟩)
end Go.Proofs.YtekoaheiapddiaaGreat.Dz.Wo
end
section
namespace Go.Proofs.YtekoaheiapddiaaGreat.Dz.Wo
open Go.RowKit Go.Maps Mp

/-- What lies in the heap of a world: the newest change first; each one's boxes begin at qs; ids: the maps of slots. -/
structure Sx where
  s : Ps
  bs : List Bk
  qs : List Nat
  ids : List Nat
  mo : Nat
  sv : Value
def Sx.ft (x : Sx) (b k : Nat) : Prop := k = b ∨ k = x.mo ∨ k ∈ x.ids ∨ x.sv.ownBlock = some k ∨ ∃ q ∈ x.qs, q ≤ k ∧ k < q + 5
def worldC (mo : Nat) (sv fv : Value) : Array Value := #[.map (some mo), sv, fv]
abbrev worldO (mo : Nat) (sv fv : Value) : Obj := .cells (worldC mo sv fv) 150 (0, 0)
structure WAt (x : Sx) (b : Nat) (fv : Value) (n : Nat) (W : World) : Prop where
  cell : W.heap[b]? = some (worldO x.mo x.sv fv)
  out : MapFn kitO x.mo n x.s.O W
  inn : ∀ m ∈ x.ids, MapFn kitW m n (x.s.I m) W
  row : W.ownsRow 0 1 1 x.sv x.bs.length (List.zipWith bkV x.bs x.qs).reverse
  len : x.qs.length = x.bs.length
  few : x.bs.length ≤ n
  clo : ∀ (i : Nat) (c : Bk) (q : Nat), x.bs[i]? = some c → x.qs[i]? = some q → BkAt x.mo c q W ∧ q + 5 ≤ W.heap.size
  live : ∀ m, Live x.s x.bs m → m ∈ x.ids
  sep : x.mo ∉ x.ids
  apart : ∀ q ∈ x.qs, ∀ j, q ≤ j → j < q + 5 → j ≠ b ∧ j ≠ x.mo ∧ j ∉ x.ids ∧ x.sv.ownBlock ≠ some j
section
variable {x : Sx} {b n : Nat} {fv : Value} {W V : World}
theorem WAt.row_lt (h : WAt x b fv n W) {k : Nat} (hk : x.sv.ownBlock = some k) : k < W.heap.size := (World.ownsRow.lt h.row k hk).2
theorem WAt.lt (h : WAt x b fv n W) {k : Nat} (hk : x.ft b k) : k < W.heap.size := by
  rcases hk with rfl | rfl | hk | hk | ⟨q, hq, h1, h2⟩
  · exact lt_of h.cell
  · exact h.out.lt
  · exact (h.inn k hk).lt
  · exact h.row_lt hk
  · obtain ⟨i, hi, e⟩ := List.getElem_of_mem hq
    have hi2 : i < x.bs.length := by rw [← h.len]; exact hi
    have := (h.clo i _ q (List.getElem?_eq_getElem hi2) (by rw [List.getElem?_eq_getElem hi, e])).2
    omega
theorem WAt.kept (h : WAt x b fv n W) (hk : ∀ k, x.ft b k → V.heap[k]? = W.heap[k]?) : WAt x b fv n V := by
  refine ⟨(hk b (Or.inl rfl)).trans h.cell, h.out.keep (hk _ (Or.inr (Or.inl rfl))), fun m hm => (h.inn m hm).keep (hk m (Or.inr (Or.inr (Or.inl hm)))), own_keep h.row fun k hk' => hk k (Or.inr (Or.inr (Or.inr (Or.inl hk')))), h.len, h.few, fun i c q h1 h2 => ?_, h.live, h.sep, h.apart⟩
  obtain ⟨h3, h4⟩ := h.clo i c q h1 h2
  have hft : ∀ j, q ≤ j → j < q + 5 → V.heap[j]? = W.heap[j]? := fun j h5 h6 => hk j (Or.inr (Or.inr (Or.inr (Or.inr ⟨q, List.mem_of_getElem? h2, h5, h6⟩))))
  refine ⟨h3.keep hft, ?_⟩
  have h7 := (hft (q + 4) (by omega) (by omega)).trans (Array.getElem?_eq_getElem (show q + 4 < W.heap.size by omega))
  have := lt_of h7
  omega
theorem WAt.ob (h : WAt x b fv n W) : Ob (WAt x b fv n) (x.ft b) W := ⟨h, fun _ hk => h.lt hk, fun _ hV => h.kept hV⟩
theorem WAt.mono {n' : Nat} (h : WAt x b fv n W) (hn : n ≤ n') : WAt x b fv n' W :=
  ⟨h.cell, h.out.mono hn, fun m hm => (h.inn m hm).mono hn, h.row, h.len, Nat.le_trans h.few hn, h.clo, h.live, h.sep, h.apart⟩
theorem WAt.cells (h : WAt x b fv n W) : (W.cell? ⟨b, 0, none⟩ = some (.map (some x.mo)) ∧ W.cell? ⟨b, 1, none⟩ = some x.sv ∧ W.cell? ⟨b, 2, none⟩ = some fv) ∧ ∀ j, W.frozen? ⟨b, j, none⟩ = false :=
  ⟨⟨cell_of h.cell 0, cell_of h.cell 1, cell_of h.cell 2⟩, fun j => free_of h.cell j⟩
theorem WAt.row_at (h : WAt x b fv n W) {g : Nat} (hg : x.sv.ownBlock = some g) : ∃ cur, W.heap[g]? = some (.cells cur 1 (0, 0)) := by
  rcases h.row.2 with ⟨hv, _⟩ | ⟨g', cap, cur, hv, _, hc, _⟩
  · rw [hv] at hg; cases hg
  · rw [hv] at hg; cases hg; exact ⟨cur, hc⟩
theorem WAt.row_ne (h : WAt x b fv n W) {g : Nat} (hg : x.sv.ownBlock = some g) : g ≠ b ∧ g ≠ x.mo ∧ g ∉ x.ids := by
  obtain ⟨cur, hc⟩ := h.row_at hg
  refine ⟨fun e => ?_, fun e => ?_, fun hm => ?_⟩
  · rw [e, h.cell] at hc; cases hc
  · obtain ⟨D, ⟨es, clock, hm, _⟩, _⟩ := h.out
    rw [e, hm] at hc; cases hc
  · obtain ⟨D, ⟨es, clock, hm, _⟩, _⟩ := h.inn g hm
    rw [hm] at hc; cases hc
theorem WAt.mo_ne (h : WAt x b fv n W) : x.mo ≠ b := fun e => by
  obtain ⟨D, ⟨es, clock, hm, _⟩, _⟩ := h.out
  rw [e, h.cell] at hm; cases hm
theorem WAt.id_ne (h : WAt x b fv n W) {m : Nat} (hm : m ∈ x.ids) : m ≠ b ∧ m ≠ x.mo := by
  refine ⟨fun e => ?_, fun e => h.sep (by rw [← e]; exact hm)⟩
  obtain ⟨D, ⟨es, clock, hm, _⟩, _⟩ := h.inn m hm
  rw [e, h.cell] at hm; cases hm
/-- One change more. -/
theorem WAt.push (h : WAt x b fv n W) {O : Nm → Option Ch} {I : Nat → Nat → Option Nat} {ids : List Nat} {c : Bk} {q : Nat} {v' : Value}
    (T : Chg (fun j => j = b ∨ j = x.mo ∨ j ∈ x.ids ∨ x.sv.ownBlock = some j) (fun j => j = b ∨ j = x.mo ∨ j ∈ ids ∨ v'.ownBlock = some j ∨ (q ≤ j ∧ j < q + 5)) W V)
    (hcell : V.heap[b]? = some (worldO x.mo v' fv)) (hout : MapFn kitO x.mo (n + 1) O V) (hinn : ∀ m ∈ ids, MapFn kitW m (n + 1) (I m) V) (hbk : BkAt x.mo c q V) (hq : W.heap.size ≤ q) (hq5 : q + 5 ≤ V.heap.size)
    (hrow : V.ownsRow 0 1 1 v' (x.bs.length + 1) ((List.zipWith bkV x.bs x.qs).reverse ++ [bkV c q])) (hg : ∀ g, v'.ownBlock = some g → x.sv.ownBlock = some g ∨ q + 5 ≤ g)
    (hids : ∀ m ∈ ids, m ∈ x.ids ∨ (W.heap.size ≤ m ∧ (m < q ∨ q + 5 ≤ m))) (hlive : ∀ m, Live ⟨O, I⟩ (c :: x.bs) m → m ∈ ids) :
    WAt ⟨⟨O, I⟩, c :: x.bs, q :: x.qs, ids, x.mo, v'⟩ b fv (n + 1) V ∧ Chg (x.ft b) (Sx.ft ⟨⟨O, I⟩, c :: x.bs, q :: x.qs, ids, x.mo, v'⟩ b) W V := by
  have hbl := lt_of h.cell
  have hml := h.out.lt
  have hbox : ∀ q' ∈ x.qs, ∀ j, q' ≤ j → j < q' + 5 → j < W.heap.size ∧ V.heap[j]? = W.heap[j]? := fun q' hq' j h1 h2 => by
    have hj : j < W.heap.size := h.lt (Or.inr (Or.inr (Or.inr (Or.inr ⟨q', hq', h1, h2⟩))))
    obtain ⟨a1, a2, a3, a4⟩ := h.apart q' hq' j h1 h2
    exact ⟨hj, T.block j hj (fun hF => by rcases hF with e | e | e | e; exact a1 e; exact a2 e; exact a3 e; exact a4 e)⟩
  refine ⟨⟨hcell, hout, hinn, ?_, by simp [h.len], Nat.succ_le_succ h.few, fun i c' q' h1 h2 => ?_, hlive, fun hm => ?_, fun q' hq' j h1 h2 => ?_⟩, ?_⟩
  · have e : (List.zipWith bkV (c :: x.bs) (q :: x.qs)).reverse = (List.zipWith bkV x.bs x.qs).reverse ++ [bkV c q] := by simp
    show V.ownsRow 0 1 1 v' (c :: x.bs).length _
    rw [e]; exact hrow
  · cases i with
    | zero => simp at h1 h2; rw [← h1, ← h2]; exact ⟨hbk, hq5⟩
    | succ i =>
      simp at h1 h2
      obtain ⟨h3, h4⟩ := h.clo i c' q' h1 h2
      exact ⟨h3.keep fun j h5 h6 => (hbox q' (List.mem_of_getElem? h2) j h5 h6).2, Nat.le_trans h4 T.size⟩
  · rcases hids _ hm with h1 | h1
    · exact h.sep h1
    · have : x.mo < W.heap.size := hml
      show False; exact absurd h1.1 (by simp only at h1 ⊢; omega)
  · simp only at hq' ⊢
    rcases List.mem_cons.1 hq' with rfl | hq'
    · refine ⟨by omega, by omega, fun hm => ?_, fun e => ?_⟩
      · rcases hids j hm with h3 | h3
        · have := (h.inn j h3).lt; omega
        · omega
      · rcases hg j e with h3 | h3
        · have := h.row_lt h3; omega
        · omega
    · have hj := (hbox q' hq' j h1 h2).1
      obtain ⟨a1, a2, a3, a4⟩ := h.apart q' hq' j h1 h2
      refine ⟨a1, a2, fun hm => ?_, fun e => ?_⟩
      · rcases hids j hm with h3 | h3
        · exact a3 h3
        · omega
      · rcases hg j e with h3 | h3
        · exact a4 h3
        · omega
  · refine ⟨T.os, T.tape, T.output, T.size, fun k hk hn => T.block k hk fun hF => hn ?_, fun k hk => ?_⟩
    · rcases hF with e | e | e | e
      · exact Or.inl e
      · exact Or.inr (Or.inl e)
      · exact Or.inr (Or.inr (Or.inl e))
      · exact Or.inr (Or.inr (Or.inr (Or.inl e)))
    · rcases hk with e | e | e | e | ⟨q', hq', e1, e2⟩
      · exact Or.inl (Or.inl e)
      · exact Or.inl (Or.inr (Or.inl e))
      · rcases hids k e with h3 | h3
        · exact Or.inl (Or.inr (Or.inr (Or.inl h3)))
        · exact Or.inr h3.1
      · rcases hg k e with h3 | h3
        · exact Or.inl (Or.inr (Or.inr (Or.inr (Or.inl h3))))
        · exact Or.inr (by omega)
      · rcases List.mem_cons.1 hq' with rfl | hq'
        · exact Or.inr (by omega)
        · exact Or.inl (Or.inr (Or.inr (Or.inr (Or.inr ⟨q', hq', e1, e2⟩))))
end
end Go.Proofs.YtekoaheiapddiaaGreat.Dz.Wo
end
