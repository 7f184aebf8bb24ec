/- Maps as functions: over any keys and any elements that are told by a value. -/
import Derived.Maps.Ext
import Derived.Maps.OwnOps
import Derived.Maps.RangeWalk
import Derived.ChangeMaps5
import Derived.DeepKeys4
namespace Go.Proofs.Ytginibphicmmmaa.Mp
open Go Go.Maps Go.RowKit Go.ChangeMaps Go.MapKept

/-- An element's datum is its value. -/
def heldElem (v : Value) : Option (DataW Value × List MemPlace) := some (.held v, [])
/-- A kind of maps: how its keys and elements stand as values. -/
structure Kit (P : Program) (K V : Type) where
  mt : TypeId
  kt : TypeId
  vt : TypeId
  ek : K → Value
  ev : V → Value
  lit : K → Lit
  Ok : K → Prop
  z : Value
  hu : P.underlying mt = some (.map kt vt)
  law : Keyed P kt
  key : ∀ {k : K}, Ok k → keyOf P kt (ek k) = some (lit k)
  inj : ∀ {a b : K}, Ok a → Ok b → lit a = lit b → a = b
  zero : ∀ w : World, (zeroValue vt).run P w = .ok z w
def upf {K V : Type} [DecidableEq K] (f : K → Option V) (k : K) (o : Option V) : K → Option V := fun j => if j = k then o else f j
theorem upf_same {K V : Type} [DecidableEq K] (f : K → Option V) (k : K) (o : Option V) : upf f k o k = o := if_pos rfl
theorem upf_other {K V : Type} [DecidableEq K] (f : K → Option V) {k j : K} (o : Option V) (h : j ≠ k) : upf f k o j = f j := if_neg h
theorem upf_back {K V : Type} [DecidableEq K] (f : K → Option V) (k : K) (o : Option V) : upf (upf f k o) k (f k) = f := by
  funext j
  by_cases h : j = k
  · rw [h, upf_same]
  · rw [upf_other _ _ h, upf_other _ _ h]
section
variable {P : Program} {K V : Type} (T : Kit P K V)
def encO (o : Option V) : DataW Value := match o with | some v => .held (T.ev v) | none => .nil
/-- What the data D say, told by a function. -/
structure Says (f : K → Option V) (D : DataW Value) : Prop where
  get : ∀ k, T.Ok k → D.atKey (T.lit k) .nil = encO T (f k)
  has : ∀ k, T.Ok k → Maps.has D (T.lit k) = (f k).isSome
  keys : ∀ kl, Maps.has D kl = true → ∃ k, T.Ok k ∧ kl = T.lit k
  off : ∀ k, ¬ T.Ok k → f k = none
/-- The map at block m, of at most n entries, is f. -/
def MapFn (m n : Nat) (f : K → Option V) (W : World) : Prop := ∃ D, W.ownsMap P T.kt heldElem m n D ∧ Says T f D
/-- A loop over it, at block r, under way: todo are to come. -/
def MapRg (m r n : Nat) (f : K → Option V) (todo : K → Bool) (cnt : Nat) (W : World) : Prop :=
  ∃ D left, W.ranges P T.kt heldElem m r n D left cnt ∧ Says T f D ∧ (∀ k, T.Ok k → left (T.lit k) = todo k) ∧ ∀ kl, left kl = true → Maps.has D kl = true
variable {T} {m n r cnt : Nat} {f : K → Option V} {W W' : World} {D : DataW Value} {k : K}
theorem MapFn.lt (h : MapFn T m n f W) : m < W.heap.size := by obtain ⟨D, h, _⟩ := h; exact h.lt
theorem MapFn.mono (h : MapFn T m n f W) {n' : Nat} (hn : n ≤ n') : MapFn T m n' f W := by obtain ⟨D, h, h2⟩ := h; exact ⟨D, h.mono hn, h2⟩
theorem MapFn.keep (h : MapFn T m n f W) (hb : W'.heap[m]? = W.heap[m]?) : MapFn T m n f W' := by
  obtain ⟨D, ⟨es, clock, h, h1⟩, h2⟩ := h
  exact ⟨D, ⟨es, clock, hb.trans h, h1⟩, h2⟩
theorem Says.empty (T : Kit P K V) : Says T (fun _ => none) (.map []) := ⟨fun _ _ => rfl, fun _ _ => rfl, fun _ h => (by cases h), fun _ _ => rfl⟩
theorem MapFn.made (T : Kit P K V) (W : World) : MapFn T W.heap.size 0 (fun _ => none) (W.alloc (.map #[] 0)) := ⟨_, World.ownsMap_made W P T.kt heldElem, Says.empty T⟩
theorem held_inj {v : Value} {o : Option V} (h : encO T o = .held v) : ∃ x, o = some x ∧ T.ev x = v := by
  cases o with
  | none => simp [encO] at h
  | some x => simp [encO] at h; exact ⟨x, rfl, h⟩
theorem Says.at_ (h : Says T f D) (hk : T.Ok k) {y : DataW Value} (hat : ∀ zd, D.atKey (T.lit k) zd = y) {v : Value} (hy : y = .held v) : ∃ x, f k = some x ∧ T.ev x = v := by
  have h1 := h.get k hk
  rw [hat, hy] at h1
  exact held_inj h1.symm
theorem MapFn.look (h : MapFn T m n f W) (hk : T.Ok k) (c : Bool) : (Instr.lookup T.mt (.map (some m)) (T.ek k) c).run P W = .ok (if c then .tuple #[(f k).elim T.z T.ev, .bool (f k).isSome] else (f k).elim T.z T.ev) W := by
  obtain ⟨D, ⟨es, clock, hb, F, _, rfl⟩, hS⟩ := h
  rcases fit_look c T.law T.hu (T.zero W) hb F (T.key hk) with ⟨hrun, _, hat⟩ | ⟨e0, y, _, _, hrun, hR, hat, _⟩
  · have h1 := hS.has k hk
    rw [has_false_of_atKey hat] at h1
    have h2 : f k = none := by cases hf : f k with
      | none => rfl
      | some x => rw [hf] at h1; cases h1
    rw [h2, hrun]
    rfl
  · simp only [heldElem, Option.some.injEq] at hR
    obtain ⟨x, h2, h3⟩ := hS.at_ hk hat (v := e0.val) (by rw [← hR])
    rw [h2, hrun, ← h3]
    rfl
theorem look_nil (T : Kit P K V) (hk : T.Ok k) (W : World) (c : Bool) : (Instr.lookup T.mt (.map none) (T.ek k) c).run P W = .ok (if c then .tuple #[T.z, .bool false] else T.z) W := by
  have hck := T.law.check W true (T.key hk)
  rcases T.law.find W (T.key hk) [] (by simp) with ⟨h1, _⟩ | ⟨j, e, _, h2, _⟩
  · simp [Instr.lookup, run_underlying T.hu, hck, h1, T.zero W, Result.andThen]
  · simp at h2
theorem key_lit (T : Kit P K V) (hk : T.Ok k) : WideAt.IsKeyLit (T.lit k) := T.law.key (T.key hk)
theorem MapFn.put [DecidableEq K] (h : MapFn T m n f W) (hn : n < maxLen) (hk : T.Ok k) (v : V) :
    ∃ o, (Instr.mapUpdate T.mt (.map (some m)) (T.ek k) (T.ev v)).run P W = .ok () (ChangeMaps.setBlock W m o) ∧ MapFn T m (n + 1) (upf f k (some v)) (ChangeMaps.setBlock W m o) := by
  obtain ⟨D, ⟨es, clock, hb, F, hs, hD⟩, hS⟩ := h
  have hm : IsMap D := by rw [hD]; exact ⟨_, rfl⟩
  obtain ⟨es', clock', hrun, F', hput, _⟩ := fit_store (R' := heldElem) (yv := (.held (T.ev v), [])) T.law T.hu hb F (Nat.lt_of_le_of_lt hs hn) (fun _ _ _ _ hz => hz) (T.key hk) rfl
  have hmem : (ChangeMaps.setBlock W m (.map es' clock')).ownsMap P T.kt heldElem m (n + 1) (D.put (T.lit k) (.held (T.ev v))) := by
    refine ⟨es', clock', heap_setBlock_same hb _, F', ?_, ?_⟩
    · have e1 : es'.size = ((es'.toList.map (Go.WideElems.rg P T.kt heldElem)).foldr DataW.insert []).length := by rw [length_sorted]; simp
      rw [e1, hput]
      unfold putKey
      rw [length_insert]
      have e2 := List.length_filter_le (notKey (T.lit k)) ((es.toList.map (Go.WideElems.rg P T.kt heldElem)).foldr DataW.insert [])
      rw [length_sorted] at e2
      simp at e2
      omega
    · rw [hD, DataW.put_eq, hput]
  refine ⟨_, hrun, _, hmem, ⟨fun j hj => ?_, fun j hj => ?_, fun kl hkl => ?_, fun j hj => ?_⟩⟩
  · by_cases e : j = k
    · rw [e, atKey_put_same hm (key_lit T hk), upf_same]; rfl
    · rw [atKey_put_other (fun h => e (T.inj hj hk h)), hS.get j hj, upf_other _ _ e]
  · by_cases e : j = k
    · rw [e, has_put_same hm (key_lit T hk), upf_same]; rfl
    · rw [has_put_other (fun h => e (T.inj hj hk h)), hS.has j hj, upf_other _ _ e]
  · by_cases e : kl = T.lit k
    · exact ⟨k, hk, e⟩
    · rw [has_put_other e] at hkl
      exact hS.keys kl hkl
  · rw [upf_other _ _ (fun e => hj (by rw [e]; exact hk))]
    exact hS.off j hj
theorem MapFn.del [DecidableEq K] (h : MapFn T m n f W) (hk : T.Ok k) (ty : TypeId) :
    ∃ o, (Builtin.delete_ #[T.mt, T.kt] ty #[.map (some m), T.ek k]).run P W = .ok (.tuple #[]) (ChangeMaps.setBlock W m o) ∧ MapFn T m n (upf f k none) (ChangeMaps.setBlock W m o) := by
  obtain ⟨D, ⟨es, clock, hb, F, hs, hD⟩, hS⟩ := h
  obtain ⟨es', hrun, F', hsz, hdel, _⟩ := fit_drop (ty := ty) T.law T.hu hb F (T.key hk)
  have hmem : (ChangeMaps.setBlock W m (.map es' clock)).ownsMap P T.kt heldElem m n (D.del (T.lit k)) :=
    ⟨es', clock, heap_setBlock_same hb _, F', Nat.le_trans hsz hs, by rw [hD, DataW.del_eq, hdel]⟩
  refine ⟨_, hrun, _, hmem, ⟨fun j hj => ?_, fun j hj => ?_, fun kl hkl => ?_, fun j hj => ?_⟩⟩
  · by_cases e : j = k
    · rw [e, atKey_del_same, upf_same]; rfl
    · rw [atKey_del_other (fun h => e (T.inj hj hk h)), hS.get j hj, upf_other _ _ e]
  · by_cases e : j = k
    · rw [e, has_del_same, upf_same]; rfl
    · rw [has_del_other (fun h => e (T.inj hj hk h)), hS.has j hj, upf_other _ _ e]
  · by_cases e : kl = T.lit k
    · rw [e, has_del_same] at hkl; cases hkl
    · rw [has_del_other e] at hkl
      exact hS.keys kl hkl
  · by_cases e : j = k
    · rw [e, upf_same]
    · rw [upf_other _ _ e]; exact hS.off j hj
/-! A loop over the map. -/
theorem MapFn.range (h : MapFn T m n f W) : ∃ W' cnt, (Instr.range T.mt (.map (some m))).run P W = .ok (.pointer (some ⟨W.heap.size, 0, none⟩)) W' ∧ MapRg T m W.heap.size n f (fun k => (f k).isSome) cnt W' ∧ W.grownBy W' none ∧ W'.heap.size = W.heap.size + 1 ∧ cnt ≤ n := by
  obtain ⟨D, h, hS⟩ := h
  obtain ⟨W', h1, h2, h3, h4⟩ := h.range T.law T.hu
  refine ⟨W', _, h1, ⟨D, _, h2, hS, fun k hk => hS.has k hk, fun _ h => h⟩, h3, h4, ?_⟩
  obtain ⟨es, clock, hb, F, hs, rfl⟩ := h
  show (List.foldr DataW.insert [] _).length ≤ n
  rw [length_sorted]
  simpa using hs
theorem MapRg.fn (h : ∃ todo, MapRg T m r n f todo cnt W) : MapFn T m n f W := by
  obtain ⟨todo, D, left, h, hS, _⟩ := h
  exact ⟨D, h.owns, hS⟩
theorem MapRg.left_eq {todo : K → Bool} (h : MapRg T m r n f todo cnt W) : W.rangeLeft m r = cnt := by obtain ⟨D, left, h, _⟩ := h; exact h.left_eq
theorem MapRg.ne {todo : K → Bool} (h : MapRg T m r n f todo cnt W) : r ≠ m := by obtain ⟨D, left, h, _⟩ := h; exact h.ne
theorem MapRg.lt {todo : K → Bool} (h : MapRg T m r n f todo cnt W) : r < W.heap.size := by obtain ⟨D, left, h, _⟩ := h; exact h.lt
theorem MapRg.keep {todo : K → Bool} (h : MapRg T m r n f todo cnt W) (hb : W'.heap[m]? = W.heap[m]?) (hr : W'.heap[r]? = W.heap[r]?) : MapRg T m r n f todo cnt W' := by
  obtain ⟨D, left, ⟨es, clock, since, seen, c0, h1, h2, h3, h4, h5, h6⟩, hS⟩ := h
  exact ⟨D, left, ⟨es, clock, since, seen, c0, hb.trans h1, h2, h3, h4, hr.trans h5, h6⟩, hS⟩
theorem MapRg.next [DecidableEq K] {todo : K → Bool} (h : MapRg T m r n f todo cnt W) (ty : TypeId) :
    (cnt = 0 ∧ (∀ k, T.Ok k → todo k = false) ∧ (Instr.next (.pointer (some ⟨r, 0, none⟩)) false ty).run P W = .ok (.tuple #[.bool false]) W) ∨
    ∃ k v W' cnt', T.Ok k ∧ todo k = true ∧ f k = some v ∧ (Instr.next (.pointer (some ⟨r, 0, none⟩)) false ty).run P W = .ok (.tuple #[.bool true, T.ek k, T.ev v]) W' ∧
      MapRg T m r n f (fun j => todo j && !decide (j = k)) cnt' W' ∧ cnt' < cnt ∧ W.grownBy W' (some r) ∧ W'.heap.size = W.heap.size ∧ (Instr.entry (.pointer (some ⟨r, 0, none⟩))).run P W' = .ok (.tuple #[T.ek k, T.ev v]) W' := by
  obtain ⟨D, left, h, hS, hl, hl2⟩ := h
  rcases h.next T.law ty with ⟨h0, h1, h2⟩ | ⟨key, v, kl, y, W', cnt', h1, h2, h3, h4, h5, h6, h7, h8, h9, h10⟩
  · exact Or.inl ⟨h0, fun k hk => by rw [← hl k hk, h1], h2⟩
  · obtain ⟨k, hk, rfl⟩ := hS.keys kl (hl2 kl h2)
    have ek : key = T.ek k := T.law.inj h1 (T.key hk)
    simp only [heldElem, Option.some.injEq] at h3
    obtain ⟨x, hx, ex⟩ := hS.at_ hk h4 (v := v) (by rw [← h3])
    subst ek ex
    refine Or.inr ⟨k, x, W', cnt', hk, by rw [← hl k hk, h2], hx, h5, ⟨D, _, h6, hS, fun j hj => ?_, fun kl hkl => hl2 kl (by simp at hkl; exact hkl.1)⟩, h7, h8, h9, h10⟩
    show (left (T.lit j) && !(T.lit j).sameKey (T.lit k)) = _
    rw [hl j hj]
    congr 2
    by_cases e : j = k
    · rw [e, WideAt.sameKey_self (key_lit T hk)]; simp
    · rw [sameKey_ne (fun h => e (T.inj hj hk h))]; simp [e]
theorem wpList_range_fn (W : World) {ops : Array Oper} {rest : List Oper} {o : Oper} {a : Act} {Q : Exit → Act → World → Prop} (hg : o.guard = none) (mo : Operand) (hop : o.op = Op.range T.mt mo) (hm : a.eval mo = .map (some m)) (h : MapFn T m n f W)
    (hK : ∀ W' cnt, MapRg T m W.heap.size n f (fun k => (f k).isSome) cnt W' → W.grownBy W' none → W'.heap.size = W.heap.size + 1 → cnt ≤ n → wpList P ops Q rest (a.put o.dst (.pointer (some ⟨W.heap.size, 0, none⟩))) W') :
    wpList P ops Q (o :: rest) a W := by
  refine wpList_plain hg fun K' hK' => ?_
  obtain ⟨W', cnt, hrun, r1, r2, r3, r4⟩ := h.range
  unfold Oper.wp
  simp [execOp, hop, hm, hrun, Result.andThen]
  exact hK' _ _ (hK W' cnt r1 r2 r3 r4)
theorem wpList_next_fn [DecidableEq K] (W : World) {ops : Array Oper} {rest : List Oper} {o : Oper} {a : Act} {Q : Exit → Act → World → Prop} (hg : o.guard = none) (it : Operand) (hop : o.op = Op.next it false) (hit : a.eval it = .pointer (some ⟨r, 0, none⟩)) {todo : K → Bool} (h : MapRg T m r n f todo cnt W)
    (hDone : cnt = 0 → (∀ k, T.Ok k → todo k = false) → wpList P ops Q rest (a.put o.dst (.tuple #[.bool false])) W)
    (hMore : ∀ (k : K) (v : V) (W' : World) (cnt' : Nat), T.Ok k → todo k = true → f k = some v → MapRg T m r n f (fun j => todo j && !decide (j = k)) cnt' W' → cnt' < cnt → W.grownBy W' (some r) → W'.heap.size = W.heap.size →
      (Instr.entry (.pointer (some ⟨r, 0, none⟩))).run P W' = .ok (.tuple #[T.ek k, T.ev v]) W' → wpList P ops Q rest (a.put o.dst (.tuple #[.bool true, T.ek k, T.ev v])) W') :
    wpList P ops Q (o :: rest) a W := by
  refine wpList_plain hg fun K' hK' => ?_
  unfold Oper.wp
  rcases h.next o.type with ⟨h0, hl, hrun⟩ | ⟨k, v, W', cnt', h1, h2, h3, hrun, h4, h5, h6, h7, h8⟩
  · simp [execOp, hop, hit, hrun, Result.andThen]
    exact hK' _ _ (hDone h0 hl)
  · simp [execOp, hop, hit, hrun, Result.andThen]
    exact hK' _ _ (hMore k v W' cnt' h1 h2 h3 h4 h5 h6 h7 h8)
end
end Go.Proofs.Ytginibphicmmmaa.Mp
