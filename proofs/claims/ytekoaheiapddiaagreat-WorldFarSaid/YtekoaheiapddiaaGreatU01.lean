/- Merged: Base, Draw, St, Among. -/
import Derived.WalkKit
import Derived.WalkSpells
import Derived.WalkLawsBesides
import Derived.Lib.Hide
import Derived.OrdersHeld
import Derived.KernelRfl
section
namespace Go.Proofs.YtekoaheiapddiaaGreat
open Go.RowKit

/-- Below block B the world w' is as w was, but for the blocks that 'may' names. -/
structure Only (may : Nat → Prop) (B : Nat) (w w' : World) : Prop where
  os : w'.os = w.os
  tape : w'.tape = w.tape
  output : w'.output = w.output
  size : w.heap.size ≤ w'.heap.size
  block : ∀ k, k < B → ¬ may k → w'.heap[k]? = w.heap[k]?

theorem Only.refl (may : Nat → Prop) (B : Nat) (w : World) : Only may B w w := ⟨rfl, rfl, rfl, Nat.le_refl _, fun _ _ _ => rfl⟩
theorem Only.trans {may : Nat → Prop} {B : Nat} {a b c : World} (h : Only may B a b) (k : Only may B b c) : Only may B a c :=
  ⟨k.os.trans h.os, k.tape.trans h.tape, k.output.trans h.output, Nat.le_trans h.size k.size, fun i hi hn => (k.block i hi hn).trans (h.block i hi hn)⟩
theorem Only.mono {may may' : Nat → Prop} {B B' : Nat} {w w' : World} (h : Only may B w w') (hB : B' ≤ B) (hm : ∀ k, k < B' → may k → may' k) : Only may' B' w w' :=
  ⟨h.os, h.tape, h.output, h.size, fun k hk hn => h.block k (Nat.lt_of_lt_of_le hk hB) (fun hmk => hn (hm k hk hmk))⟩
theorem Only.alloc {may : Nat → Prop} {B : Nat} {a w : World} (h : Only may B a w) (hB : B ≤ w.heap.size) (o : Obj) : Only may B a (w.alloc o) :=
  h.trans ⟨rfl, rfl, rfl, by simp, fun k hk _ => Below.heap_alloc _ _ _ (by omega)⟩
theorem Only.setCell {may : Nat → Prop} {B : Nat} {a w : World} (h : Only may B a w) {p : Addr} (hp : B ≤ p.block ∨ may p.block) (u : Value) : Only may B a (w.setCell p u) :=
  h.trans ⟨rfl, rfl, rfl, by simp [World.setCell], fun k hk hn => Below.heap_setCell _ _ _ _ (fun e => hp.elim (fun hp => by omega) (fun hp => hn (e ▸ hp)))⟩
theorem Only.of_below {may : Nat → Prop} {B : Nat} {w w' : World} (h : Below B w w') : Only may B w w' := ⟨h.os, h.tape, h.output, h.size, fun k hk _ => h.block k hk⟩
theorem Only.below {may : Nat → Prop} {B B' : Nat} {w w' : World} (h : Only may B w w') (hB : B' ≤ B) (hm : ∀ k, k < B' → ¬ may k) : Below B' w w' :=
  ⟨h.os, h.tape, h.output, h.size, fun k hk => h.block k (by omega) (hm k hk)⟩

/-- The cells of a block that is known whole. -/
theorem cell_of {w : World} {b : Nat} {cs : Array Value} {t : TypeId} {fr : Nat × Nat} (h : w.heap[b]? = some (.cells cs t fr)) (j : Nat) : w.cell? ⟨b, j, none⟩ = cs[j]? := by
  simp [World.cell?, h]
theorem free_of {w : World} {b : Nat} {cs : Array Value} {t : TypeId} (h : w.heap[b]? = some (.cells cs t (0, 0))) (j : Nat) : w.frozen? ⟨b, j, none⟩ = false := by
  simp [World.frozen?, h]
theorem lt_of {w : World} {b : Nat} {o : Obj} (h : w.heap[b]? = some o) : b < w.heap.size := by
  rcases Nat.lt_or_ge b w.heap.size with h' | h'
  · exact h'
  · simp [Array.getElem?_eq_none h'] at h

theorem heap_alloc_get (w : World) (o : Obj) (k : Nat) : (w.alloc o).heap[k]? = if k = w.heap.size then some o else w.heap[k]? := by
  show (w.heap.push o)[k]? = _
  rw [Array.getElem?_push]

theorem alloc_size (w : World) (o : Obj) : (w.alloc o).heap.size = w.heap.size + 1 := by
  show (w.heap.push o).size = _
  simp

/-- What a call hands back whose results are a variable of several cells and a slot. -/
theorem results_cell_slot {P : Program} {fn : Func} {p q : Tmp} {ty : TypeId} (h : fn.results = #[.cell p ty, .tmp q]) (tmps : Array Value) (w : World) (g : Nat) (t : TypeId) (cs : Array Value) (fr : Nat × Nat) (d : TypeDesc) (v : Value)
    (hp : tmps.getD p undef = .pointer (some ⟨g, 0, none⟩)) (hq : tmps.getD q undef = v) (hg : w.heap[g]? = some (.cells cs t fr))
    (hu : P.underlying ty = some d) (hd : (match d with | .struct _ | .array _ _ => true | _ => false) = true) (hi : (P.info? ty).map (·.size) = some cs.size) :
    (results fn tmps).run P w = .ok (.tuple #[.agg cs, v]) w := by
  have hp' : tmps[p]?.getD undef = .pointer (some ⟨g, 0, none⟩) := by simpa using hp
  have hq' : tmps[q]?.getD undef = v := by simpa using hq
  simp [results, h, hp', hq', asAddr, run_loadVar_row w g t ty cs fr d hg hu hd hi]

/-- Four stores, one behind the other, into a block of four. -/
theorem heap_set4 {w : World} {b : Nat} {v0 v1 v2 v3 : Value} {t : TypeId} (h : w.heap[b]? = some (.cells #[v0, v1, v2, v3] t (0, 0))) (u0 u1 u2 u3 : Value) :
    ((((w.setCell ⟨b, 0, none⟩ u0).setCell ⟨b, 1, none⟩ u1).setCell ⟨b, 2, none⟩ u2).setCell ⟨b, 3, none⟩ u3).heap[b]? = some (.cells #[u0, u1, u2, u3] t (0, 0)) := by
  have e := heap_setCell_same _ _ 3 _ _ u3 (heap_setCell_same _ _ 2 _ _ u2 (heap_setCell_same _ _ 1 _ _ u1 (heap_setCell_same _ _ 0 _ _ u0 h)))
  simpa using e

/-- Four stores into one block from B on. -/
theorem below_set4 {B b : Nat} {a w : World} (h : Below B a w) (hb : B ≤ b) (u0 u1 u2 u3 : Value) :
    Below B a ((((w.setCell ⟨b, 0, none⟩ u0).setCell ⟨b, 1, none⟩ u1).setCell ⟨b, 2, none⟩ u2).setCell ⟨b, 3, none⟩ u3) :=
  (((h.setCell (by simpa using hb) _).setCell (by simpa using hb) _).setCell (by simpa using hb) _).setCell (by simpa using hb) _

theorem cells4 {w : World} {b : Nat} {v0 v1 v2 v3 : Value} {t : TypeId} (h : w.heap[b]? = some (.cells #[v0, v1, v2, v3] t (0, 0))) :
    (w.cell? ⟨b, 0, none⟩ = some v0 ∧ w.cell? ⟨b, 1, none⟩ = some v1 ∧ w.cell? ⟨b, 2, none⟩ = some v2 ∧ w.cell? ⟨b, 3, none⟩ = some v3) ∧
    (w.frozen? ⟨b, 0, none⟩ = false ∧ w.frozen? ⟨b, 1, none⟩ = false ∧ w.frozen? ⟨b, 2, none⟩ = false ∧ w.frozen? ⟨b, 3, none⟩ = false) := by
  refine ⟨⟨?_, ?_, ?_, ?_⟩, free_of h 0, free_of h 1, free_of h 2, free_of h 3⟩
  · rw [cell_of h 0]; rfl
  · rw [cell_of h 1]; rfl
  · rw [cell_of h 2]; rfl
  · rw [cell_of h 3]; rfl
/-- What is known of the world W in the midst of a call that began in w: below B it is as w was; N blocks are there at least; the blocks of the list (all below N) hold what it says, and may be written. -/
structure Fr (w : World) (B N : Nat) (L : List (Nat × Array Value × TypeId)) (W : World) : Prop where
  below : Below B w W
  le : B ≤ N
  size : N ≤ W.heap.size
  know : ∀ x ∈ L, x.1 < N ∧ W.heap[x.1]? = some (.cells x.2.1 x.2.2 (0, 0))

theorem Fr.call {w W w1 : World} {B N : Nat} {L : List (Nat × Array Value × TypeId)} (h : Fr w B N L W) (hb : Below W.heap.size W w1) : Fr w B N L w1 :=
  ⟨h.below.trans (hb.mono (Nat.le_trans h.le h.size)), h.le, Nat.le_trans h.size hb.size, fun x hx => ⟨(h.know x hx).1, (hb.block _ (Nat.lt_of_lt_of_le (h.know x hx).1 h.size)).trans (h.know x hx).2⟩⟩
theorem Fr.alloc {w W : World} {B N : Nat} {L : List (Nat × Array Value × TypeId)} (h : Fr w B N L W) (o : Obj) : Fr w B N L (W.alloc o) :=
  h.call ((Below.refl _ _).alloc (Nat.le_refl _) _)
theorem Fr.drew {w W : World} {B N : Nat} {L : List (Nat × Array Value × TypeId)} (h : Fr w B N L W) : Fr w B N L W.drew := ⟨h.below.drew, h.le, h.size, h.know⟩
theorem Fr.set {w W : World} {B N : Nat} {L : List (Nat × Array Value × TypeId)} (h : Fr w B N L W) {p : Addr} (hp : N ≤ p.block) (u : Value) : Fr w B N L (W.setCell p u) :=
  ⟨h.below.setCell (Nat.le_trans h.le hp) _, h.le, by simpa [World.setCell] using h.size, fun x hx => ⟨(h.know x hx).1, (Below.heap_setCell _ _ _ _ (by have := (h.know x hx).1; omega)).trans (h.know x hx).2⟩⟩
/-- One block more that is known. -/
theorem Fr.new {w W : World} {B : Nat} {L : List (Nat × Array Value × TypeId)} (cs : Array Value) (t : TypeId) (h : Fr w B W.heap.size L W) : Fr w B (W.heap.size + 1) ((W.heap.size, cs, t) :: L) (W.alloc (.cells cs t)) := by
  refine ⟨h.below.alloc h.le _, by have := h.le; omega, by simp, fun x hx => ?_⟩
  rcases List.mem_cons.1 hx with rfl | hx
  · exact ⟨by simp, heap_alloc_new _ _⟩
  · have hk := h.know x hx
    exact ⟨by omega, (Below.heap_alloc _ _ _ hk.1).trans hk.2⟩
theorem Fr.start (w : World) : Fr w w.heap.size w.heap.size [] w := ⟨Below.refl _ _, Nat.le_refl _, Nat.le_refl _, by simp⟩
theorem Fr.one (w : World) (c0 : Array Value) (t0 : TypeId) : Fr w w.heap.size (w.heap.size + 1) [(w.heap.size, c0, t0)] (w.alloc (.cells c0 t0)) := (Fr.start w).new c0 t0
/-- 2^64, kept from the walk. -/
def M64 : Nat := 18446744073709551616

/-- Four numbers as the cells of an array. -/
def four (a b c d : Nat) : Array Value := #[.int .u64 (a : Int), .int .u64 (b : Int), .int .u64 (c : Int), .int .u64 (d : Int)]

end Go.Proofs.YtekoaheiapddiaaGreat
end
section
namespace Go.Proofs.YtekoaheiapddiaaGreat
open Go.RowKit

theorem put_list (l : List Value) (d : List Deferred) (k : Tmp) (v : Value) : Act.put ⟨l.toArray, d⟩ (some k) v = ⟨(l.set k v).toArray, d⟩ := by simp [Act.put]
theorem put_none (a : Act) (v : Value) : Act.put a none v = a := rfl

section
variable {P : Program} {ops : Array Oper} {Q : Exit → Act → World → Prop} {md : Region.Mode} {S : World → Prop} {ex : Nat → Bool}

/-- Has one that 'ex' names come up? -/
def dirty (n : Nat) (ex : Nat → Bool) (done : Array Bool) : Bool := (List.range n).any fun j => ex j && done.getD j false

theorem dirty_set {n : Nat} {done : Array Bool} {j : Nat} (hx : ex j = false) (h : dirty n ex done = false) : dirty n ex (done.setIfInBounds j true) = false := by
  simp only [dirty, List.any_eq_false, List.mem_range] at h ⊢
  intro k hk
  by_cases hjk : j = k
  · subst hjk; simp [hx]
  · rw [getD_set_ne false hjk]; exact h k hk
/-- Every order from here on; S is asked behind each operation, until one that 'ex' names has come up. -/
def Drawn (P : Program) (md : Region.Mode) (ops : Array Oper) (Q : Exit → Act → World → Prop) (S : World → Prop) (ex : Nat → Bool) (n : Nat) (done : Array Bool) (a : Act) (w : World) : Prop :=
  match n with
  | 0 => Region.ready md ops done = [] ∧ Q .normal a w
  | n + 1 => (Region.ready md ops done = [] → Q .normal a w) ∧
      ∀ i ∈ Region.ready md ops done, wpOp P ops Q i (fun a' w' => (ex i = false → dirty ops.size ex done = false → S w') ∧ Drawn P md ops Q S ex n (done.setIfInBounds i true) a' w') a w

theorem Drawn.any : ∀ (n : Nat) (done : Array Bool) (a : Act) (w : World), Drawn P md ops Q S ex n done a w → wpAny P md ops Q n done a w := by
  intro n
  induction n with
  | zero => intro done a w h; exact h
  | succ n ih => intro done a w h; exact ⟨h.1, fun i hi => wpOp_mono (fun a' w' k => ih _ _ _ k.2) (h.2 i hi)⟩

/-- The operations that 'ex' names, and that have not come up, wait for number i. -/
def waits (md : Region.Mode) (ops : Array Oper) (ex : Nat → Bool) (done : Array Bool) (i : Nat) : Bool :=
  (List.range ops.size).all fun j => !ex j || done.getD j true || match ops[j]? with
    | some o => o.after.any fun e => Region.binds md e && e.on == i
    | none => true

theorem waits_spec {i : Nat} {done : Array Bool} (h : waits md ops ex done i = true) (j : Nat) (o : Oper) (ho : ops[j]? = some o) (hx : ex j = true) (hd : done.getD j true = false) :
    ∃ e ∈ o.after, Region.binds md e = true ∧ e.on = i := by
  simp only [waits, List.all_eq_true, List.mem_range] at h
  have h1 := h j (Array.getElem?_eq_some_iff.1 ho).1
  simp only [ho, hx, hd, Bool.not_true, Bool.false_or] at h1
  obtain ⟨e, he, hb⟩ := Array.any_eq_true'.1 h1
  simp only [Bool.and_eq_true, beq_iff_eq] at hb
  exact ⟨e, he, hb.1, hb.2⟩

theorem not_ready_of_edge {i j : Nat} {o : Oper} {done : Array Bool} (hi : i ∈ Region.ready md ops done) (hj : j ∈ Region.ready md ops done) (ho : ops[j]? = some o)
    (e : _) (he : e ∈ o.after) (hb : Region.binds md e = true) (heq : e.on = i) : False := by
  obtain ⟨_, o', ho', hall⟩ := mem_ready.1 hj
  obtain rfl : o = o' := Option.some.inj (ho.symm.trans ho')
  have h1 := hall e he hb
  rw [heq] at h1
  have h0 := (mem_ready.1 hi).1
  rcases Nat.lt_or_ge i done.size with h' | h'
  · simp [h'] at h0 h1; simp [h0] at h1
  · simp [Array.getElem?_eq_none h'] at h1

theorem Drawn.first {i : Nat} {oi : Oper} {v : Value} (hi : ops[i]? = some oi) (hsel : ∀ (j : Nat) (o : Oper) cs b, ops[j]? = some o → o.op ≠ .select cs b)
    (hQ : ∀ c a w, Q (.panic c) (a.put oi.dst v) w → Q (.panic c) a w) (hxi : ex i = false) :
    ∀ (n : Nat) (done : Array Bool) (a : Act) (w : World),
      (∀ j oj, ops[j]? = some oj → j ≠ i → done.getD j true = false → (∀ e ∈ oj.after, Region.binds md e = true → e.on ≠ i) → oi.apart ops oj = true) →
      (∀ j o, ops[j]? = some o → ex j = true → done.getD j true = false → ∃ e ∈ o.after, Region.binds md e = true ∧ e.on = i) →
      i ∈ Region.ready md ops done → dirty ops.size ex done = false → YieldsIf P ops S oi v a → S w →
      Drawn P md ops Q S ex n (done.setIfInBounds i true) (a.put oi.dst v) w → Drawn P md ops Q S ex (n + 1) done a w := by
  intro n
  induction n with
  | zero =>
    intro done a w _ _ hr hx hy hS H
    refine ⟨fun h => absurd hr (by rw [h]; simp), fun j hj => ?_⟩
    rcases Nat.decEq j i with hji | hji
    · exact absurd (ready_mono hj hji) (by rw [H.1]; simp)
    · subst hji; exact hy.wpOp hi hS ⟨fun _ _ => hS, H⟩
  | succ n ih =>
    intro done a w hfree hw hr hx hy hS H
    refine ⟨fun h => absurd hr (by rw [h]; simp), fun j hj => ?_⟩
    rcases Nat.decEq j i with hji | hji
    · obtain ⟨hjun, oj, hoj, hall⟩ := mem_ready.1 hj
      have hnot : ∀ e ∈ oj.after, Region.binds md e = true → e.on ≠ i := fun e he hb heq => not_ready_of_edge hr hj hoj e he hb heq
      have hxj : ex j = false := by
        cases hxj : ex j with
        | false => rfl
        | true =>
          obtain ⟨e, he, hb, heq⟩ := hw j oj hoj hxj hjun
          exact absurd heq (hnot e he hb)
      have back : ∀ k, (done.setIfInBounds j true).getD k true = false → done.getD k true = false := fun k hk => by
        by_cases hjk : j = k
        · subst hjk; exact hjun
        · rwa [getD_set_ne true hjk] at hk
      refine wpOp_mono (fun a' w' h3 => ⟨fun h1 h2 => h3.2.1 h1 (dirty_set hxi h2), ih (done.setIfInBounds j true) a' w' (fun k ok hk hki hun hno => hfree k ok hk hki (back k hun) hno)
        (fun k o hk hxk hun => hw k o hk hxk (back k hun)) (ready_mono hr (Ne.symm hji)) (dirty_set hxj hx) h3.1 (h3.2.1 hxj (dirty_set hxi hx)) ?_⟩)
        (wpOp_putIf hoj (hfree j oj hoj hji hjun hnot) (fun cs b => hsel i oi cs b hi) (fun cs b => hsel j oj cs b hoj) hQ hy (H.2 j (ready_mono hj hji)))
      rw [Array.setIfInBounds_comm _ _ hji]
      exact h3.2.2
    · subst hji; exact hy.wpOp hi hS ⟨fun _ _ => hS, H⟩

/-- Take number i first: a load. -/
theorem Drawn.take (i : Nat) (d : Option Tmp) {oi : Oper} {v : Value} {n : Nat} {done : Array Bool} {a : Act} {w : World} (hi : ops[i]? = some oi) (hd : oi.dst = d)
    (hs : Region.noSelect ops = true) (hf : Region.free md ops done i = true) (hw : waits md ops ex done i = true) (hr : (Region.ready md ops done).contains i = true) (hx : dirty ops.size ex done = false) (hxi : ex i = false)
    (hQ : ∀ c a w, Q (.panic c) (a.put d v) w → Q (.panic c) a w) (hy : YieldsIf P ops S oi v a) (hS : S w)
    (h : Drawn P md ops Q S ex n (done.setIfInBounds i true) (a.put d v) w) : Drawn P md ops Q S ex (n + 1) done a w := by
  subst hd
  exact Drawn.first hi (Region.noSelect_spec hs) hQ hxi n done a w (Region.free_spec hi hf) (waits_spec hw) (by simpa using hr) hx hy hS h

/-- One alone may come up: it does. -/
theorem Drawn.only (i : Nat) {o : Oper} {n : Nat} {done : Array Bool} {a : Act} {w : World} (hr : Region.ready md ops done = [i]) (hi : ops[i]? = some o)
    (hg : Region.wanted o (yielded ops a.tmps) = true)
    (h : ∀ K : Act → World → Prop, (∀ a' w', (ex i = false → dirty ops.size ex done = false → S w') → Drawn P md ops Q S ex n (done.setIfInBounds i true) a' w' → K a' w') → Oper.wp P o a w K Q) : Drawn P md ops Q S ex (n + 1) done a w := by
  refine ⟨fun h0 => absurd (hr ▸ h0) (by simp), fun j hj => ?_⟩
  rw [hr] at hj
  obtain rfl : j = i := by simpa using hj
  unfold wpOp
  simp only [hi, hg, if_true]
  exact .inl (h _ fun a' w' h1 h2 => ⟨h1, h2⟩)

theorem Drawn.done {done : Array Bool} {a : Act} {w : World} (hr : Region.ready md ops done = []) (h : Q .normal a w) : ∀ n, Drawn P md ops Q S ex n done a w
  | 0 => ⟨hr, h⟩
  | _ + 1 => ⟨fun _ => h, by rw [hr]; simp⟩

theorem Drawn.start (S : World → Prop) (ex : Nat → Bool) {id : Nat} {a : Act} {w : World} (hm : P.follows .mixedOrders = true)
    (h : Drawn P .any ops Q S ex ops.size (Array.replicate ops.size false) a w.drew) : (Code.region id ops true).wp P Q a w :=
  wp_region_any hm (Drawn.any _ _ _ _ h)
end

end Go.Proofs.YtekoaheiapddiaaGreat
end
section
namespace Go.Proofs.YtekoaheiapddiaaGreat
def str (l : List UInt8) : ByteArray := ⟨l.toArray⟩
theorem str_size (l : List UInt8) : (str l).size = l.length := by simp [str, ByteArray.size]
theorem str_inj {a b : List UInt8} (h : str a = str b) : a = b := by
  have h1 : (str a).data.toList = (str b).data.toList := by rw [h]
  simpa [str] using h1
end Go.Proofs.YtekoaheiapddiaaGreat
end
section
namespace Go.Proofs.YtekoaheiapddiaaGreat
open Go.RowKit

/-- Of those that may come up next, each: it does. -/
theorem Drawn.among {P : Program} {md : Region.Mode} {ops : Array Oper} {Q : Exit → Act → World → Prop} {S : World → Prop} {ex : Nat → Bool} (l : List Nat) {n : Nat} {done : Array Bool} {a : Act} {w : World} (hr : Region.ready md ops done = l) (hne : l ≠ [])
    (h : ∀ i ∈ l, ∃ o : Oper, ops[i]? = some o ∧ Region.wanted o (yielded ops a.tmps) = true ∧
      ∀ K : Act → World → Prop, (∀ a' w', (ex i = false → dirty ops.size ex done = false → S w') → Drawn P md ops Q S ex n (done.setIfInBounds i true) a' w' → K a' w') → Oper.wp P o a w K Q) : Drawn P md ops Q S ex (n + 1) done a w := by
  refine ⟨fun h0 => absurd (hr.symm.trans h0) hne, fun j hj => ?_⟩
  rw [hr] at hj
  obtain ⟨o, hi, hg, hw⟩ := h j hj
  unfold wpOp
  simp only [hi, hg, if_true]
  exact .inl (hw _ fun a' w' h1 h2 => ⟨h1, h2⟩)

end Go.Proofs.YtekoaheiapddiaaGreat
end
