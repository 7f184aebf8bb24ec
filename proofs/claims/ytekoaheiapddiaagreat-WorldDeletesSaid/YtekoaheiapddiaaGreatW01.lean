/- Merged: Base, Draw, St, Among. -/
import Derived.WalkKit
import Derived.WalkSpells
import Derived.WalkLawsBesides
import Derived.Lib.Hide
import Derived.OrdersHeld
import Derived.KernelRfl
section
namespace Go.Proofs.YtekoaheiapddiaaGreat
open Go.RowKit

/-- The cells of a block that is known whole. -/
theorem cell_of {w : World} {b : Nat} {cs : Array Value} {t : TypeId} {fr : Nat × Nat} (h : w.heap[b]? = some (.cells cs t fr)) (j : Nat) : w.cell? ⟨b, j, none⟩ = cs[j]? := by
  simp [World.cell?, h]
theorem free_of {w : World} {b : Nat} {cs : Array Value} {t : TypeId} (h : w.heap[b]? = some (.cells cs t (0, 0))) (j : Nat) : w.frozen? ⟨b, j, none⟩ = false := by
  simp [World.frozen?, h]
theorem lt_of {w : World} {b : Nat} {o : Obj} (h : w.heap[b]? = some o) : b < w.heap.size := by
  rcases Nat.lt_or_ge b w.heap.size with h' | h'
  · exact h'
  · simp [Array.getElem?_eq_none h'] at h

theorem alloc_size (w : World) (o : Obj) : (w.alloc o).heap.size = w.heap.size + 1 := by
  show (w.heap.push o).size = _
  simp

/-- What a call hands back whose results are a variable of several cells and a slot. -/
theorem results_cell_slot {P : Program} {fn : Func} {p q : Tmp} {ty : TypeId} (h : fn.results = #[.cell p ty, .tmp q]) (tmps : Array Value) (w : World) (g : Nat) (t : TypeId) (cs : Array Value) (fr : Nat × Nat) (d : TypeDesc) (v : Value)
    (hp : tmps.getD p undef = .pointer (some ⟨g, 0, none⟩)) (hq : tmps.getD q undef = v) (hg : w.heap[g]? = some (.cells cs t fr))
    (hu : P.underlying ty = some d) (hd : (match d with | .struct _ | .array _ _ => true | _ => false) = true) (hi : (P.info? ty).map (·.size) = some cs.size) :
    (results fn tmps).run P w = .ok (.tuple #[.agg cs, v]) w := by
  have hp' : tmps[p]?.getD undef = .pointer (some ⟨g, 0, none⟩) := by simpa using hp
  have hq' : tmps[q]?.getD undef = v := by simpa using hq
  simp [results, h, hp', hq', asAddr, run_loadVar_row w g t ty cs fr d hg hu hd hi]

/-- Four stores, one behind the other, into a block of four. -/
theorem heap_set4 {w : World} {b : Nat} {v0 v1 v2 v3 : Value} {t : TypeId} (h : w.heap[b]? = some (.cells #[v0, v1, v2, v3] t (0, 0))) (u0 u1 u2 u3 : Value) :
    ((((w.setCell ⟨b, 0, none⟩ u0).setCell ⟨b, 1, none⟩ u1).setCell ⟨b, 2, none⟩ u2).setCell ⟨b, 3, none⟩ u3).heap[b]? = some (.cells #[u0, u1, u2, u3] t (0, 0)) := by
  have e := heap_setCell_same _ _ 3 _ _ u3 (heap_setCell_same _ _ 2 _ _ u2 (heap_setCell_same _ _ 1 _ _ u1 (heap_setCell_same _ _ 0 _ _ u0 h)))
  simpa using e

theorem cells4 {w : World} {b : Nat} {v0 v1 v2 v3 : Value} {t : TypeId} (h : w.heap[b]? = some (.cells #[v0, v1, v2, v3] t (0, 0))) :
    (w.cell? ⟨b, 0, none⟩ = some v0 ∧ w.cell? ⟨b, 1, none⟩ = some v1 ∧ w.cell? ⟨b, 2, none⟩ = some v2 ∧ w.cell? ⟨b, 3, none⟩ = some v3) ∧
    (w.frozen? ⟨b, 0, none⟩ = false ∧ w.frozen? ⟨b, 1, none⟩ = false ∧ w.frozen? ⟨b, 2, none⟩ = false ∧ w.frozen? ⟨b, 3, none⟩ = false) := by
  refine ⟨⟨?_, ?_, ?_, ?_⟩, free_of h 0, free_of h 1, free_of h 2, free_of h 3⟩
  · rw [cell_of h 0]; rfl
  · rw [cell_of h 1]; rfl
  · rw [cell_of h 2]; rfl
  · rw [cell_of h 3]; rfl
/-- 2^64, kept from the walk. -/
def M64 : Nat := 18446744073709551616

end Go.Proofs.YtekoaheiapddiaaGreat
end
section
namespace Go.Proofs.YtekoaheiapddiaaGreat
open Go.RowKit

theorem put_list (l : List Value) (d : List Deferred) (k : Tmp) (v : Value) : Act.put ⟨l.toArray, d⟩ (some k) v = ⟨(l.set k v).toArray, d⟩ := by simp [Act.put]
section
variable {P : Program} {ops : Array Oper} {Q : Exit → Act → World → Prop} {md : Region.Mode} {S : World → Prop} {ex : Nat → Bool}

/-- Has one that 'ex' names come up? -/
def dirty (n : Nat) (ex : Nat → Bool) (done : Array Bool) : Bool := (List.range n).any fun j => ex j && done.getD j false

theorem dirty_set {n : Nat} {done : Array Bool} {j : Nat} (hx : ex j = false) (h : dirty n ex done = false) : dirty n ex (done.setIfInBounds j true) = false := by
  simp only [dirty, List.any_eq_false, List.mem_range] at h ⊢
  intro k hk
  by_cases hjk : j = k
  · subst hjk; simp [hx]
  · rw [getD_set_ne false hjk]; exact h k hk
/-- Every order from here on; S is asked behind each operation, until one that 'ex' names has come up. -/
def Drawn (P : Program) (md : Region.Mode) (ops : Array Oper) (Q : Exit → Act → World → Prop) (S : World → Prop) (ex : Nat → Bool) (n : Nat) (done : Array Bool) (a : Act) (w : World) : Prop :=
  match n with
  | 0 => Region.ready md ops done = [] ∧ Q .normal a w
  | n + 1 => (Region.ready md ops done = [] → Q .normal a w) ∧
      ∀ i ∈ Region.ready md ops done, wpOp P ops Q i (fun a' w' => (ex i = false → dirty ops.size ex done = false → S w') ∧ Drawn P md ops Q S ex n (done.setIfInBounds i true) a' w') a w

theorem Drawn.any : ∀ (n : Nat) (done : Array Bool) (a : Act) (w : World), Drawn P md ops Q S ex n done a w → wpAny P md ops Q n done a w := by
  intro n
  induction n with
  | zero => intro done a w h; exact h
  | succ n ih => intro done a w h; exact ⟨h.1, fun i hi => wpOp_mono (fun a' w' k => ih _ _ _ k.2) (h.2 i hi)⟩

/-- The operations that 'ex' names, and that have not come up, wait for number i. -/
def waits (md : Region.Mode) (ops : Array Oper) (ex : Nat → Bool) (done : Array Bool) (i : Nat) : Bool :=
  (List.range ops.size).all fun j => !ex j || done.getD j true || match ops[j]? with
    | some o => o.after.any fun e => Region.binds md e && e.on == i
    | none => true

theorem waits_spec {i : Nat} {done : Array Bool} (h : waits md ops ex done i = true) (j : Nat) (o : Oper) (ho : ops[j]? = some o) (hx : ex j = true) (hd : done.getD j true = false) :
    ∃ e ∈ o.after, Region.binds md e = true ∧ e.on = i := by
  simp only [waits, List.all_eq_true, List.mem_range] at h
  have h1 := h j (Array.getElem?_eq_some_iff.1 ho).1
  simp only [ho, hx, hd, Bool.not_true, Bool.false_or] at h1
  obtain ⟨e, he, hb⟩ := Array.any_eq_true'.1 h1
  simp only [Bool.and_eq_true, beq_iff_eq] at hb
  exact ⟨e, he, hb.1, hb.2⟩

theorem not_ready_of_edge {i j : Nat} {o : Oper} {done : Array Bool} (hi : i ∈ Region.ready md ops done) (hj : j ∈ Region.ready md ops done) (ho : ops[j]? = some o)
    (e : _) (he : e ∈ o.after) (hb : Region.binds md e = true) (heq : e.on = i) : False := by
  obtain ⟨_, o', ho', hall⟩ := mem_ready.1 hj
  obtain rfl : o = o' := Option.some.inj (ho.symm.trans ho')
  have h1 := hall e he hb
  rw [heq] at h1
  have h0 := (mem_ready.1 hi).1
  rcases Nat.lt_or_ge i done.size with h' | h'
  · simp [h'] at h0 h1; simp [h0] at h1
  · simp [Array.getElem?_eq_none h'] at h1

theorem Drawn.first {i : Nat} {oi : Oper} {v : Value} (hi : ops[i]? = some oi) (hsel : ∀ (j : Nat) (o : Oper) cs b, ops[j]? = some o → o.op ≠ .select cs b)
    (hQ : ∀ c a w, Q (.panic c) (a.put oi.dst v) w → Q (.panic c) a w) (hxi : ex i = false) :
    ∀ (n : Nat) (done : Array Bool) (a : Act) (w : World),
      (∀ j oj, ops[j]? = some oj → j ≠ i → done.getD j true = false → (∀ e ∈ oj.after, Region.binds md e = true → e.on ≠ i) → oi.apart ops oj = true) →
      (∀ j o, ops[j]? = some o → ex j = true → done.getD j true = false → ∃ e ∈ o.after, Region.binds md e = true ∧ e.on = i) →
      i ∈ Region.ready md ops done → dirty ops.size ex done = false → YieldsIf P ops S oi v a → S w →
      Drawn P md ops Q S ex n (done.setIfInBounds i true) (a.put oi.dst v) w → Drawn P md ops Q S ex (n + 1) done a w := by
  intro n
  induction n with
  | zero =>
    intro done a w _ _ hr hx hy hS H
    refine ⟨fun h => absurd hr (by rw [h]; simp), fun j hj => ?_⟩
    rcases Nat.decEq j i with hji | hji
    · exact absurd (ready_mono hj hji) (by rw [H.1]; simp)
    · subst hji; exact hy.wpOp hi hS ⟨fun _ _ => hS, H⟩
  | succ n ih =>
    intro done a w hfree hw hr hx hy hS H
    refine ⟨fun h => absurd hr (by rw [h]; simp), fun j hj => ?_⟩
    rcases Nat.decEq j i with hji | hji
    · obtain ⟨hjun, oj, hoj, hall⟩ := mem_ready.1 hj
      have hnot : ∀ e ∈ oj.after, Region.binds md e = true → e.on ≠ i := fun e he hb heq => not_ready_of_edge hr hj hoj e he hb heq
      have hxj : ex j = false := by
        cases hxj : ex j with
        | false => rfl
        | true =>
          obtain ⟨e, he, hb, heq⟩ := hw j oj hoj hxj hjun
          exact absurd heq (hnot e he hb)
      have back : ∀ k, (done.setIfInBounds j true).getD k true = false → done.getD k true = false := fun k hk => by
        by_cases hjk : j = k
        · subst hjk; exact hjun
        · rwa [getD_set_ne true hjk] at hk
      refine wpOp_mono (fun a' w' h3 => ⟨fun h1 h2 => h3.2.1 h1 (dirty_set hxi h2), ih (done.setIfInBounds j true) a' w' (fun k ok hk hki hun hno => hfree k ok hk hki (back k hun) hno)
        (fun k o hk hxk hun => hw k o hk hxk (back k hun)) (ready_mono hr (Ne.symm hji)) (dirty_set hxj hx) h3.1 (h3.2.1 hxj (dirty_set hxi hx)) ?_⟩)
        (wpOp_putIf hoj (hfree j oj hoj hji hjun hnot) (fun cs b => hsel i oi cs b hi) (fun cs b => hsel j oj cs b hoj) hQ hy (H.2 j (ready_mono hj hji)))
      rw [Array.setIfInBounds_comm _ _ hji]
      exact h3.2.2
    · subst hji; exact hy.wpOp hi hS ⟨fun _ _ => hS, H⟩

/-- Take number i first: a load. -/
theorem Drawn.take (i : Nat) (d : Option Tmp) {oi : Oper} {v : Value} {n : Nat} {done : Array Bool} {a : Act} {w : World} (hi : ops[i]? = some oi) (hd : oi.dst = d)
    (hs : Region.noSelect ops = true) (hf : Region.free md ops done i = true) (hw : waits md ops ex done i = true) (hr : (Region.ready md ops done).contains i = true) (hx : dirty ops.size ex done = false) (hxi : ex i = false)
    (hQ : ∀ c a w, Q (.panic c) (a.put d v) w → Q (.panic c) a w) (hy : YieldsIf P ops S oi v a) (hS : S w)
    (h : Drawn P md ops Q S ex n (done.setIfInBounds i true) (a.put d v) w) : Drawn P md ops Q S ex (n + 1) done a w := by
  subst hd
  exact Drawn.first hi (Region.noSelect_spec hs) hQ hxi n done a w (Region.free_spec hi hf) (waits_spec hw) (by simpa using hr) hx hy hS h

/-- One alone may come up: it does. -/
theorem Drawn.only (i : Nat) {o : Oper} {n : Nat} {done : Array Bool} {a : Act} {w : World} (hr : Region.ready md ops done = [i]) (hi : ops[i]? = some o)
    (hg : Region.wanted o (yielded ops a.tmps) = true)
    (h : ∀ K : Act → World → Prop, (∀ a' w', (ex i = false → dirty ops.size ex done = false → S w') → Drawn P md ops Q S ex n (done.setIfInBounds i true) a' w' → K a' w') → Oper.wp P o a w K Q) : Drawn P md ops Q S ex (n + 1) done a w := by
  refine ⟨fun h0 => absurd (hr ▸ h0) (by simp), fun j hj => ?_⟩
  rw [hr] at hj
  obtain rfl : j = i := by simpa using hj
  unfold wpOp
  simp only [hi, hg, if_true]
  exact .inl (h _ fun a' w' h1 h2 => ⟨h1, h2⟩)

theorem Drawn.done {done : Array Bool} {a : Act} {w : World} (hr : Region.ready md ops done = []) (h : Q .normal a w) : ∀ n, Drawn P md ops Q S ex n done a w
  | 0 => ⟨hr, h⟩
  | _ + 1 => ⟨fun _ => h, by rw [hr]; simp⟩

theorem Drawn.start (S : World → Prop) (ex : Nat → Bool) {id : Nat} {a : Act} {w : World} (hm : P.follows .mixedOrders = true)
    (h : Drawn P .any ops Q S ex ops.size (Array.replicate ops.size false) a w.drew) : (Code.region id ops true).wp P Q a w :=
  wp_region_any hm (Drawn.any _ _ _ _ h)
end

end Go.Proofs.YtekoaheiapddiaaGreat
end
section
namespace Go.Proofs.YtekoaheiapddiaaGreat
def str (l : List UInt8) : ByteArray := ⟨l.toArray⟩
theorem str_size (l : List UInt8) : (str l).size = l.length := by simp [str, ByteArray.size]
end Go.Proofs.YtekoaheiapddiaaGreat
end
