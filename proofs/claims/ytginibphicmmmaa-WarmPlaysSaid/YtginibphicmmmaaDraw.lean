/- A region that draws its order, where loads are taken first under a condition on the world that need not outlive the last stores: the operations that 'ex' names wait for every load that is taken first, and behind them the condition is not asked. -/
import Derived.Test.YtginibphicmmmaaBase
import Derived.OrdersHeld
import Derived.KernelRfl
namespace Go.Proofs.Ytginibphicmmmaa
open Go.RowKit

theorem put_list (l : List Value) (d : List Deferred) (k : Tmp) (v : Value) : Act.put ⟨l.toArray, d⟩ (some k) v = ⟨(l.set k v).toArray, d⟩ := by simp [Act.put]
theorem put_none (a : Act) (v : Value) : Act.put a none v = a := rfl

section
variable {P : Program} {ops : Array Oper} {Q : Exit → Act → World → Prop} {md : Region.Mode} {S : World → Prop} {ex : Nat → Bool}

/-- Has one that 'ex' names come up? -/
def dirty (n : Nat) (ex : Nat → Bool) (done : Array Bool) : Bool := (List.range n).any fun j => ex j && done.getD j false

theorem dirty_set {n : Nat} {done : Array Bool} {j : Nat} (hx : ex j = false) (h : dirty n ex done = false) : dirty n ex (done.setIfInBounds j true) = false := by
  simp only [dirty, List.any_eq_false, List.mem_range] at h ⊢
  intro k hk
  by_cases hjk : j = k
  · subst hjk; simp [hx]
  · rw [getD_set_ne false hjk]; exact h k hk
theorem dirty_of_set {n : Nat} {done : Array Bool} {j : Nat} (hj : j < n) (hd : done.getD j true = false) (h : dirty n ex (done.setIfInBounds j true) = false) : ex j = false ∧ dirty n ex done = false := by
  simp only [dirty, List.any_eq_false, List.mem_range] at h ⊢
  have hjs : j < done.size := by
    rcases Nat.lt_or_ge j done.size with h' | h'
    · exact h'
    · simp [Array.getElem?_eq_none h'] at hd
  refine ⟨?_, fun k hk => ?_⟩
  · have := h j hj
    simpa [hjs] using this
  · by_cases hjk : j = k
    · subst hjk
      simp [hjs] at hd
      simp [hjs, hd]
    · have := h k hk
      rwa [getD_set_ne false hjk] at this

/-- Every order from here on; S is asked behind each operation, until one that 'ex' names has come up. -/
def Drawn (P : Program) (md : Region.Mode) (ops : Array Oper) (Q : Exit → Act → World → Prop) (S : World → Prop) (ex : Nat → Bool) (n : Nat) (done : Array Bool) (a : Act) (w : World) : Prop :=
  match n with
  | 0 => Region.ready md ops done = [] ∧ Q .normal a w
  | n + 1 => (Region.ready md ops done = [] → Q .normal a w) ∧
      ∀ i ∈ Region.ready md ops done, wpOp P ops Q i (fun a' w' => (ex i = false → dirty ops.size ex done = false → S w') ∧ Drawn P md ops Q S ex n (done.setIfInBounds i true) a' w') a w

theorem Drawn.any : ∀ (n : Nat) (done : Array Bool) (a : Act) (w : World), Drawn P md ops Q S ex n done a w → wpAny P md ops Q n done a w := by
  intro n
  induction n with
  | zero => intro done a w h; exact h
  | succ n ih => intro done a w h; exact ⟨h.1, fun i hi => wpOp_mono (fun a' w' k => ih _ _ _ k.2) (h.2 i hi)⟩

/-- The operations that 'ex' names, and that have not come up, wait for number i. -/
def waits (md : Region.Mode) (ops : Array Oper) (ex : Nat → Bool) (done : Array Bool) (i : Nat) : Bool :=
  (List.range ops.size).all fun j => !ex j || done.getD j true || match ops[j]? with
    | some o => o.after.any fun e => Region.binds md e && e.on == i
    | none => true

theorem waits_spec {i : Nat} {done : Array Bool} (h : waits md ops ex done i = true) (j : Nat) (o : Oper) (ho : ops[j]? = some o) (hx : ex j = true) (hd : done.getD j true = false) :
    ∃ e ∈ o.after, Region.binds md e = true ∧ e.on = i := by
  simp only [waits, List.all_eq_true, List.mem_range] at h
  have h1 := h j (Array.getElem?_eq_some_iff.1 ho).1
  simp only [ho, hx, hd, Bool.not_true, Bool.false_or] at h1
  obtain ⟨e, he, hb⟩ := Array.any_eq_true'.1 h1
  simp only [Bool.and_eq_true, beq_iff_eq] at hb
  exact ⟨e, he, hb.1, hb.2⟩

theorem not_ready_of_edge {i j : Nat} {o : Oper} {done : Array Bool} (hi : i ∈ Region.ready md ops done) (hj : j ∈ Region.ready md ops done) (ho : ops[j]? = some o)
    (e : _) (he : e ∈ o.after) (hb : Region.binds md e = true) (heq : e.on = i) : False := by
  obtain ⟨_, o', ho', hall⟩ := mem_ready.1 hj
  obtain rfl : o = o' := Option.some.inj (ho.symm.trans ho')
  have h1 := hall e he hb
  rw [heq] at h1
  have h0 := (mem_ready.1 hi).1
  rcases Nat.lt_or_ge i done.size with h' | h'
  · simp [h'] at h0 h1; simp [h0] at h1
  · simp [Array.getElem?_eq_none h'] at h1

theorem Drawn.first {i : Nat} {oi : Oper} {v : Value} (hi : ops[i]? = some oi) (hsel : ∀ (j : Nat) (o : Oper) cs b, ops[j]? = some o → o.op ≠ .select cs b)
    (hQ : ∀ c a w, Q (.panic c) (a.put oi.dst v) w → Q (.panic c) a w) (hxi : ex i = false) :
    ∀ (n : Nat) (done : Array Bool) (a : Act) (w : World),
      (∀ j oj, ops[j]? = some oj → j ≠ i → done.getD j true = false → (∀ e ∈ oj.after, Region.binds md e = true → e.on ≠ i) → oi.apart ops oj = true) →
      (∀ j o, ops[j]? = some o → ex j = true → done.getD j true = false → ∃ e ∈ o.after, Region.binds md e = true ∧ e.on = i) →
      i ∈ Region.ready md ops done → dirty ops.size ex done = false → YieldsIf P ops S oi v a → S w →
      Drawn P md ops Q S ex n (done.setIfInBounds i true) (a.put oi.dst v) w → Drawn P md ops Q S ex (n + 1) done a w := by
  intro n
  induction n with
  | zero =>
    intro done a w _ _ hr hx hy hS H
    refine ⟨fun h => absurd hr (by rw [h]; simp), fun j hj => ?_⟩
    rcases Nat.decEq j i with hji | hji
    · exact absurd (ready_mono hj hji) (by rw [H.1]; simp)
    · subst hji; exact hy.wpOp hi hS ⟨fun _ _ => hS, H⟩
  | succ n ih =>
    intro done a w hfree hw hr hx hy hS H
    refine ⟨fun h => absurd hr (by rw [h]; simp), fun j hj => ?_⟩
    rcases Nat.decEq j i with hji | hji
    · obtain ⟨hjun, oj, hoj, hall⟩ := mem_ready.1 hj
      have hnot : ∀ e ∈ oj.after, Region.binds md e = true → e.on ≠ i := fun e he hb heq => not_ready_of_edge hr hj hoj e he hb heq
      have hxj : ex j = false := by
        cases hxj : ex j with
        | false => rfl
        | true =>
          obtain ⟨e, he, hb, heq⟩ := hw j oj hoj hxj hjun
          exact absurd heq (hnot e he hb)
      have back : ∀ k, (done.setIfInBounds j true).getD k true = false → done.getD k true = false := fun k hk => by
        by_cases hjk : j = k
        · subst hjk; exact hjun
        · rwa [getD_set_ne true hjk] at hk
      refine wpOp_mono (fun a' w' h3 => ⟨fun h1 h2 => h3.2.1 h1 (dirty_set hxi h2), ih (done.setIfInBounds j true) a' w' (fun k ok hk hki hun hno => hfree k ok hk hki (back k hun) hno)
        (fun k o hk hxk hun => hw k o hk hxk (back k hun)) (ready_mono hr (Ne.symm hji)) (dirty_set hxj hx) h3.1 (h3.2.1 hxj (dirty_set hxi hx)) ?_⟩)
        (wpOp_putIf hoj (hfree j oj hoj hji hjun hnot) (fun cs b => hsel i oi cs b hi) (fun cs b => hsel j oj cs b hoj) hQ hy (H.2 j (ready_mono hj hji)))
      rw [Array.setIfInBounds_comm _ _ hji]
      exact h3.2.2
    · subst hji; exact hy.wpOp hi hS ⟨fun _ _ => hS, H⟩

/-- Take number i first: a load. -/
theorem Drawn.take (i : Nat) (d : Option Tmp) {oi : Oper} {v : Value} {n : Nat} {done : Array Bool} {a : Act} {w : World} (hi : ops[i]? = some oi) (hd : oi.dst = d)
    (hs : Region.noSelect ops = true) (hf : Region.free md ops done i = true) (hw : waits md ops ex done i = true) (hr : (Region.ready md ops done).contains i = true) (hx : dirty ops.size ex done = false) (hxi : ex i = false)
    (hQ : ∀ c a w, Q (.panic c) (a.put d v) w → Q (.panic c) a w) (hy : YieldsIf P ops S oi v a) (hS : S w)
    (h : Drawn P md ops Q S ex n (done.setIfInBounds i true) (a.put d v) w) : Drawn P md ops Q S ex (n + 1) done a w := by
  subst hd
  exact Drawn.first hi (Region.noSelect_spec hs) hQ hxi n done a w (Region.free_spec hi hf) (waits_spec hw) (by simpa using hr) hx hy hS h

theorem Drawn.firstFree {i : Nat} {oi : Oper} {v : Value} (hi : ops[i]? = some oi) (hsel : ∀ (j : Nat) (o : Oper) cs b, ops[j]? = some o → o.op ≠ .select cs b)
    (hQ : ∀ c a w, Q (.panic c) (a.put oi.dst v) w → Q (.panic c) a w) (hxi : ex i = false) :
    ∀ (n : Nat) (done : Array Bool) (a : Act) (w : World),
      (∀ j oj, ops[j]? = some oj → j ≠ i → done.getD j true = false → (∀ e ∈ oj.after, Region.binds md e = true → e.on ≠ i) → oi.apart ops oj = true) →
      i ∈ Region.ready md ops done → Yields P ops oi v a → (dirty ops.size ex done = false → S w) →
      Drawn P md ops Q S ex n (done.setIfInBounds i true) (a.put oi.dst v) w → Drawn P md ops Q S ex (n + 1) done a w := by
  intro n
  induction n with
  | zero =>
    intro done a w _ hr hy hS H
    refine ⟨fun h => absurd hr (by rw [h]; simp), fun j hj => ?_⟩
    rcases Nat.decEq j i with hji | hji
    · exact absurd (ready_mono hj hji) (by rw [H.1]; simp)
    · subst hji; exact hy.wpOp hi ⟨fun _ hd => hS hd, H⟩
  | succ n ih =>
    intro done a w hfree hr hy hS H
    refine ⟨fun h => absurd hr (by rw [h]; simp), fun j hj => ?_⟩
    rcases Nat.decEq j i with hji | hji
    · obtain ⟨hjun, oj, hoj, hall⟩ := mem_ready.1 hj
      have hnot : ∀ e ∈ oj.after, Region.binds md e = true → e.on ≠ i := fun e he hb heq => not_ready_of_edge hr hj hoj e he hb heq
      have back : ∀ k, (done.setIfInBounds j true).getD k true = false → done.getD k true = false := fun k hk => by
        by_cases hjk : j = k
        · subst hjk; exact hjun
        · rwa [getD_set_ne true hjk] at hk
      refine wpOp_mono (fun a' w' h3 => ⟨fun h1 h2 => h3.2.1 h1 (dirty_set hxi h2), ih (done.setIfInBounds j true) a' w' (fun k ok hk hki hun hno => hfree k ok hk hki (back k hun) hno)
        (ready_mono hr (Ne.symm hji)) h3.1 (fun hd => by obtain ⟨h1, h2⟩ := dirty_of_set (Array.getElem?_eq_some_iff.1 hoj).1 hjun hd; exact h3.2.1 h1 (dirty_set hxi h2)) ?_⟩)
        (wpOp_put hoj (hfree j oj hoj hji hjun hnot) (fun cs b => hsel i oi cs b hi) (fun cs b => hsel j oj cs b hoj) hQ hy (H.2 j (ready_mono hj hji)))
      rw [Array.setIfInBounds_comm _ _ hji]
      exact h3.2.2
    · subst hji; exact hy.wpOp hi ⟨fun _ hd => hS hd, H⟩

/-- Take number i first: it yields in whatever world. -/
theorem Drawn.free (i : Nat) (d : Option Tmp) {oi : Oper} {v : Value} {n : Nat} {done : Array Bool} {a : Act} {w : World} (hi : ops[i]? = some oi) (hd : oi.dst = d)
    (hs : Region.noSelect ops = true) (hf : Region.free md ops done i = true) (hr : (Region.ready md ops done).contains i = true) (hxi : ex i = false)
    (hQ : ∀ c a w, Q (.panic c) (a.put d v) w → Q (.panic c) a w) (hy : Yields P ops oi v a) (hS : dirty ops.size ex done = false → S w)
    (h : Drawn P md ops Q S ex n (done.setIfInBounds i true) (a.put d v) w) : Drawn P md ops Q S ex (n + 1) done a w := by
  subst hd
  exact Drawn.firstFree hi (Region.noSelect_spec hs) hQ hxi n done a w (Region.free_spec hi hf) (by simpa using hr) hy hS h

/-- One alone may come up: it does. -/
theorem Drawn.only (i : Nat) {o : Oper} {n : Nat} {done : Array Bool} {a : Act} {w : World} (hr : Region.ready md ops done = [i]) (hi : ops[i]? = some o)
    (hg : Region.wanted o (yielded ops a.tmps) = true)
    (h : ∀ K : Act → World → Prop, (∀ a' w', (ex i = false → dirty ops.size ex done = false → S w') → Drawn P md ops Q S ex n (done.setIfInBounds i true) a' w' → K a' w') → Oper.wp P o a w K Q) : Drawn P md ops Q S ex (n + 1) done a w := by
  refine ⟨fun h0 => absurd (hr ▸ h0) (by simp), fun j hj => ?_⟩
  rw [hr] at hj
  obtain rfl : j = i := by simpa using hj
  unfold wpOp
  simp only [hi, hg, if_true]
  exact .inl (h _ fun a' w' h1 h2 => ⟨h1, h2⟩)

theorem Drawn.done {done : Array Bool} {a : Act} {w : World} (hr : Region.ready md ops done = []) (h : Q .normal a w) : ∀ n, Drawn P md ops Q S ex n done a w
  | 0 => ⟨hr, h⟩
  | _ + 1 => ⟨fun _ => h, by rw [hr]; simp⟩

theorem Drawn.start (S : World → Prop) (ex : Nat → Bool) {id : Nat} {a : Act} {w : World} (hm : P.follows .mixedOrders = true)
    (h : Drawn P .any ops Q S ex ops.size (Array.replicate ops.size false) a w.drew) : (Code.region id ops true).wp P Q a w :=
  wp_region_any hm (Drawn.any _ _ _ _ h)
end

end Go.Proofs.Ytginibphicmmmaa
