/- Merged: Draw, WordR, WordT, WordE, La, Lb, Among, Lh. -/
import Derived.Test.YtbhijjegkpjkcaaW01
import Derived.OrdersHeld
import Derived.KernelRfl
import Derived.Test.YtbhijjegkpjkcaaRows
import Derived.Lib.SlBytesRow
import Derived.Lib.BufferWrite
import Derived.Maps.AppendAt
section
namespace Go.Proofs.Ytbhijjegkpjkcaa
open Go.RowKit

theorem put_list (l : List Value) (d : List Deferred) (k : Tmp) (v : Value) : Act.put ⟨l.toArray, d⟩ (some k) v = ⟨(l.set k v).toArray, d⟩ := by simp [Act.put]
theorem put_none (a : Act) (v : Value) : Act.put a none v = a := rfl

section
variable {P : Program} {ops : Array Oper} {Q : Exit → Act → World → Prop} {md : Region.Mode} {S : World → Prop} {ex : Nat → Bool}

/-- Has one that 'ex' names come up? -/
def dirty (n : Nat) (ex : Nat → Bool) (done : Array Bool) : Bool := (List.range n).any fun j => ex j && done.getD j false

theorem dirty_set {n : Nat} {done : Array Bool} {j : Nat} (hx : ex j = false) (h : dirty n ex done = false) : dirty n ex (done.setIfInBounds j true) = false := by
  simp only [dirty, List.any_eq_false, List.mem_range] at h ⊢
  intro k hk
  by_cases hjk : j = k
  · subst hjk; simp [hx]
  · rw [getD_set_ne false hjk]; exact h k hk
theorem dirty_of_set {n : Nat} {done : Array Bool} {j : Nat} (hj : j < n) (hd : done.getD j true = false) (h : dirty n ex (done.setIfInBounds j true) = false) : ex j = false ∧ dirty n ex done = false := by
  simp only [dirty, List.any_eq_false, List.mem_range] at h ⊢
  have hjs : j < done.size := by
    rcases Nat.lt_or_ge j done.size with h' | h'
    · exact h'
    · simp [Array.getElem?_eq_none h'] at hd
  refine ⟨?_, fun k hk => ?_⟩
  · have := h j hj
    simpa [hjs] using this
  · by_cases hjk : j = k
    · subst hjk
      simp [hjs] at hd
      simp [hjs, hd]
    · have := h k hk
      rwa [getD_set_ne false hjk] at this

/-- Every order from here on; S is asked behind each operation, until one that 'ex' names has come up. -/
def Drawn (P : Program) (md : Region.Mode) (ops : Array Oper) (Q : Exit → Act → World → Prop) (S : World → Prop) (ex : Nat → Bool) (n : Nat) (done : Array Bool) (a : Act) (w : World) : Prop :=
  match n with
  | 0 => Region.ready md ops done = [] ∧ Q .normal a w
  | n + 1 => (Region.ready md ops done = [] → Q .normal a w) ∧
      ∀ i ∈ Region.ready md ops done, wpOp P ops Q i (fun a' w' => (ex i = false → dirty ops.size ex done = false → S w') ∧ Drawn P md ops Q S ex n (done.setIfInBounds i true) a' w') a w

theorem Drawn.any : ∀ (n : Nat) (done : Array Bool) (a : Act) (w : World), Drawn P md ops Q S ex n done a w → wpAny P md ops Q n done a w := by
  intro n
  induction n with
  | zero => intro done a w h; exact h
  | succ n ih => intro done a w h; exact ⟨h.1, fun i hi => wpOp_mono (fun a' w' k => ih _ _ _ k.2) (h.2 i hi)⟩

/-- The operations that 'ex' names, and that have not come up, wait for number i. -/
def waits (md : Region.Mode) (ops : Array Oper) (ex : Nat → Bool) (done : Array Bool) (i : Nat) : Bool :=
  (List.range ops.size).all fun j => !ex j || done.getD j true || match ops[j]? with
    | some o => o.after.any fun e => Region.binds md e && e.on == i
    | none => true

theorem waits_spec {i : Nat} {done : Array Bool} (h : waits md ops ex done i = true) (j : Nat) (o : Oper) (ho : ops[j]? = some o) (hx : ex j = true) (hd : done.getD j true = false) :
    ∃ e ∈ o.after, Region.binds md e = true ∧ e.on = i := by
  simp only [waits, List.all_eq_true, List.mem_range] at h
  have h1 := h j (Array.getElem?_eq_some_iff.1 ho).1
  simp only [ho, hx, hd, Bool.not_true, Bool.false_or] at h1
  obtain ⟨e, he, hb⟩ := Array.any_eq_true'.1 h1
  simp only [Bool.and_eq_true, beq_iff_eq] at hb
  exact ⟨e, he, hb.1, hb.2⟩

theorem not_ready_of_edge {i j : Nat} {o : Oper} {done : Array Bool} (hi : i ∈ Region.ready md ops done) (hj : j ∈ Region.ready md ops done) (ho : ops[j]? = some o)
    (e : _) (he : e ∈ o.after) (hb : Region.binds md e = true) (heq : e.on = i) : False := by
  obtain ⟨_, o', ho', hall⟩ := mem_ready.1 hj
  obtain rfl : o = o' := Option.some.inj (ho.symm.trans ho')
  have h1 := hall e he hb
  rw [heq] at h1
  have h0 := (mem_ready.1 hi).1
  rcases Nat.lt_or_ge i done.size with h' | h'
  · simp [h'] at h0 h1; simp [h0] at h1
  · simp [Array.getElem?_eq_none h'] at h1

theorem Drawn.first {i : Nat} {oi : Oper} {v : Value} (hi : ops[i]? = some oi) (hsel : ∀ (j : Nat) (o : Oper) cs b, ops[j]? = some o → o.op ≠ .select cs b)
    (hQ : ∀ c a w, Q (.panic c) (a.put oi.dst v) w → Q (.panic c) a w) (hxi : ex i = false) :
    ∀ (n : Nat) (done : Array Bool) (a : Act) (w : World),
      (∀ j oj, ops[j]? = some oj → j ≠ i → done.getD j true = false → (∀ e ∈ oj.after, Region.binds md e = true → e.on ≠ i) → oi.apart ops oj = true) →
      (∀ j o, ops[j]? = some o → ex j = true → done.getD j true = false → ∃ e ∈ o.after, Region.binds md e = true ∧ e.on = i) →
      i ∈ Region.ready md ops done → dirty ops.size ex done = false → YieldsIf P ops S oi v a → S w →
      Drawn P md ops Q S ex n (done.setIfInBounds i true) (a.put oi.dst v) w → Drawn P md ops Q S ex (n + 1) done a w := by
  intro n
  induction n with
  | zero =>
    intro done a w _ _ hr hx hy hS H
    refine ⟨fun h => absurd hr (by rw [h]; simp), fun j hj => ?_⟩
    rcases Nat.decEq j i with hji | hji
    · exact absurd (ready_mono hj hji) (by rw [H.1]; simp)
    · subst hji; exact hy.wpOp hi hS ⟨fun _ _ => hS, H⟩
  | succ n ih =>
    intro done a w hfree hw hr hx hy hS H
    refine ⟨fun h => absurd hr (by rw [h]; simp), fun j hj => ?_⟩
    rcases Nat.decEq j i with hji | hji
    · obtain ⟨hjun, oj, hoj, hall⟩ := mem_ready.1 hj
      have hnot : ∀ e ∈ oj.after, Region.binds md e = true → e.on ≠ i := fun e he hb heq => not_ready_of_edge hr hj hoj e he hb heq
      have hxj : ex j = false := by
        cases hxj : ex j with
        | false => rfl
        | true =>
          obtain ⟨e, he, hb, heq⟩ := hw j oj hoj hxj hjun
          exact absurd heq (hnot e he hb)
      have back : ∀ k, (done.setIfInBounds j true).getD k true = false → done.getD k true = false := fun k hk => by
        by_cases hjk : j = k
        · subst hjk; exact hjun
        · rwa [getD_set_ne true hjk] at hk
      refine wpOp_mono (fun a' w' h3 => ⟨fun h1 h2 => h3.2.1 h1 (dirty_set hxi h2), ih (done.setIfInBounds j true) a' w' (fun k ok hk hki hun hno => hfree k ok hk hki (back k hun) hno)
        (fun k o hk hxk hun => hw k o hk hxk (back k hun)) (ready_mono hr (Ne.symm hji)) (dirty_set hxj hx) h3.1 (h3.2.1 hxj (dirty_set hxi hx)) ?_⟩)
        (wpOp_putIf hoj (hfree j oj hoj hji hjun hnot) (fun cs b => hsel i oi cs b hi) (fun cs b => hsel j oj cs b hoj) hQ hy (H.2 j (ready_mono hj hji)))
      rw [Array.setIfInBounds_comm _ _ hji]
      exact h3.2.2
    · subst hji; exact hy.wpOp hi hS ⟨fun _ _ => hS, H⟩

/-- Take number i first: a load. -/
theorem Drawn.take (i : Nat) (d : Option Tmp) {oi : Oper} {v : Value} {n : Nat} {done : Array Bool} {a : Act} {w : World} (hi : ops[i]? = some oi) (hd : oi.dst = d)
    (hs : Region.noSelect ops = true) (hf : Region.free md ops done i = true) (hw : waits md ops ex done i = true) (hr : (Region.ready md ops done).contains i = true) (hx : dirty ops.size ex done = false) (hxi : ex i = false)
    (hQ : ∀ c a w, Q (.panic c) (a.put d v) w → Q (.panic c) a w) (hy : YieldsIf P ops S oi v a) (hS : S w)
    (h : Drawn P md ops Q S ex n (done.setIfInBounds i true) (a.put d v) w) : Drawn P md ops Q S ex (n + 1) done a w := by
  subst hd
  exact Drawn.first hi (Region.noSelect_spec hs) hQ hxi n done a w (Region.free_spec hi hf) (waits_spec hw) (by simpa using hr) hx hy hS h

theorem Drawn.firstFree {i : Nat} {oi : Oper} {v : Value} (hi : ops[i]? = some oi) (hsel : ∀ (j : Nat) (o : Oper) cs b, ops[j]? = some o → o.op ≠ .select cs b)
    (hQ : ∀ c a w, Q (.panic c) (a.put oi.dst v) w → Q (.panic c) a w) (hxi : ex i = false) :
    ∀ (n : Nat) (done : Array Bool) (a : Act) (w : World),
      (∀ j oj, ops[j]? = some oj → j ≠ i → done.getD j true = false → (∀ e ∈ oj.after, Region.binds md e = true → e.on ≠ i) → oi.apart ops oj = true) →
      i ∈ Region.ready md ops done → Yields P ops oi v a → (dirty ops.size ex done = false → S w) →
      Drawn P md ops Q S ex n (done.setIfInBounds i true) (a.put oi.dst v) w → Drawn P md ops Q S ex (n + 1) done a w := by
  intro n
  induction n with
  | zero =>
    intro done a w _ hr hy hS H
    refine ⟨fun h => absurd hr (by rw [h]; simp), fun j hj => ?_⟩
    rcases Nat.decEq j i with hji | hji
    · exact absurd (ready_mono hj hji) (by rw [H.1]; simp)
    · subst hji; exact hy.wpOp hi ⟨fun _ hd => hS hd, H⟩
  | succ n ih =>
    intro done a w hfree hr hy hS H
    refine ⟨fun h => absurd hr (by rw [h]; simp), fun j hj => ?_⟩
    rcases Nat.decEq j i with hji | hji
    · obtain ⟨hjun, oj, hoj, hall⟩ := mem_ready.1 hj
      have hnot : ∀ e ∈ oj.after, Region.binds md e = true → e.on ≠ i := fun e he hb heq => not_ready_of_edge hr hj hoj e he hb heq
      have back : ∀ k, (done.setIfInBounds j true).getD k true = false → done.getD k true = false := fun k hk => by
        by_cases hjk : j = k
        · subst hjk; exact hjun
        · rwa [getD_set_ne true hjk] at hk
      refine wpOp_mono (fun a' w' h3 => ⟨fun h1 h2 => h3.2.1 h1 (dirty_set hxi h2), ih (done.setIfInBounds j true) a' w' (fun k ok hk hki hun hno => hfree k ok hk hki (back k hun) hno)
        (ready_mono hr (Ne.symm hji)) h3.1 (fun hd => by obtain ⟨h1, h2⟩ := dirty_of_set (Array.getElem?_eq_some_iff.1 hoj).1 hjun hd; exact h3.2.1 h1 (dirty_set hxi h2)) ?_⟩)
        (wpOp_put hoj (hfree j oj hoj hji hjun hnot) (fun cs b => hsel i oi cs b hi) (fun cs b => hsel j oj cs b hoj) hQ hy (H.2 j (ready_mono hj hji)))
      rw [Array.setIfInBounds_comm _ _ hji]
      exact h3.2.2
    · subst hji; exact hy.wpOp hi ⟨fun _ hd => hS hd, H⟩

/-- Take number i first: it yields in whatever world. -/
theorem Drawn.free (i : Nat) (d : Option Tmp) {oi : Oper} {v : Value} {n : Nat} {done : Array Bool} {a : Act} {w : World} (hi : ops[i]? = some oi) (hd : oi.dst = d)
    (hs : Region.noSelect ops = true) (hf : Region.free md ops done i = true) (hr : (Region.ready md ops done).contains i = true) (hxi : ex i = false)
    (hQ : ∀ c a w, Q (.panic c) (a.put d v) w → Q (.panic c) a w) (hy : Yields P ops oi v a) (hS : dirty ops.size ex done = false → S w)
    (h : Drawn P md ops Q S ex n (done.setIfInBounds i true) (a.put d v) w) : Drawn P md ops Q S ex (n + 1) done a w := by
  subst hd
  exact Drawn.firstFree hi (Region.noSelect_spec hs) hQ hxi n done a w (Region.free_spec hi hf) (by simpa using hr) hy hS h

/-- One alone may come up: it does. -/
theorem Drawn.only (i : Nat) {o : Oper} {n : Nat} {done : Array Bool} {a : Act} {w : World} (hr : Region.ready md ops done = [i]) (hi : ops[i]? = some o)
    (hg : Region.wanted o (yielded ops a.tmps) = true)
    (h : ∀ K : Act → World → Prop, (∀ a' w', (ex i = false → dirty ops.size ex done = false → S w') → Drawn P md ops Q S ex n (done.setIfInBounds i true) a' w' → K a' w') → Oper.wp P o a w K Q) : Drawn P md ops Q S ex (n + 1) done a w := by
  refine ⟨fun h0 => absurd (hr ▸ h0) (by simp), fun j hj => ?_⟩
  rw [hr] at hj
  obtain rfl : j = i := by simpa using hj
  unfold wpOp
  simp only [hi, hg, if_true]
  exact .inl (h _ fun a' w' h1 h2 => ⟨h1, h2⟩)

theorem Drawn.done {done : Array Bool} {a : Act} {w : World} (hr : Region.ready md ops done = []) (h : Q .normal a w) : ∀ n, Drawn P md ops Q S ex n done a w
  | 0 => ⟨hr, h⟩
  | _ + 1 => ⟨fun _ => h, by rw [hr]; simp⟩

theorem Drawn.start (S : World → Prop) (ex : Nat → Bool) {id : Nat} {a : Act} {w : World} (hm : P.follows .mixedOrders = true)
    (h : Drawn P .any ops Q S ex ops.size (Array.replicate ops.size false) a w.drew) : (Code.region id ops true).wp P Q a w :=
  wp_region_any hm (Drawn.any _ _ _ _ h)
end

end Go.Proofs.Ytbhijjegkpjkcaa
end
section
namespace Go.Proofs.Ytbhijjegkpjkcaa
open Go.RowKit
attribute [local go_sem ↓] Go.wp_at_zero Go.wp_at_succ

theorem lifted_in (a0 a1 a2 a3 l k : Nat) (h : l ≤ k) : lifted (nth a0 a1 a2 a3) l k = nth a0 a1 a2 a3 (k - l) := by
  unfold lifted; rw [if_neg (by omega)]

/-- What the closure of plusRow finds in memory. -/
structure RowS (ba bl bd bs bc a0 a1 a2 a3 l d s0 s1 s2 s3 c : Nat) (w : World) : Prop where
  a : w.heap[ba]? = some (.cells #[.int .u64 a0, .int .u64 a1, .int .u64 a2, .int .u64 a3] 119 (0, 0))
  l : w.heap[bl]? = some (.cells #[.int .i64 l] 3 (0, 0))
  d : w.heap[bd]? = some (.cells #[.int .u64 d] 22 (0, 0))
  s : w.heap[bs]? = some (.cells (four s0 s1 s2 s3) 119 (0, 0))
  c : w.heap[bc]? = some (.cells #[.int .u64 c] 22 (0, 0))

theorem RowS.below {ba bl bd bs bc a0 a1 a2 a3 l d s0 s1 s2 s3 c : Nat} {w w1 : World} (h : RowS ba bl bd bs bc a0 a1 a2 a3 l d s0 s1 s2 s3 c w) (hb : Below w.heap.size w w1) : RowS ba bl bd bs bc a0 a1 a2 a3 l d s0 s1 s2 s3 c w1 :=
  ⟨(hb.block _ (lt_of h.a)).trans h.a, (hb.block _ (lt_of h.l)).trans h.l, (hb.block _ (lt_of h.d)).trans h.d, (hb.block _ (lt_of h.s)).trans h.s, (hb.block _ (lt_of h.c)).trans h.c⟩

theorem RowS.cells {ba bl bd bs bc a0 a1 a2 a3 l d s0 s1 s2 s3 c : Nat} {w : World} (h : RowS ba bl bd bs bc a0 a1 a2 a3 l d s0 s1 s2 s3 c w) {k s : Nat} (hk : k < 4) (hs : nth s0 s1 s2 s3 k = s) :
    (w.cell? ⟨ba, 0, none⟩ = some (.int .u64 a0) ∧ w.cell? ⟨ba, 1, none⟩ = some (.int .u64 a1) ∧ w.cell? ⟨ba, 2, none⟩ = some (.int .u64 a2) ∧ w.cell? ⟨ba, 3, none⟩ = some (.int .u64 a3)) ∧
      w.cell? ⟨bl, 0, none⟩ = some (.int .i64 l) ∧ w.cell? ⟨bd, 0, none⟩ = some (.int .u64 d) ∧ w.cell? ⟨bs, k, none⟩ = some (.int .u64 s) ∧ w.cell? ⟨bc, 0, none⟩ = some (.int .u64 c) ∧ w.frozen? ⟨bc, 0, none⟩ = false :=
  ⟨(cells4 h.a).1, (cell_of h.l 0).trans rfl, (cell_of h.d 0).trans rfl, (cell_of h.s k).trans ((four_at _ _ _ _ _ hk).trans (by rw [hs])), (cell_of h.c 0).trans rfl, free_of h.c 0⟩

end Go.Proofs.Ytbhijjegkpjkcaa
end
section
namespace Go.Proofs.Ytbhijjegkpjkcaa
open Go.RowKit
attribute [local go_sem ↓] Go.wp_at_zero Go.wp_at_succ

/-- The number of the first k limbs. -/
def low (y : Nat → Nat) : Nat → Nat
  | 0 => 0
  | k + 1 => low y k + y k * M64 ^ k

theorem low_all {y y0 y1 y2 y3 : Nat} (h : Dig y y0 y1 y2 y3) : low (nth y0 y1 y2 y3) 4 = y := by
  obtain ⟨_, _, _, _, rfl⟩ := h
  simp only [low, nth]
  unfold M64
  omega

theorem low_step {x s r q p k d l : Nat} (h1 : x * l = s + W256 * q) (h2 : s + x * d * M64 ^ k = r + W256 * p) : x * (l + d * M64 ^ k) = r + W256 * (q + p) := by
  rw [Nat.mul_add, h1, Nat.mul_add, ← Nat.mul_assoc]
  omega

/-- What times knows at the head of a round: its two numbers, its result's variable, its sum so far. -/
def TimesS (w : World) (a0 a1 a2 a3 b0 b1 b2 b3 s0 s1 s2 s3 : Nat) (W : World) : Prop :=
  Fr w w.heap.size (w.heap.size + 1 + 1 + 1) [(w.heap.size + 1 + 1, #[.int .u64 0, .int .u64 0, .int .u64 0, .int .u64 0], 119), (w.heap.size + 1, four b0 b1 b2 b3, 119), (w.heap.size, #[.int .u64 a0, .int .u64 a1, .int .u64 a2, .int .u64 a3], 119)] W ∧
    W.heap[w.heap.size + 1 + 1 + 1]? = some (.cells #[.int .u64 s0, .int .u64 s1, .int .u64 s2, .int .u64 s3] 119 (0, 0))

theorem TimesS.cells {w W : World} {a0 a1 a2 a3 b0 b1 b2 b3 s0 s1 s2 s3 k d : Nat} (h : TimesS w a0 a1 a2 a3 b0 b1 b2 b3 s0 s1 s2 s3 W) (hk : k < 4) (hd : nth b0 b1 b2 b3 k = d) :
    (W.cell? ⟨w.heap.size, 0, none⟩ = some (.int .u64 a0) ∧ W.cell? ⟨w.heap.size, 1, none⟩ = some (.int .u64 a1) ∧ W.cell? ⟨w.heap.size, 2, none⟩ = some (.int .u64 a2) ∧ W.cell? ⟨w.heap.size, 3, none⟩ = some (.int .u64 a3)) ∧
    W.cell? ⟨w.heap.size + 1, k, none⟩ = some (.int .u64 d) ∧
    ((W.cell? ⟨w.heap.size + 1 + 1 + 1, 0, none⟩ = some (.int .u64 s0) ∧ W.cell? ⟨w.heap.size + 1 + 1 + 1, 1, none⟩ = some (.int .u64 s1) ∧ W.cell? ⟨w.heap.size + 1 + 1 + 1, 2, none⟩ = some (.int .u64 s2) ∧ W.cell? ⟨w.heap.size + 1 + 1 + 1, 3, none⟩ = some (.int .u64 s3)) ∧
      (W.frozen? ⟨w.heap.size + 1 + 1 + 1, 0, none⟩ = false ∧ W.frozen? ⟨w.heap.size + 1 + 1 + 1, 1, none⟩ = false ∧ W.frozen? ⟨w.heap.size + 1 + 1 + 1, 2, none⟩ = false ∧ W.frozen? ⟨w.heap.size + 1 + 1 + 1, 3, none⟩ = false)) :=
  ⟨(cells4 (h.1.know (w.heap.size, _, 119) (by simp)).2).1, (cell_of (h.1.know (w.heap.size + 1, four b0 b1 b2 b3, 119) (by simp)).2 k).trans ((four_at _ _ _ _ _ hk).trans (by rw [hd])), cells4 h.2⟩

theorem TimesS.call {w W w1 : World} {a0 a1 a2 a3 b0 b1 b2 b3 s0 s1 s2 s3 : Nat} (h : TimesS w a0 a1 a2 a3 b0 b1 b2 b3 s0 s1 s2 s3 W) (hb : Below W.heap.size W w1) : TimesS w a0 a1 a2 a3 b0 b1 b2 b3 s0 s1 s2 s3 w1 :=
  ⟨h.1.call hb, (hb.block _ (lt_of h.2)).trans h.2⟩
theorem TimesS.set {w W : World} {a0 a1 a2 a3 b0 b1 b2 b3 s0 s1 s2 s3 : Nat} (h : TimesS w a0 a1 a2 a3 b0 b1 b2 b3 s0 s1 s2 s3 W) (r0 r1 r2 r3 : Nat) :
    TimesS w a0 a1 a2 a3 b0 b1 b2 b3 r0 r1 r2 r3 ((((W.setCell ⟨w.heap.size + 1 + 1 + 1, 0, none⟩ (.int .u64 r0)).setCell ⟨w.heap.size + 1 + 1 + 1, 1, none⟩ (.int .u64 r1)).setCell ⟨w.heap.size + 1 + 1 + 1, 2, none⟩ (.int .u64 r2)).setCell ⟨w.heap.size + 1 + 1 + 1, 3, none⟩ (.int .u64 r3)) :=
  ⟨h.1.set4 (Nat.le_refl _) _ _ _ _, heap_set4 h.2 _ _ _ _⟩

def TimesRel (w : World) (x a0 a1 a2 a3 b0 b1 b2 b3 k : Nat) (W : World) : Prop :=
  ∃ s s0 s1 s2 s3 q, Dig s s0 s1 s2 s3 ∧ x * low (nth b0 b1 b2 b3) k = s + W256 * q ∧ TimesS w a0 a1 a2 a3 b0 b1 b2 b3 s0 s1 s2 s3 W

/-- A call that hands back limbs. -/
def RetL (q : Nat → Prop) (w : World) (e : Ending) (w' : World) : Prop :=
  ∃ s s0 s1 s2 s3 : Nat, e = .returned (.agg #[.int .u64 s0, .int .u64 s1, .int .u64 s2, .int .u64 s3]) ∧ Dig s s0 s1 s2 s3 ∧ q s ∧ Below w.heap.size w w'

end Go.Proofs.Ytbhijjegkpjkcaa
end
section
namespace Go.Proofs.Ytbhijjegkpjkcaa
open Go.RowKit

/-- A call that hands back the word n. -/
def RetD (n : Nat) (w : World) (e : Ending) (w' : World) : Prop :=
  ∃ s3 s2 s1 s0 : Nat, e = .returned (.agg #[.int .u64 s3, .int .u64 s2, .int .u64 s1, .int .u64 s0]) ∧ Dig n s0 s1 s2 s3 ∧ Below w.heap.size w w'

theorem mod_of {s n q : Nat} (hs : s < W256) (h : n = s + W256 * q) : s = n % W256 := by
  rw [h, Nat.add_mul_mod_self_left, Nat.mod_eq_of_lt hs]

theorem Dig.same {n m d0 d1 d2 d3 e0 e1 e2 e3 : Nat} (h : Dig n d0 d1 d2 d3) (k : Dig m e0 e1 e2 e3) (e : n = m) : d0 = e0 ∧ d1 = e1 ∧ d2 = e2 ∧ d3 = e3 := (e ▸ h).inj k
theorem RetW.d {v : Nat} {w : World} {e : Ending} {w' : World} (h : RetW (fun s => s = v) w e w') : RetD v w e w' := by
  obtain ⟨s, s3, s2, s1, s0, rfl, hs, rfl, hb⟩ := h
  exact ⟨_, _, _, _, rfl, hs, hb⟩
theorem eq_words (a0 a1 a2 a3 b0 b1 b2 b3 : Int) (w : World) :
    (binOp .eql 24 (.agg #[.int .u64 a0, .int .u64 a1, .int .u64 a2, .int .u64 a3]) (.agg #[.int .u64 b0, .int .u64 b1, .int .u64 b2, .int .u64 b3])).run Try.prog w =
      .ok (.bool (a0 == b0 && (a1 == b1 && (a2 == b2 && a3 == b3)))) w := by
  have u3 := Try.underlying22
  have a3' := Try.isAgg22
  have z3 := Try.sizeOf22
  have hS : Try.prog.underlying 24 = some (.struct (Try.prog.fieldsOf 24)) := by kernel_rfl
  have hp : Try.prog.stoodInHeld 24 = false := by kernel_rfl
  rw [run_eql_struct, show (10000 : Nat) = 9999 + 1 from rfl, run_equalIn_agg w 9999 24 _ _ hS hp]
  simp only [Program.fieldsOf, Try.underlying24]
  go_simp
  by_cases h0 : a0 = b0 <;> by_cases h1 : a1 = b1 <;> by_cases h2 : a2 = b2 <;> by_cases h3 : a3 = b3 <;> simp [h0, h1, h2, h3]
theorem eq_word_not {a b a0 a1 a2 a3 b0 b1 b2 b3 : Nat} (ha : Dig a a0 a1 a2 a3) (hb : Dig b b0 b1 b2 b3) (h : a ≠ b) (w : World) :
    (binOp .eql 24 (.agg #[.int .u64 a3, .int .u64 a2, .int .u64 a1, .int .u64 a0]) (.agg #[.int .u64 b3, .int .u64 b2, .int .u64 b1, .int .u64 b0])).run Try.prog w = .ok (.bool false) w := by
  rw [eq_words]
  congr 2
  simp only [Bool.and_eq_false_iff, beq_eq_false_iff_ne, ne_eq, Int.natCast_inj]
  by_cases h3 : a3 = b3
  · by_cases h2 : a2 = b2
    · by_cases h1 : a1 = b1
      · by_cases h0 : a0 = b0
        · exact absurd (by rw [ha.eq, hb.eq, h0, h1, h2, h3]) h
        · exact .inr (.inr (.inr h0))
      · exact .inr (.inr (.inl h1))
    · exact .inr (.inl h2)
  · exact .inl h3

end Go.Proofs.Ytbhijjegkpjkcaa
end
section
namespace Go.Proofs.Ytbhijjegkpjkcaa
open Go.RowKit

/-- A text out of bytes. -/
def str (l : List UInt8) : ByteArray := ⟨l.toArray⟩
theorem str_size (l : List UInt8) : (str l).size = l.length := by simp [str, ByteArray.size]
theorem str_list (s : ByteArray) : str s.data.toList = s := by simp [str]
theorem str_inj {a b : List UInt8} (h : str a = str b) : a = b := by
  have := congrArg (fun s => s.data.toList) h
  simpa [str] using this
theorem str_nil : str [] = ⟨#[]⟩ := rfl
theorem str_append (a b : List UInt8) : str a ++ str b = str (a ++ b) := by
  apply ByteArray.ext
  simp [str, ByteArray.data_append]
theorem str_get (l : List UInt8) (i : Nat) (h : i < (str l).size) : (str l)[i]'h = l[i]'(by rw [← str_size]; exact h) := by
  simp [str, ByteArray.getElem_eq_getElem_data]

theorem b8 {n : Nat} (h : n < 256) : (UInt8.ofNat n).toNat = n := UInt8.toNat_ofNat_of_lt' h
theorem snoc_ind {α : Type} {P : List α → Prop} (h0 : P []) (hs : ∀ l b, P l → P (l ++ [b])) (l : List α) : P l := by
  rw [← l.reverse_reverse]
  induction l.reverse with
  | nil => exact h0
  | cons b t ih => rw [List.reverse_cons]; exact hs _ _ ih
/-- A number's bytes, the highest first, none ahead that is 0. -/
def num (n : Nat) : List UInt8 := if _h : n = 0 then [] else num (n / 256) ++ [UInt8.ofNat (n % 256)]
termination_by n
decreasing_by omega
theorem num_zero : num 0 = [] := by rw [num]; simp
theorem num_pos {n : Nat} (h : n ≠ 0) : num n = num (n / 256) ++ [UInt8.ofNat (n % 256)] := by rw [num, dif_neg h]
/-- The number of bytes. -/
def val (l : List UInt8) : Nat := l.foldl (fun a b => a * 256 + b.toNat) 0
theorem val_snoc (l : List UInt8) (b : UInt8) : val (l ++ [b]) = val l * 256 + b.toNat := by simp [val]
theorem val_num (n : Nat) : val (num n) = n := by
  induction n using Nat.strongRecOn with
  | ind n ih =>
    by_cases h : n = 0
    · subst h; rw [num_zero]; rfl
    · rw [num_pos h, val_snoc, ih _ (by omega), b8 (Nat.mod_lt _ (by decide))]; omega
theorem num_length_le {n : Nat} : ∀ k, n < 256 ^ k → (num n).length ≤ k := by
  induction n using Nat.strongRecOn with
  | ind n ih =>
    intro k hk
    by_cases h : n = 0
    · subst h; rw [num_zero]; simp
    · rcases k with _ | k
      · simp at hk; omega
      · rw [num_pos h, List.length_append]
        have := ih (n / 256) (by omega) k (by rw [Nat.pow_succ] at hk; omega)
        simp; omega
theorem num_head {n : Nat} : ∀ b r, num n = b :: r → b ≠ 0 := by
  induction n using Nat.strongRecOn with
  | ind n ih =>
    intro b r hr
    by_cases h : n = 0
    · subst h; rw [num_zero] at hr; cases hr
    · rw [num_pos h] at hr
      by_cases h2 : n / 256 = 0
      · rw [h2, num_zero] at hr
        simp at hr
        intro hb
        rw [hb] at hr
        have := congrArg UInt8.toNat hr.1
        rw [b8 (Nat.mod_lt _ (by decide))] at this
        have h3 : (0 : UInt8).toNat = 0 := rfl
        omega
      · have hne : num (n / 256) ≠ [] := by
          rw [num_pos h2]; simp
        obtain ⟨c, q, hc⟩ := List.exists_cons_of_ne_nil hne
        rw [hc] at hr
        simp at hr
        rw [← hr.1]
        exact ih _ (by omega) c q hc
theorem num_length_pos {n : Nat} (h : n ≠ 0) : 0 < (num n).length := by rw [num_pos h]; simp
theorem val_lt (l : List UInt8) : val l < 256 ^ l.length := by
  refine snoc_ind (P := fun l => val l < 256 ^ l.length) (by simp [val]) (fun l b ih => ?_) l
  rw [val_snoc, List.length_append, Nat.pow_add]
  have := b.toNat_lt
  simp; omega
theorem num_val (l : List UInt8) : (∀ b r, l = b :: r → b ≠ 0) → num (val l) = l := by
  refine snoc_ind (P := fun l => (∀ b r, l = b :: r → b ≠ 0) → num (val l) = l) (fun _ => by simp [val, num_zero]) (fun l b ih h => ?_) l
  · have hb := b.toNat_lt
    rw [val_snoc]
    rcases l with _ | ⟨c, l⟩
    · have hb0 : b ≠ 0 := h b [] rfl
      have hn : b.toNat ≠ 0 := fun e => hb0 (by rw [← UInt8.ofNat_toNat (x := b), e]; rfl)
      have e1 : val [] * 256 + b.toNat = b.toNat := by simp [val]
      rw [e1, num_pos hn, show b.toNat / 256 = 0 by omega, num_zero, show b.toNat % 256 = b.toNat by omega]
      simp
    · have hl : num (val (c :: l)) = c :: l := ih (fun b' r' e => h b' (r' ++ [b]) (by rw [e]; rfl))
      have h0 : val (c :: l) ≠ 0 := fun e => by rw [e, num_zero] at hl; cases hl
      rw [num_pos (by omega), show (val (c :: l) * 256 + b.toNat) / 256 = val (c :: l) by omega, show (val (c :: l) * 256 + b.toNat) % 256 = b.toNat by omega, hl]
      simp

/-- What stands ahead of so many bytes. -/
def hd (k n : Nat) : List UInt8 := if n ≤ 55 then [UInt8.ofNat (k + n)] else UInt8.ofNat (k + 55 + (num n).length) :: num n
/-- Is a text its one byte? -/
def bareL : List UInt8 → Bool
  | [b] => decide (b.toNat < 128)
  | _ => false
def hdT (s : List UInt8) : List UInt8 := if bareL s then [] else hd 128 s.length
def encT (s : List UInt8) : List UInt8 := hdT s ++ s

/-- Items one behind the other: texts and lists. -/
inductive Fo where
  | nil : Fo
  | text (s : List UInt8) (r : Fo) : Fo
  | list (i r : Fo) : Fo
def Fo.len : Fo → Nat
  | .nil => 0
  | .text _ r => r.len + 1
  | .list _ r => r.len + 1
def Fo.app : Fo → Fo → Fo
  | .nil, g => g
  | .text s r, g => .text s (r.app g)
  | .list i r, g => .list i (r.app g)
def Fo.enc : Fo → List UInt8
  | .nil => []
  | .text s r => encT s ++ r.enc
  | .list i r => hd 192 i.enc.length ++ i.enc ++ r.enc
theorem Fo.app_nil (f : Fo) : f.app .nil = f := by
  induction f with
  | nil => rfl
  | text s r ih => simp [Fo.app, ih]
  | list i r _ ih => simp [Fo.app, ih]
theorem Fo.app_assoc (f g h : Fo) : (f.app g).app h = f.app (g.app h) := by
  induction f with
  | nil => rfl
  | text s r ih => simp [Fo.app, ih]
  | list i r _ ih => simp [Fo.app, ih]
theorem Fo.enc_app (f g : Fo) : (f.app g).enc = f.enc ++ g.enc := by
  induction f with
  | nil => rfl
  | text s r ih => simp [Fo.app, Fo.enc, ih]
  | list i r _ ih => simp [Fo.app, Fo.enc, ih]
theorem Fo.len_app (f g : Fo) : (f.app g).len = f.len + g.len := by
  induction f with
  | nil => simp [Fo.app, Fo.len]
  | text s r ih => simp [Fo.app, Fo.len, ih]; omega
  | list i r _ ih => simp [Fo.app, Fo.len, ih]; omega

/-- Take so many bytes. -/
def tk (n : Nat) (s : List UInt8) : Option (List UInt8 × List UInt8) := if n ≤ s.length then some (s.take n, s.drop n) else none
/-- Is it a number's text of at most eight bytes? -/
def smallL (s : List UInt8) : Bool := decide (s.length ≤ 8) && (s.head? != some 0)
def bodyP (a : Nat) (s : List UInt8) : Option (List UInt8 × List UInt8) :=
  if a ≤ 55 then tk a s else
    match tk (a - 55) s with
    | none => none
    | some (n, r) => if smallL n = true ∧ 55 < val n then tk (val n) r else none
def itemsP (p : List UInt8 → Option (Fo × List UInt8)) : Nat → List UInt8 → Option Fo
  | _, [] => some .nil
  | 0, _ :: _ => none
  | n + 1, b :: s =>
    match p (b :: s) with
    | none => none
    | some (f, r) =>
      match itemsP p n r with
      | none => none
      | some g => some (f.app g)
/-- A text, a list, out of their bytes. -/
def textS : Option (List UInt8 × List UInt8) → Option (Fo × List UInt8)
  | none => none
  | some (x, r') => if bareL x then none else some (.text x .nil, r')
def listS (p : List UInt8 → Option (Fo × List UInt8)) : Option (List UInt8 × List UInt8) → Option (Fo × List UInt8)
  | none => none
  | some (x, r') =>
    match itemsP p x.length x with
    | none => none
    | some f => some (.list f .nil, r')
/-- An item out of bytes; p: an item in one list more. -/
def itemS (p : List UInt8 → Option (Fo × List UInt8)) : List UInt8 → Option (Fo × List UInt8)
  | [] => none
  | b :: r =>
    if b.toNat < 128 then some (.text [b] .nil, r)
    else if b.toNat < 192 then textS (bodyP (b.toNat - 128) r)
    else listS p (bodyP (b.toNat - 192) r)
/-- .. that may stand in so many lists and one less. -/
def itemP : Nat → List UInt8 → Option (Fo × List UInt8)
  | 0 => fun _ => none
  | d + 1 => itemS (itemP d)
/-- All of a text as one item. -/
def decP (s : List UInt8) : Option Fo :=
  match itemP 65 s with
  | some (f, []) => some f
  | _ => none

/-- Sixteenths. -/
def hexD (n : Nat) : UInt8 := [48, 49, 50, 51, 52, 53, 54, 55, 56, 57, 97, 98, 99, 100, 101, 102].getD n 0
def hexL (s : List UInt8) : List UInt8 := s.flatMap fun b => [hexD (b.toNat / 16), hexD (b.toNat % 16)]
/-- What is shown, with a gap ahead. -/
def Fo.sho : Fo → List UInt8 → List UInt8
  | .nil, _ => []
  | .text s r, g => g ++ [34] ++ hexL s ++ [34] ++ r.sho [32]
  | .list i r, g => g ++ [91] ++ i.sho [] ++ [93] ++ r.sho [32]

/-- The items f lie one behind the other from cell o of block g on; what they name lies in blocks of S. -/
def Fo.At (S : Nat → Prop) : Fo → Nat → Nat → World → Prop
  | .nil, _, _, _ => True
  | .text s r, g, o, W => (W.cell? ⟨g, o, none⟩ = some (.bool false) ∧ W.cell? ⟨g, o + 1, none⟩ = some (.string (str s)) ∧ W.cell? ⟨g, o + 2, none⟩ = some (.slice none 0 0)) ∧ r.At S g (o + 3) W
  | .list i r, g, o, W => (W.cell? ⟨g, o, none⟩ = some (.bool true) ∧ W.cell? ⟨g, o + 1, none⟩ = some (.string ⟨#[]⟩) ∧
      ∃ v, W.cell? ⟨g, o + 2, none⟩ = some v ∧ ((v = .slice none 0 0 ∧ i = .nil) ∨ ∃ g' o' c, v = .slice (some ⟨g', o', none⟩) i.len c ∧ S g' ∧ i.len ≤ c ∧ i.At S g' o' W)) ∧ r.At S g (o + 3) W
/-- A slice of items. -/
def SlF (S : Nat → Prop) (f : Fo) (v : Value) (W : World) : Prop :=
  (v = .slice none 0 0 ∧ f = .nil) ∨ ∃ g o c, v = .slice (some ⟨g, o, none⟩) f.len c ∧ S g ∧ f.len ≤ c ∧ f.At S g o W
theorem Fo.At.kept {S : Nat → Prop} {W W' : World} (hb : ∀ k, S k → W'.heap[k]? = W.heap[k]?) : ∀ (f : Fo) (g o : Nat), S g → f.At S g o W → f.At S g o W' := by
  intro f
  induction f with
  | nil => intro g o _ _; trivial
  | text s r ih =>
    intro g o hg h
    have hc : ∀ j, W'.cell? ⟨g, j, none⟩ = W.cell? ⟨g, j, none⟩ := fun j => World.cell?_of_block (hb g hg)
    exact ⟨⟨(hc _).trans h.1.1, (hc _).trans h.1.2.1, (hc _).trans h.1.2.2⟩, ih g _ hg h.2⟩
  | list i r ihi ih =>
    intro g o hg h
    have hc : ∀ j, W'.cell? ⟨g, j, none⟩ = W.cell? ⟨g, j, none⟩ := fun j => World.cell?_of_block (hb g hg)
    obtain ⟨⟨h1, h2, v, h3, h4⟩, h5⟩ := h
    refine ⟨⟨(hc _).trans h1, (hc _).trans h2, v, (hc _).trans h3, ?_⟩, ih g _ hg h5⟩
    rcases h4 with h4 | ⟨g', o', c, e, hl, hn, ha⟩
    · exact Or.inl h4
    · exact Or.inr ⟨g', o', c, e, hl, hn, ihi g' o' hl ha⟩
theorem Fo.At.mono {S T : Nat → Prop} {W : World} (hm : ∀ k, S k → T k) : ∀ (f : Fo) (g o : Nat), f.At S g o W → f.At T g o W := by
  intro f
  induction f with
  | nil => intro g o _; trivial
  | text s r ih => intro g o h; exact ⟨h.1, ih g _ h.2⟩
  | list i r ihi ih =>
    intro g o h
    obtain ⟨⟨h1, h2, v, h3, h4⟩, h5⟩ := h
    refine ⟨⟨h1, h2, v, h3, ?_⟩, ih g _ h5⟩
    rcases h4 with h4 | ⟨g', o', c, e, hl, hn, ha⟩
    · exact Or.inl h4
    · exact Or.inr ⟨g', o', c, e, hm _ hl, hn, ihi g' o' ha⟩
theorem SlF.kept {S : Nat → Prop} {f : Fo} {v : Value} {W W' : World} (hb : ∀ k, S k → W'.heap[k]? = W.heap[k]?) (h : SlF S f v W) : SlF S f v W' := by
  rcases h with h | ⟨g, o, c, e, hl, hn, ha⟩
  · exact Or.inl h
  · exact Or.inr ⟨g, o, c, e, hl, hn, Fo.At.kept hb f g o hl ha⟩
theorem SlF.mono {S T : Nat → Prop} {f : Fo} {v : Value} {W : World} (hm : ∀ k, S k → T k) (h : SlF S f v W) : SlF T f v W := by
  rcases h with h | ⟨g, o, c, e, hl, hn, ha⟩
  · exact Or.inl h
  · exact Or.inr ⟨g, o, c, e, hm _ hl, hn, Fo.At.mono hm f g o ha⟩
/-- The cells of items. -/
def Cel (S : Nat → Prop) : Fo → List Value → World → Prop
  | .nil, xs, _ => xs = []
  | .text s r, xs, W => ∃ ys, xs = .bool false :: .string (str s) :: .slice none 0 0 :: ys ∧ Cel S r ys W
  | .list i r, xs, W => ∃ v ys, xs = .bool true :: .string ⟨#[]⟩ :: v :: ys ∧ SlF S i v W ∧ Cel S r ys W
theorem Cel.at {S : Nat → Prop} {W : World} {g : Nat} : ∀ (f : Fo) (xs : List Value) (o : Nat), (∀ j u, xs[j]? = some u → W.cell? ⟨g, o + j, none⟩ = some u) → Cel S f xs W → f.At S g o W := by
  intro f
  induction f with
  | nil => intro xs o _ _; trivial
  | text s r ih =>
    intro xs o hx h
    obtain ⟨ys, rfl, h⟩ := h
    exact ⟨⟨hx 0 _ rfl, hx 1 _ rfl, hx 2 _ rfl⟩, ih ys _ (fun j u hj => by rw [show o + 3 + j = o + (j + 3) by omega]; exact hx (j + 3) u (by simpa using hj)) h⟩
  | list i r _ ih =>
    intro xs o hx h
    obtain ⟨v, ys, rfl, hv, h⟩ := h
    refine ⟨⟨hx 0 _ rfl, hx 1 _ rfl, v, hx 2 _ rfl, hv⟩, ih ys _ (fun j u hj => by rw [show o + 3 + j = o + (j + 3) by omega]; exact hx (j + 3) u (by simpa using hj)) h⟩
theorem Cel.kept {S : Nat → Prop} {W W' : World} (hb : ∀ k, S k → W'.heap[k]? = W.heap[k]?) : ∀ (f : Fo) (xs : List Value), Cel S f xs W → Cel S f xs W' := by
  intro f
  induction f with
  | nil => intro xs h; exact h
  | text s r ih => intro xs h; obtain ⟨ys, e, h⟩ := h; exact ⟨ys, e, ih ys h⟩
  | list i r _ ih => intro xs h; obtain ⟨v, ys, e, hv, h⟩ := h; exact ⟨v, ys, e, hv.kept hb, ih ys h⟩
theorem Cel.mono {S T : Nat → Prop} {W : World} (hm : ∀ k, S k → T k) : ∀ (f : Fo) (xs : List Value), Cel S f xs W → Cel T f xs W := by
  intro f
  induction f with
  | nil => intro xs h; exact h
  | text s r ih => intro xs h; obtain ⟨ys, e, h⟩ := h; exact ⟨ys, e, ih ys h⟩
  | list i r _ ih => intro xs h; obtain ⟨v, ys, e, hv, h⟩ := h; exact ⟨v, ys, e, hv.mono hm, ih ys h⟩
theorem Cel.app {S : Nat → Prop} {W : World} {h : Fo} {zs : List Value} (hz : Cel S h zs W) : ∀ (f : Fo) (xs : List Value), Cel S f xs W → Cel S (f.app h) (xs ++ zs) W := by
  intro f
  induction f with
  | nil => intro xs hx; cases hx; exact hz
  | text s r ih => intro xs hx; obtain ⟨ys, rfl, hx⟩ := hx; exact ⟨ys ++ zs, rfl, ih ys hx⟩
  | list i r _ ih => intro xs hx; obtain ⟨v, ys, rfl, hv, hx⟩ := hx; exact ⟨v, ys ++ zs, rfl, hv, ih ys hx⟩
theorem Cel.length {S : Nat → Prop} {W : World} : ∀ (f : Fo) (xs : List Value), Cel S f xs W → xs.length = f.len * 3 := by
  intro f
  induction f with
  | nil => intro xs hx; cases hx; rfl
  | text s r ih => intro xs hx; obtain ⟨ys, rfl, hx⟩ := hx; simp [Fo.len, ih ys hx]; omega
  | list i r _ ih => intro xs hx; obtain ⟨v, ys, rfl, hv, hx⟩ := hx; simp [Fo.len, ih ys hx]; omega
/-- An item, as a value: a text or a list. -/
inductive It where
  | text (s : List UInt8) : It
  | list (i : Fo) : It
def It.fo : It → Fo → Fo
  | .text s, r => .text s r
  | .list i, r => .list i r
def It.enc : It → List UInt8
  | .text s => encT s
  | .list i => hd 192 i.enc.length ++ i.enc
def ItV (S : Nat → Prop) : It → Value → World → Prop
  | .text s, v, _ => v = .agg #[.bool false, .string (str s), .slice none 0 0]
  | .list i, v, W => ∃ u, v = .agg #[.bool true, .string ⟨#[]⟩, u] ∧ SlF S i u W
theorem ItV.kept {S : Nat → Prop} {x : It} {v : Value} {W W' : World} (hb : ∀ k, S k → W'.heap[k]? = W.heap[k]?) (h : ItV S x v W) : ItV S x v W' := by
  cases x with
  | text s => exact h
  | list i => obtain ⟨u, e, h⟩ := h; exact ⟨u, e, h.kept hb⟩
theorem ItV.mono {S T : Nat → Prop} {x : It} {v : Value} {W : World} (hm : ∀ k, S k → T k) (h : ItV S x v W) : ItV T x v W := by
  cases x with
  | text s => exact h
  | list i => obtain ⟨u, e, h⟩ := h; exact ⟨u, e, h.mono hm⟩
theorem SlF.form {S : Nat → Prop} {f : Fo} {v : Value} {W : World} (h : SlF S f v W) : ∃ a n c, v = .slice a n c := by
  rcases h with ⟨rfl, _⟩ | ⟨g, o, c, rfl, _⟩
  · exact ⟨_, _, _, rfl⟩
  · exact ⟨_, _, _, rfl⟩
theorem ItV.form {S : Nat → Prop} {x : It} {v : Value} {W : World} (h : ItV S x v W) : ∃ b s a n c, v = .agg #[.bool b, .string s, .slice a n c] := by
  cases x with
  | text s => exact ⟨_, _, _, _, _, h⟩
  | list i =>
    obtain ⟨u, e, h⟩ := h
    obtain ⟨a, n, c, rfl⟩ := h.form
    exact ⟨_, _, _, _, _, e⟩
/-- An item's three cells. -/
theorem ItV.cel {S : Nat → Prop} {x : It} {v : Value} {W : World} (h : ItV S x v W) : ∃ b s l, v = .agg #[.bool b, .string s, l] ∧ l.oneCell' = true ∧ Cel S (x.fo .nil) [.bool b, .string s, l] W := by
  cases x with
  | text s => exact ⟨false, str s, .slice none 0 0, h, rfl, [], rfl, rfl⟩
  | list i =>
    obtain ⟨u, e, h⟩ := h
    refine ⟨true, ⟨#[]⟩, u, e, ?_, u, [], rfl, h, rfl⟩
    rcases h with ⟨rfl, _⟩ | ⟨g, o, c, rfl, _⟩ <;> rfl
end Go.Proofs.Ytbhijjegkpjkcaa
end
section
namespace Go.Proofs.Ytbhijjegkpjkcaa
open Go.RowKit

theorem heap_set3 {w : World} {b : Nat} {v0 v1 v2 : Value} {t : TypeId} (h : w.heap[b]? = some (.cells #[v0, v1, v2] t (0, 0))) (u0 u1 u2 : Value) :
    (((w.setCell ⟨b, 0, none⟩ u0).setCell ⟨b, 1, none⟩ u1).setCell ⟨b, 2, none⟩ u2).heap[b]? = some (.cells #[u0, u1, u2] t (0, 0)) := by
  have e := heap_setCell_same _ _ 2 _ _ u2 (heap_setCell_same _ _ 1 _ _ u1 (heap_setCell_same _ _ 0 _ _ u0 h))
  simpa using e
theorem below_set3 {B b : Nat} {a w : World} (h : Below B a w) (hb : B ≤ b) (u0 u1 u2 : Value) : Below B a (((w.setCell ⟨b, 0, none⟩ u0).setCell ⟨b, 1, none⟩ u1).setCell ⟨b, 2, none⟩ u2) :=
  ((h.setCell (by simpa using hb) _).setCell (by simpa using hb) _).setCell (by simpa using hb) _
theorem cells3 {w : World} {b : Nat} {v0 v1 v2 : Value} {t : TypeId} (h : w.heap[b]? = some (.cells #[v0, v1, v2] t (0, 0))) :
    (w.cell? ⟨b, 0, none⟩ = some v0 ∧ w.cell? ⟨b, 1, none⟩ = some v1 ∧ w.cell? ⟨b, 2, none⟩ = some v2) ∧
    (w.frozen? ⟨b, 0, none⟩ = false ∧ w.frozen? ⟨b, 1, none⟩ = false ∧ w.frozen? ⟨b, 2, none⟩ = false) :=
  ⟨⟨by rw [cell_of h 0]; rfl, by rw [cell_of h 1]; rfl, by rw [cell_of h 2]; rfl⟩, free_of h 0, free_of h 1, free_of h 2⟩
/-- A text, as an item. -/
def textV (s : ByteArray) : Value := .agg #[.bool false, .string s, .slice none 0 0]
set_option maxRecDepth 100000 in
theorem text_c (s : ByteArray) (w : World) : Calls Try.prog 20 #[.string s] w fun e w' => e = .returned (textV s) ∧ Below w.heap.size w w' := by
  go_enter Try.func20, Try.ntmps20
  go_wp2_with fail
  exact bodyPost_ret (results_cell_row Try.results20 _ _ _ _ _ _ _ rfl (heap_alloc_new _ _) Try.underlying58 rfl (by kernel_rfl)) rfl ⟨rfl, (Below.refl _ _).alloc (Nat.le_refl _) _⟩
theorem bareL_ne {s : List UInt8} (h : s.length ≠ 1) : bareL s = false := by
  rcases s with _ | ⟨b, _ | ⟨c, r⟩⟩
  · rfl
  · simp at h
  · rfl
theorem bare_c (s : List UInt8) (w : World) : Calls Try.prog 85 #[.string (str s)] w fun e w' => e = .returned (.bool (bareL s)) ∧ w' = w := by
  go_enter Try.func85, Try.ntmps85
  go_wp2_with fail
  · have h1 : s.length = 1 := by rw [← str_size]; omega
    obtain ⟨b, rfl⟩ := List.length_eq_one_iff.1 h1
    go_ret
    refine ⟨?_, rfl⟩
    rw [str_get]
    simp [bareL]
    omega
  · have h1 : s.length ≠ 1 := by rw [← str_size]; omega
    go_ret
    refine ⟨?_, rfl⟩
    rw [bareL_ne h1]
    rfl
/-- One byte as a text. -/
theorem conv1 (W : World) (x : Nat) (hx : x < 256) : (convert 33 9 (.slice (some ⟨W.heap.size, 0, none⟩) 1 1)).run Try.prog (W.alloc (.cells #[.int .u8 (x : Nat)] 5)) = .ok (.string (str [UInt8.ofNat x])) (W.alloc (.cells #[.int .u8 (x : Nat)] 5)) := by
  have h := Lib.run_convert_whole (P := Try.prog) (W.alloc (.cells #[.int .u8 (x : Nat)] 5)) 33 5 9 Try.underlying33 Try.underlying5 Try.underlying9 W.heap.size 0 (str [UInt8.ofNat x]) (by
    intro i hi
    rw [str_size] at hi
    obtain rfl : i = 0 := by simpa using hi
    rw [str_get, cell_of (heap_alloc_new _ _)]
    simp [Nat.mod_eq_of_lt hx]) 1
  rwa [str_size] at h
def zbytes (n : Nat) (l : List UInt8) : Array Value := (List.replicate n (Value.int .u8 0) ++ l.map fun b => Value.int .u8 (b.toNat : Nat)).toArray
theorem zbytes_size (n : Nat) (l : List UInt8) : (zbytes n l).size = n + l.length := by simp [zbytes]
theorem zbytes_set (n : Nat) (l : List UInt8) (b : UInt8) : (zbytes (n + 1) l).setIfInBounds n (.int .u8 (b.toNat : Nat)) = zbytes n (b :: l) := by
  apply Array.ext_getElem?
  intro j
  rw [Array.getElem?_setIfInBounds]
  unfold zbytes
  simp only [List.size_toArray, List.getElem?_toArray, List.length_append, List.length_replicate, List.length_map]
  by_cases hj : n = j
  · subst hj
    rw [if_pos rfl, if_pos (by omega), List.getElem?_append_right (by simp)]
    simp
  · rw [if_neg hj]
    by_cases h2 : j < n
    · rw [List.getElem?_append_left (by simp; omega), List.getElem?_append_left (by simpa using h2)]
      simp [h2, show j < n + 1 by omega]
    · rw [List.getElem?_append_right (by simp; omega), List.getElem?_append_right (by simp; omega)]
      obtain ⟨k, rfl⟩ : ∃ k, j = n + 1 + k := ⟨j - (n + 1), by omega⟩
      rw [List.length_replicate, List.length_replicate, show n + 1 + k - n = k + 1 by omega, show n + 1 + k - (n + 1) = k by omega]
      simp
theorem zbytes_get (n : Nat) (l : List UInt8) (j : Nat) (h : j < l.length) : (zbytes n l)[n + j]? = some (.int .u8 ((l[j]'h).toNat : Nat)) := by
  unfold zbytes
  rw [List.getElem?_toArray, List.getElem?_append_right (by simp)]
  simp [h]
/-- The end of a row of bytes as a text. -/
theorem convEnd (W : World) (b n : Nat) (l : List UInt8) (t : TypeId) (h : W.heap[b]? = some (.cells (zbytes n l) t (0, 0))) (cap : Nat) : (convert 33 9 (.slice (some ⟨b, n, none⟩) l.length cap)).run Try.prog W = .ok (.string (str l)) W := by
  have h := Lib.run_convert_whole (P := Try.prog) W 33 5 9 Try.underlying33 Try.underlying5 Try.underlying9 b n (str l) (by
    intro i hi
    rw [str_get, cell_of h]
    rw [str_size] at hi
    exact zbytes_get n l i hi) cap
  rwa [str_size] at h
theorem convEnd' (W : World) (b n o : Nat) (l : List UInt8) (t : TypeId) (h : W.heap[b]? = some (.cells (zbytes n l) t (0, 0))) (ho : o = n ∨ l = []) (cap : Nat) : (convert 33 9 (.slice (some ⟨b, o, none⟩) l.length cap)).run Try.prog W = .ok (.string (str l)) W := by
  rcases ho with rfl | rfl
  · exact convEnd W b o l t h cap
  · exact Lib.run_convert_whole (P := Try.prog) W 33 5 9 Try.underlying33 Try.underlying5 Try.underlying9 b o (str []) (fun i hi => absurd hi (by simp [str_size])) cap
/-- What Number knows at the head of a round. -/
structure NumR (w : World) (n m : Nat) (acc : List UInt8) (W : World) : Prop where
  below : Below w.heap.size w W
  size : W.heap.size = w.heap.size + 2
  row0 : W.heap[w.heap.size]? = some (.cells #[.bool false, .string ⟨#[]⟩, .slice none 0 0] 58 (0, 0))
  row : W.heap[w.heap.size + 1]? = some (.cells (zbytes (8 - acc.length) acc) 84 (0, 0))
  eq : num n = num m ++ acc
set_option maxRecDepth 100000 in
set_option maxHeartbeats 2000000 in
theorem number_c (n : Nat) (hn : n < M64) (w : World) : Calls Try.prog 19 #[.int .u64 n] w fun e w' => e = .returned (textV (str (num n))) ∧ Below w.heap.size w w' := by
  have HL := Lib.hid (num_length_le (n := n) 8 (by unfold M64 at hn; exact hn))
  have HN := Lib.hid hn; clear hn
  go_enter Try.func19, Try.ntmps19
  go_wp2_with fail
  go_loopw [0, 4] (fun a i wr => ∃ (m : Nat) (acc : List UInt8), a = .int .u64 m ∧ i = .int .i64 ((8 - acc.length : Nat) : Int) ∧ m < M64 ∧ NumR w n m acc wr) (fun a _ _ => (intOf a).toNat)
  case atStart =>
    refine ⟨n, [], rfl, rfl, HN.out, ⟨((Below.refl _ _).alloc (Nat.le_refl _) _).alloc (by simp) _, by simp, ?_, ?_, by simp⟩⟩
    · exact heap_alloc2_old w _ _
    · exact heap_alloc2_new w _ _
  case round =>
    obtain ⟨m, acc, rfl, rfl, hm, hS⟩ := hrel
    by_cases hz : m = 0
    · subst hz
      have ha : num n = acc := by have h := hS.eq; rw [num_zero] at h; simpa using h
      have hl : acc.length ≤ 8 := by rw [← ha]; exact HL.out
      obtain ⟨j, hj, hj2⟩ : ∃ j, 8 - acc.length = j ∧ acc.length = 8 - j := ⟨8 - acc.length, rfl, by omega⟩
      have hj8 : j ≤ 8 := by omega
      obtain ⟨o, ho⟩ : ∃ o, o = if 8 = j then 0 else j := ⟨_, rfl⟩
      have hcv := convEnd' wr (w.heap.size + 1) (8 - acc.length) o acc _ hS.row (by
        by_cases e : 8 = j
        · exact Or.inr (List.eq_nil_of_length_eq_zero (by omega))
        · rw [if_neg e] at ho; exact Or.inl (by omega))
      rw [hj2] at hcv
      rw [hj]
      have hsl : (Instr.sliceAt 84 (.pointer (some ⟨w.heap.size + 1, 0, none⟩)) (some (.int .i64 (j : Nat))) none none).run Try.prog wr = .ok (.slice (some ⟨w.heap.size + 1, o, none⟩) (8 - j) (8 - j)) wr := by
        have h8 : Try.prog.arrayLen 84 = 8 := by kernel_rfl
        have he : (sizeOf (Try.prog.elem 84)).run Try.prog wr = .ok 1 wr := by kernel_rfl
        have h := run_sliceAt_array_l wr 84 ⟨w.heap.size + 1, 0, none⟩ (by rw [Try.underlying84]; kernel_rfl) .i64 (j : Int) (by omega) (by rw [h8]; omega)
        rw [h, he, h8]
        simp only [Result.andThen_ok, slicedAt, Int.toNat_natCast, Nat.mul_one]
        by_cases e : 8 = j
        · rw [if_pos e] at ho ⊢; rw [ho]
        · rw [if_neg e] at ho ⊢; rw [ho]; simp [Addr.add]; omega
      clear ho
      have hK := Lib.hid (And.intro hS.row0 hS.size)
      have HB := Lib.hid hS.below
      clear hS hj hj2 hl
      rw [← ha] at hcv
      clear ha hm
      go_wp2_with (go_at_call 20; refine (text_c _ _).mono ?_)
      rintro e w1 ⟨rfl, hb1⟩
      have h0 := (hb1.block _ (by have := hK.out.2; omega)).trans hK.out.1
      obtain ⟨⟨c0, c1, c2⟩, z0, z1, z2⟩ := cells3 h0
      have H0 := Lib.hid h0
      have H1 := Lib.hid hb1
      clear h0 hb1
      generalize hs : str (num n) = s at *
      have HE := Lib.hid hs
      clear hs
      unfold textV
      go_wp2_with fail
      exact bodyPost_ret (results_cell_row Try.results19 _ _ _ _ _ _ _ rfl (heap_set3 H0.out _ _ _) Try.underlying58 rfl (by kernel_rfl)) rfl
        ⟨by rw [HE.out]; rfl, below_set3 (HB.out.trans (H1.out.mono (by have := HB.out.size; omega))) (Nat.le_refl _) _ _ _⟩
    · have hmi : (0 : Int) < (m : Int) := by omega
      have hne := num_pos hz
      have hl : acc.length < 8 := by
        have h := congrArg List.length hS.eq
        have h2 := HL.out
        have h3 := num_length_pos hz
        rw [List.length_append] at h
        omega
      have HS := Lib.hid hS; clear hS
      obtain ⟨k, hk⟩ : ∃ k, 8 - acc.length = k + 1 := ⟨7 - acc.length, by omega⟩
      have c0 := cell_of HS.out.row k
      have z0 := free_of HS.out.row k
      have hkb : k < 8 := by omega
      have hk2 := Lib.hid (show acc.length + k = 7 by omega)
      have HX := Lib.hid (show NumR w n (m / 256) (UInt8.ofNat (m % 256) :: acc) (wr.setCell ⟨w.heap.size + 1, k, none⟩ (.int .u8 ((m % 256 : Nat) : Int))) from by
        obtain ⟨hb, hs, h0, hr, he⟩ := HS.out
        refine ⟨hb.setCell (p := ⟨w.heap.size + 1, k, none⟩) (by simp) _, by simpa [World.setCell] using hs, (Below.heap_setCell _ _ _ _ (by simp)).trans h0, ?_, ?_⟩
        · rw [hk] at hr
          have h := heap_setCell_same _ _ k _ _ (.int .u8 ((m % 256 : Nat) : Int)) hr
          have e : ((UInt8.ofNat (m % 256)).toNat : Int) = ((m % 256 : Nat) : Int) := by rw [b8 (Nat.mod_lt _ (by decide))]
          rw [← e, zbytes_set] at h
          rw [← e, show 8 - (UInt8.ofNat (m % 256) :: acc).length = k by simp; omega]
          exact h
        · rw [he, hne]; simp)
      rw [hk] at *
      clear hk
      rw [show (zbytes (k + 1) acc)[k]? = some (.int .u8 0) from by unfold zbytes; rw [List.getElem?_toArray, List.getElem?_append_left (by simp)]; simp] at c0
      have bk : (0 : Int) ≤ (k : Int) ∧ (k : Int) < 8 := by omega
      go_wp2_with fail
      refine ⟨⟨m / 256, UInt8.ofNat (m % 256) :: acc, by simp, ?_, by omega, by simpa using HX.out⟩, by simp [intOf]; omega⟩
      have := hk2.out
      simp
      omega
theorem field_text (s : ByteArray) (w : World) : (Instr.field 58 (.agg #[.bool false, .string s, .slice none 0 0]) 1).run Try.prog w = .ok (.string s) w := by
  simp [Instr.field, run_underlying Try.underlying58]
  kernel_rfl
set_option maxRecDepth 100000 in
theorem hd_c (k n : Nat) (hk : k = 128 ∨ k = 192) (hn : n < 9223372036854775808) (w : World) : Calls Try.prog 80 #[.int .u8 k, .int .i64 n] w fun e w' => e = .returned (.string (str (hd k n))) ∧ Below w.heap.size w w' := by
  by_cases h55 : n ≤ 55
  · have hi : (n : Int) ≤ 55 := by omega
    have hcv := conv1 w (k + n) (by omega)
    rw [show ((k + n : Nat) : Int) = (k : Int) + (n : Int) by omega] at hcv
    generalize hs1 : str [UInt8.ofNat (k + n)] = s1 at *
    have HS1 := Lib.hid hs1; clear hs1
    go_enter Try.func80, Try.ntmps80
    go_wp2_with fail
    go_ret
    exact ⟨by unfold hd; rw [if_pos h55, HS1.out]; rfl, (Below.refl _ _).alloc (Nat.le_refl _) _⟩
  · have hi : ¬ (n : Int) ≤ 55 := by omega
    have HL := num_length_le (n := n) 8 (Nat.lt_trans hn (by decide))
    have HM := Lib.hid (show n < M64 by unfold M64; omega)
    have HE := Lib.hid (show hd k n = UInt8.ofNat (k + 55 + (num n).length) :: num n from if_neg h55)
    go_enter Try.func80, Try.ntmps80
    go_wp2_with (go_at_call 19; refine (number_c n HM.out _).mono ?_; rintro e w1 ⟨rfl, hb⟩; have HB := Lib.hid hb; clear hb; (generalize num n = l at *); have hsz := str_size l; have hcv := conv1 w1 (k + 55 + l.length) (by omega); (generalize hls : str l = s at *); have HS := Lib.hid hls; clear hls; (rw [← hsz] at hcv HL HE); (rw [show ((k + 55 + s.size : Nat) : Int) = (k : Int) + 55 + (s.size : Int) by omega] at hcv); (generalize hs1 : str [UInt8.ofNat (k + 55 + s.size)] = s1 at *); have HS1 := Lib.hid hs1; clear hs1 hsz; have hbig : ¬ 9223372036854775807 < s1.size + s.size := (by have h := str_size [UInt8.ofNat (k + 55 + s.size)]; rw [HS1.out] at h; simp at h; omega); have hfl := field_text s; unfold textV)
    go_ret
    refine ⟨?_, HB.out.alloc HB.out.size _⟩
    rw [HE.out, ← HS1.out, ← HS.out, str_append]
    simp [HS.out]
theorem headOf_c (s : List UInt8) (hs : s.length < 9223372036854775808) (w : World) : Calls Try.prog 79 #[.string (str s)] w fun e w' => e = .returned (.string (str (hdT s))) ∧ Below w.heap.size w w' := by
  have hsz := str_size s
  have HE := Lib.hid (show hdT s = if bareL s then [] else hd 128 s.length from rfl)
  have HC := Lib.hid (fun W => bare_c s W)
  have HD := Lib.hid (fun W => hd_c 128 s.length (Or.inl rfl) hs W)
  rw [← hsz] at HE HD
  generalize str s = x at *
  generalize bareL s = b at *
  clear hsz hs
  go_enter Try.func79, Try.ntmps79
  cases b
  · go_wp2_with (first | (go_at_call 85; refine (HC.out _).mono ?_; rintro e w1 ⟨rfl, rfl⟩) | (go_at_call 80; refine (HD.out _).mono ?_; rintro e w1 ⟨rfl, hb⟩; have HB := Lib.hid hb; clear hb))
    go_ret
    exact ⟨by rw [HE.out]; rfl, HB.out⟩
  · go_wp2_with (first | (go_at_call 85; refine (HC.out _).mono ?_; rintro e w1 ⟨rfl, rfl⟩))
    go_ret
    exact ⟨by rw [HE.out]; rfl, Below.refl _ _⟩
end Go.Proofs.Ytbhijjegkpjkcaa
end
section
namespace Go.Proofs.Ytbhijjegkpjkcaa
open Go.RowKit

/-- Of those that may come up next, each: it does. -/
theorem Drawn.among {P : Program} {md : Region.Mode} {ops : Array Oper} {Q : Exit → Act → World → Prop} {S : World → Prop} {ex : Nat → Bool} (l : List Nat) {n : Nat} {done : Array Bool} {a : Act} {w : World} (hr : Region.ready md ops done = l) (hne : l ≠ [])
    (h : ∀ i ∈ l, ∃ o : Oper, ops[i]? = some o ∧ Region.wanted o (yielded ops a.tmps) = true ∧
      ∀ K : Act → World → Prop, (∀ a' w', (ex i = false → dirty ops.size ex done = false → S w') → Drawn P md ops Q S ex n (done.setIfInBounds i true) a' w' → K a' w') → Oper.wp P o a w K Q) : Drawn P md ops Q S ex (n + 1) done a w := by
  refine ⟨fun h0 => absurd (hr.symm.trans h0) hne, fun j hj => ?_⟩
  rw [hr] at hj
  obtain ⟨o, hi, hg, hw⟩ := h j hj
  unfold wpOp
  simp only [hi, hg, if_true]
  exact .inl (hw _ fun a' w' h1 h2 => ⟨h1, h2⟩)

theorem heap_far {w : World} {b b' : Nat} (hne : b ≠ b') (u0 u1 u2 u3 : Value) :
    ((((w.setCell ⟨b', 0, none⟩ u0).setCell ⟨b', 1, none⟩ u1).setCell ⟨b', 2, none⟩ u2).setCell ⟨b', 3, none⟩ u3).heap[b]? = w.heap[b]? := by
  rw [heap_setCell_other _ _ _ _ (by simpa using hne), heap_setCell_other _ _ _ _ (by simpa using hne), heap_setCell_other _ _ _ _ (by simpa using hne), heap_setCell_other _ _ _ _ (by simpa using hne)]
theorem New4.other {w : World} {v0 v1 v2 v3 v0' v1' v2' v3' : Value} {t t' : TypeId} {N N' b b' : Nat} (h : New4 N v0 v1 v2 v3 t b w) (_ : New4 N' v0' v1' v2' v3' t' b' w) (hne : b ≠ b') (u0 u1 u2 u3 : Value) :
    New4 N v0 v1 v2 v3 t b ((((w.setCell ⟨b', 0, none⟩ u0).setCell ⟨b', 1, none⟩ u1).setCell ⟨b', 2, none⟩ u2).setCell ⟨b', 3, none⟩ u3) :=
  ⟨(heap_far hne _ _ _ _).trans h.1, by simpa [World.setCell] using h.2.1, h.2.2⟩
theorem Fr.row {w W : World} {B N : Nat} {L : List (Nat × Array Value × TypeId)} (h : Fr w B N L W) {b : Nat} {v0 v1 v2 v3 : Value} {t : TypeId} (hm : (b, #[v0, v1, v2, v3], t) ∈ L) :
    W.cell? ⟨b, 0, none⟩ = some v0 ∧ W.cell? ⟨b, 1, none⟩ = some v1 ∧ W.cell? ⟨b, 2, none⟩ = some v2 ∧ W.cell? ⟨b, 3, none⟩ = some v3 :=
  (cells4 (h.know _ hm).2).1
theorem Fr.lt {w W : World} {B N : Nat} {L : List (Nat × Array Value × TypeId)} (h : Fr w B N L W) {b : Nat} {cs : Array Value} {t : TypeId} (hm : (b, cs, t) ∈ L) : b < W.heap.size :=
  Nat.lt_of_lt_of_le (h.know _ hm).1 h.size

end Go.Proofs.Ytbhijjegkpjkcaa
end
section
namespace Go.Proofs.Ytbhijjegkpjkcaa
open Go.RowKit

section
variable {w : World} {B : Nat} {e : TypeId} {g cap n : Nat} {xs : List Value} {y : Value}
theorem own_form {v : Value} (h : w.ownsRow B e 1 v (n + 1) xs) : ∃ g cap, v = .slice (some ⟨g, 0, none⟩) (n + 1) cap ∧ B ≤ g ∧ g < w.heap.size ∧ n + 1 ≤ cap := by
  rcases h.2 with ⟨_, h0⟩ | ⟨g, cap, cur, rfl, hb, hg, hn, _⟩
  · omega
  · exact ⟨g, cap, rfl, hb, lt_of hg, hn⟩
theorem own_cell {v : Value} (h : w.ownsRow B e 1 v n xs) (hv : v = .slice (some ⟨g, 0, none⟩) n cap) (j : Nat) (u : Value) (hj : xs[j]? = some u) : w.cell? ⟨g, j, none⟩ = some u := by
  have h1 := h.cells (g := g) (by rw [hv]; rfl) j u hj
  have e : (⟨g, 0, none⟩ : Addr).add j = ⟨g, j, none⟩ := by unfold Addr.add; split <;> simp_all
  rwa [e] at h1
theorem own_free {v : Value} (h : w.ownsRow B e 1 v n xs) (hv : v = .slice (some ⟨g, 0, none⟩) n cap) (j : Nat) : w.frozen? ⟨g, j, none⟩ = false := by
  rcases h.2 with ⟨rfl, _⟩ | ⟨g', cap', cur, rfl, _, hg, _⟩
  · cases hv
  · cases hv; exact free_of hg j
theorem own_pop (h : w.ownsRow B e 1 (.slice (some ⟨g, 0, none⟩) (n + 1) cap) (n + 1) (xs ++ [y])) : w.ownsRow B e 1 (.slice (some ⟨g, 0, none⟩) n cap) n xs := by
  have hl : xs.length = n := by have := h.1; simp at this; omega
  refine ⟨by omega, Or.inr ?_⟩
  rcases h.2 with ⟨h0, _⟩ | ⟨g', cap', cur, hv, hb, hg, hn, hm, hs, ht⟩
  · cases h0
  · cases hv
    refine ⟨g, cap, cur, rfl, hb, hg, by omega, hm, hs, ?_⟩
    have := congrArg (List.take n) ht
    rw [List.take_take, Nat.mul_one, show min n (n + 1) = n by omega, List.take_left' hl] at this
    rwa [Nat.mul_one]
theorem own_setAt {v : Value} (h : w.ownsRow B e 1 v n xs) (hv : v = .slice (some ⟨g, 0, none⟩) n cap) (j : Nat) (y : Value) : (w.setCell ⟨g, j, none⟩ y).ownsRow B e 1 v n (xs.set j y) := by
  refine ⟨by simpa using h.1, Or.inr ?_⟩
  rcases h.2 with ⟨rfl, _⟩ | ⟨g', cap', cur, rfl, hb, hg, hn, hm, hs, ht⟩
  · cases hv
  · cases hv
    refine ⟨g, cap, cur.setIfInBounds j y, rfl, hb, heap_setCell_same _ _ _ _ _ _ hg, hn, hm, by simpa using hs, ?_⟩
    rw [Array.toList_setIfInBounds, ← ht, List.take_set]
end
theorem own_top {w : World} {B : Nat} {e : TypeId} {g cap n : Nat} {xs : List Value} {y : Value} (h : w.ownsRow B e 1 (.slice (some ⟨g, 0, none⟩) (n + 1) cap) (n + 1) (xs ++ [y])) : w.cell? ⟨g, n, none⟩ = some y ∧ w.frozen? ⟨g, n, none⟩ = false := by
  have hl : xs.length = n := by have := h.1; simp at this; omega
  exact ⟨own_cell h rfl n y (by rw [List.getElem?_append_right (by omega), hl]; simp), own_free h rfl n⟩
theorem own_keep {w w' : World} {B : Nat} {e : TypeId} {v : Value} {n : Nat} {xs : List Value} (h : w.ownsRow B e 1 v n xs) (hb : ∀ k, v.ownBlock = some k → w'.heap[k]? = w.heap[k]?) : w'.ownsRow B e 1 v n xs := by
  refine ⟨h.1, ?_⟩
  rcases h.2 with h0 | ⟨g, cap, cur, rfl, hbg, hg, rest⟩
  · exact Or.inl h0
  · exact Or.inr ⟨g, cap, cur, rfl, hbg, (hb g rfl).trans hg, rest⟩

/-- One element of one cell more. -/
theorem wpList_append_one {ops : Array Oper} {rest : List Oper} {o : Oper} {a : Act} {Q : Exit → Act → World → Prop} {W : World} (hgd : o.guard = none) (s x : Operand) (ty e : TypeId)
    (ho : o.op = .call { callee := .builtin .append, args := #[s, x], argTypes := #[ty, ty] }) (hu : Try.prog.underlying ty = some (.slice e)) (z : Value) (bytes : Nat)
    (hinfo : (Try.prog.info? e).map (fun i => (i.zero, i.size, i.bytes)) = some (some z, 1, bytes)) (hz1 : z.cells.size = 1) (hby : bytes ≤ 48)
    (B : Nat) (v : Value) (n : Nat) (xs : List Value) (hs : a.eval s = v) (hown : W.ownsRow B e 1 v n xs) (q : Nat) (u : Value) (h1 : u.oneCell' = true) (hx : a.eval x = .slice (some ⟨q, 0, none⟩) 1 1) (hz : W.heap[q]? = some (.cells #[u] e (0, 0)))
    (hB : B ≤ W.heap.size) (hn : n < 1000000000)
    (hK : ∀ v' W', W'.ownsRow B e 1 v' (n + 1) (xs ++ [u]) → W.grownBy W' v.ownBlock → (v'.ownBlock = v.ownBlock ∨ v'.ownBlock = some W.heap.size) → wpList Try.prog ops Q rest (a.put o.dst v') W') : wpList Try.prog ops Q (o :: rest) a W := by
  obtain ⟨i0, hi, hz0, hzz, hz2⟩ := info_parts hinfo
  refine wpList_append_own_at W hgd s x ty ho B e i0 z 1 bytes hu hi hz0 hzz hz2 hz1 (by omega) v n xs hs hown ⟨q, 0, none⟩ 1 1 [u] hx rfl ?_ ?_ (by unfold maxLen; omega) ?_ hB fun v' W' h2 h3 _ h5 => hK v' W' h2 h3 h5
  · intro j u' hj
    have e : (⟨q, 0, none⟩ : Addr).add j = ⟨q, j, none⟩ := by unfold Addr.add; split <;> simp_all
    rw [e, cell_of hz]
    simpa using hj
  · intro u' hu'
    obtain rfl : u' = u := by simpa using hu'
    exact h1
  · exact Nat.le_trans (Nat.mul_le_mul_left (n + 1) hby) (by omega)

theorem wp_append_one {o : Oper} {a : Act} {K : Act → World → Prop} {Q : Exit → Act → World → Prop} {W : World} (s x : Operand) (ty e : TypeId)
    (ho : o.op = .call { callee := .builtin .append, args := #[s, x], argTypes := #[ty, ty] }) (hu : Try.prog.underlying ty = some (.slice e)) (z : Value) (bytes : Nat)
    (hinfo : (Try.prog.info? e).map (fun i => (i.zero, i.size, i.bytes)) = some (some z, 1, bytes)) (hz1 : z.cells.size = 1) (hby : bytes ≤ 48)
    (B : Nat) (v : Value) (n : Nat) (xs : List Value) (hs : a.eval s = v) (hown : W.ownsRow B e 1 v n xs) (q : Nat) (u : Value) (h1 : u.oneCell' = true) (hx : a.eval x = .slice (some ⟨q, 0, none⟩) 1 1) (hz : W.heap[q]? = some (.cells #[u] e (0, 0)))
    (hB : B ≤ W.heap.size) (hn : n < 1000000000)
    (hK : ∀ v' W', W'.ownsRow B e 1 v' (n + 1) (xs ++ [u]) → W.grownBy W' v.ownBlock → (v'.ownBlock = v.ownBlock ∨ v'.ownBlock = some W.heap.size) → K (a.put o.dst v') W') : Oper.wp Try.prog o a W K Q := by
  obtain ⟨i0, hi, hz0, hzz, hz2⟩ := info_parts hinfo
  obtain ⟨v', w', hr, h2, h3, h4, h5⟩ := run_append_own_at (P := Try.prog) W B ty o.type e i0 z 1 bytes hu hi hz0 hzz hz2 hz1 (by omega) v n xs hown ⟨q, 0, none⟩ 1 1 [u] rfl (by
    intro j u' hj
    have e : (⟨q, 0, none⟩ : Addr).add j = ⟨q, j, none⟩ := by unfold Addr.add; split <;> simp_all
    rw [e, cell_of hz]
    simpa using hj) (by
    intro u' hu'
    obtain rfl : u' = u := by simpa using hu'
    exact h1) (by unfold maxLen; omega) (Nat.le_trans (Nat.mul_le_mul_left (n + 1) hby) (by omega)) hB
  unfold Oper.wp execOp
  simp only [ho, resolve, invoke, builtin, Sem.run_bind, Sem.run_pure, Result.andThen_ok, List.map_toArray, List.map_cons, List.map_nil, hs, hx, hr]
  exact hK _ _ h2 h3 h5

/-- What walk tells: a list begins, a text, a list ends. -/
inductive Ev where
  | bgn : Ev
  | txt (s : List UInt8) : Ev
  | fin : Ev
def Fo.evs : Fo → List Ev
  | .nil => []
  | .text s r => .txt s :: r.evs
  | .list i r => .bgn :: i.evs ++ .fin :: r.evs
/-- Of what is still to come, the last list first. -/
def evP : List Fo → List Ev
  | [] => []
  | f :: q => f.evs ++ .fin :: evP q
/-- From w to w' a call has turned nothing but blocks of F, and new ones; F' is what it may turn then. -/
structure Chg (F F' : Nat → Prop) (w w' : World) : Prop where
  os : w'.os = w.os
  tape : w'.tape = w.tape
  output : w'.output = w.output
  size : w.heap.size ≤ w'.heap.size
  block : ∀ k, k < w.heap.size → ¬ F k → w'.heap[k]? = w.heap[k]?
  new : ∀ k, F' k → F k ∨ w.heap.size ≤ k
theorem Chg.refl (F : Nat → Prop) (w : World) : Chg F F w w := ⟨rfl, rfl, rfl, Nat.le_refl _, fun _ _ _ => rfl, fun _ h => Or.inl h⟩
theorem Chg.trans {F F' F'' : Nat → Prop} {a b c : World} (h : Chg F F' a b) (k : Chg F' F'' b c) : Chg F F'' a c :=
  ⟨k.os.trans h.os, k.tape.trans h.tape, k.output.trans h.output, Nat.le_trans h.size k.size,
    fun i hi hn => (k.block i (Nat.lt_of_lt_of_le hi h.size) (fun hf => (h.new i hf).elim hn (by omega))).trans (h.block i hi hn),
    fun i hi => (k.new i hi).elim (fun hf => h.new i hf) (fun h2 => Or.inr (Nat.le_trans h.size h2))⟩
/-- Whom walk tells: a state, where it lies, and how each of the three functions turns it. -/
structure Sink (σ : Type) (nb nt ne : FuncId) (p : Value) where
  St : σ → World → Prop
  ft : World → Nat → Prop
  ok : σ → Ev → Prop
  step : σ → Ev → σ
  lt : ∀ s W k, St s W → ft W k → k < W.heap.size
  kept : ∀ s W W', St s W → (∀ k, ft W k → W'.heap[k]? = W.heap[k]?) → W.heap.size ≤ W'.heap.size → St s W' ∧ ∀ k, ft W' k ↔ ft W k
  eb : ∀ args w, (callFunc nb args).run Try.prog w = .ok (.enter nb args) w
  et : ∀ args w, (callFunc nt args).run Try.prog w = .ok (.enter nt args) w
  ee : ∀ args w, (callFunc ne args).run Try.prog w = .ok (.enter ne args) w
  cb : ∀ s W, St s W → ok s .bgn → Calls Try.prog nb #[p] W fun e W' => e = .returned (.tuple #[]) ∧ St (step s .bgn) W' ∧ Chg (ft W) (ft W') W W'
  ct : ∀ s t W, St s W → ok s (.txt t) → Calls Try.prog nt #[p, .string (str t)] W fun e W' => e = .returned (.tuple #[]) ∧ St (step s (.txt t)) W' ∧ Chg (ft W) (ft W') W W'
  ce : ∀ s W, St s W → ok s .fin → Calls Try.prog ne #[p] W fun e W' => e = .returned (.tuple #[]) ∧ St (step s .fin) W' ∧ Chg (ft W) (ft W') W W'
def runE {σ : Type} (st : σ → Ev → σ) : σ → List Ev → σ
  | s, [] => s
  | s, e :: r => runE st (st s e) r
def goodE {σ : Type} (st : σ → Ev → σ) (ok : σ → Ev → Prop) : σ → List Ev → Prop
  | _, [] => True
  | s, e :: r => ok s e ∧ goodE st ok (st s e) r
theorem runE_app {σ : Type} (st : σ → Ev → σ) : ∀ (a b : List Ev) (s : σ), runE st s (a ++ b) = runE st (runE st s a) b
  | [], _, _ => rfl
  | _ :: r, b, s => runE_app st r b (st s _)
theorem goodE_app {σ : Type} (st : σ → Ev → σ) (ok : σ → Ev → Prop) : ∀ (a b : List Ev) (s : σ), goodE st ok s (a ++ b) ↔ goodE st ok s a ∧ goodE st ok (runE st s a) b
  | [], _, _ => by simp [goodE, runE]
  | e :: r, b, s => by
    show ok s e ∧ goodE st ok (st s e) (r ++ b) ↔ (ok s e ∧ goodE st ok (st s e) r) ∧ goodE st ok (runE st (st s e) r) b
    rw [goodE_app st ok r b (st s e), and_assoc]
/-- What is still to come, as values. -/
def Pend (S : Nat → Prop) : List Fo → List Value → World → Prop
  | [], ys, _ => ys = []
  | f :: q, ys, W => ∃ y r, ys = y :: r ∧ SlF S f y W ∧ Pend S q r W
theorem Pend.kept {S : Nat → Prop} {W W' : World} (hb : ∀ k, S k → W'.heap[k]? = W.heap[k]?) : ∀ (q : List Fo) (ys : List Value), Pend S q ys W → Pend S q ys W'
  | [], _, h => h
  | _ :: q, _, ⟨y, r, e, h1, h2⟩ => ⟨y, r, e, h1.kept hb, Pend.kept hb q r h2⟩
theorem Pend.length {S : Nat → Prop} {W : World} : ∀ (q : List Fo) (ys : List Value), Pend S q ys W → ys.length = q.length
  | [], _, h => by cases h; rfl
  | _ :: q, _, ⟨y, r, e, h1, h2⟩ => by subst e; simp [Pend.length q r h2]
theorem evP_len : ∀ q : List Fo, q.length ≤ (evP q).length
  | [] => Nat.le_refl _
  | f :: q => by have := evP_len q; simp [evP]; omega
end Go.Proofs.Ytbhijjegkpjkcaa
end
