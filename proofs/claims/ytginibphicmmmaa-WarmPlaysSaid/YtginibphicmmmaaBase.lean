/- Plain facts on worlds: 'Only may B w w'': below block B nothing has turned but the blocks that 'may' names. -/
import Derived.WalkKit
import Derived.WalkSpells
import Derived.WalkLawsBesides
import Derived.Lib.Hide
namespace Go.Proofs.Ytginibphicmmmaa
open Go.RowKit

/-- Below block B the world w' is as w was, but for the blocks that 'may' names. -/
structure Only (may : Nat → Prop) (B : Nat) (w w' : World) : Prop where
  os : w'.os = w.os
  tape : w'.tape = w.tape
  output : w'.output = w.output
  size : w.heap.size ≤ w'.heap.size
  block : ∀ k, k < B → ¬ may k → w'.heap[k]? = w.heap[k]?

theorem Only.refl (may : Nat → Prop) (B : Nat) (w : World) : Only may B w w := ⟨rfl, rfl, rfl, Nat.le_refl _, fun _ _ _ => rfl⟩
theorem Only.trans {may : Nat → Prop} {B : Nat} {a b c : World} (h : Only may B a b) (k : Only may B b c) : Only may B a c :=
  ⟨k.os.trans h.os, k.tape.trans h.tape, k.output.trans h.output, Nat.le_trans h.size k.size, fun i hi hn => (k.block i hi hn).trans (h.block i hi hn)⟩
theorem Only.mono {may may' : Nat → Prop} {B B' : Nat} {w w' : World} (h : Only may B w w') (hB : B' ≤ B) (hm : ∀ k, k < B' → may k → may' k) : Only may' B' w w' :=
  ⟨h.os, h.tape, h.output, h.size, fun k hk hn => h.block k (Nat.lt_of_lt_of_le hk hB) (fun hmk => hn (hm k hk hmk))⟩
theorem Only.drew {may : Nat → Prop} {B : Nat} {a w : World} (h : Only may B a w) : Only may B a w.drew := ⟨h.os, h.tape, h.output, h.size, h.block⟩
theorem Only.drewN {may : Nat → Prop} {B : Nat} {a w : World} (h : Only may B a w) (n : Nat) : Only may B a (w.drewN n) := ⟨h.os, h.tape, h.output, h.size, h.block⟩
theorem Only.alloc {may : Nat → Prop} {B : Nat} {a w : World} (h : Only may B a w) (hB : B ≤ w.heap.size) (o : Obj) : Only may B a (w.alloc o) :=
  h.trans ⟨rfl, rfl, rfl, by simp, fun k hk _ => Below.heap_alloc _ _ _ (by omega)⟩
theorem Only.setCell {may : Nat → Prop} {B : Nat} {a w : World} (h : Only may B a w) {p : Addr} (hp : B ≤ p.block ∨ may p.block) (u : Value) : Only may B a (w.setCell p u) :=
  h.trans ⟨rfl, rfl, rfl, by simp [World.setCell], fun k hk hn => Below.heap_setCell _ _ _ _ (fun e => hp.elim (fun hp => by omega) (fun hp => hn (e ▸ hp)))⟩
theorem Only.of_below {may : Nat → Prop} {B : Nat} {w w' : World} (h : Below B w w') : Only may B w w' := ⟨h.os, h.tape, h.output, h.size, fun k hk _ => h.block k hk⟩
theorem Only.below {may : Nat → Prop} {B B' : Nat} {w w' : World} (h : Only may B w w') (hB : B' ≤ B) (hm : ∀ k, k < B' → ¬ may k) : Below B' w w' :=
  ⟨h.os, h.tape, h.output, h.size, fun k hk => h.block k (by omega) (hm k hk)⟩

/-- The cells of a block that is known whole. -/
theorem cell_of {w : World} {b : Nat} {cs : Array Value} {t : TypeId} {fr : Nat × Nat} (h : w.heap[b]? = some (.cells cs t fr)) (j : Nat) : w.cell? ⟨b, j, none⟩ = cs[j]? := by
  simp [World.cell?, h]
theorem free_of {w : World} {b : Nat} {cs : Array Value} {t : TypeId} (h : w.heap[b]? = some (.cells cs t (0, 0))) (j : Nat) : w.frozen? ⟨b, j, none⟩ = false := by
  simp [World.frozen?, h]
theorem lt_of {w : World} {b : Nat} {o : Obj} (h : w.heap[b]? = some o) : b < w.heap.size := by
  rcases Nat.lt_or_ge b w.heap.size with h' | h'
  · exact h'
  · simp [Array.getElem?_eq_none h'] at h

theorem heap_alloc_get (w : World) (o : Obj) (k : Nat) : (w.alloc o).heap[k]? = if k = w.heap.size then some o else w.heap[k]? := by
  show (w.heap.push o)[k]? = _
  rw [Array.getElem?_push]

theorem alloc_size (w : World) (o : Obj) : (w.alloc o).heap.size = w.heap.size + 1 := by
  show (w.heap.push o).size = _
  simp

/-- What a call hands back whose results are a variable of several cells and a slot. -/
theorem results_cell_slot {P : Program} {fn : Func} {p q : Tmp} {ty : TypeId} (h : fn.results = #[.cell p ty, .tmp q]) (tmps : Array Value) (w : World) (g : Nat) (t : TypeId) (cs : Array Value) (fr : Nat × Nat) (d : TypeDesc) (v : Value)
    (hp : tmps.getD p undef = .pointer (some ⟨g, 0, none⟩)) (hq : tmps.getD q undef = v) (hg : w.heap[g]? = some (.cells cs t fr))
    (hu : P.underlying ty = some d) (hd : (match d with | .struct _ | .array _ _ => true | _ => false) = true) (hi : (P.info? ty).map (·.size) = some cs.size) :
    (results fn tmps).run P w = .ok (.tuple #[.agg cs, v]) w := by
  have hp' : tmps[p]?.getD undef = .pointer (some ⟨g, 0, none⟩) := by simpa using hp
  have hq' : tmps[q]?.getD undef = v := by simpa using hq
  simp [results, h, hp', hq', asAddr, run_loadVar_row w g t ty cs fr d hg hu hd hi]

/-- Four stores, one behind the other, into a block of four. -/
theorem heap_set4 {w : World} {b : Nat} {v0 v1 v2 v3 : Value} {t : TypeId} (h : w.heap[b]? = some (.cells #[v0, v1, v2, v3] t (0, 0))) (u0 u1 u2 u3 : Value) :
    ((((w.setCell ⟨b, 0, none⟩ u0).setCell ⟨b, 1, none⟩ u1).setCell ⟨b, 2, none⟩ u2).setCell ⟨b, 3, none⟩ u3).heap[b]? = some (.cells #[u0, u1, u2, u3] t (0, 0)) := by
  have e := heap_setCell_same _ _ 3 _ _ u3 (heap_setCell_same _ _ 2 _ _ u2 (heap_setCell_same _ _ 1 _ _ u1 (heap_setCell_same _ _ 0 _ _ u0 h)))
  simpa using e

/-- Four stores into one block from B on. -/
theorem below_set4 {B b : Nat} {a w : World} (h : Below B a w) (hb : B ≤ b) (u0 u1 u2 u3 : Value) :
    Below B a ((((w.setCell ⟨b, 0, none⟩ u0).setCell ⟨b, 1, none⟩ u1).setCell ⟨b, 2, none⟩ u2).setCell ⟨b, 3, none⟩ u3) :=
  (((h.setCell (by simpa using hb) _).setCell (by simpa using hb) _).setCell (by simpa using hb) _).setCell (by simpa using hb) _

theorem cells4 {w : World} {b : Nat} {v0 v1 v2 v3 : Value} {t : TypeId} (h : w.heap[b]? = some (.cells #[v0, v1, v2, v3] t (0, 0))) :
    (w.cell? ⟨b, 0, none⟩ = some v0 ∧ w.cell? ⟨b, 1, none⟩ = some v1 ∧ w.cell? ⟨b, 2, none⟩ = some v2 ∧ w.cell? ⟨b, 3, none⟩ = some v3) ∧
    (w.frozen? ⟨b, 0, none⟩ = false ∧ w.frozen? ⟨b, 1, none⟩ = false ∧ w.frozen? ⟨b, 2, none⟩ = false ∧ w.frozen? ⟨b, 3, none⟩ = false) := by
  refine ⟨⟨?_, ?_, ?_, ?_⟩, free_of h 0, free_of h 1, free_of h 2, free_of h 3⟩
  · rw [cell_of h 0]; rfl
  · rw [cell_of h 1]; rfl
  · rw [cell_of h 2]; rfl
  · rw [cell_of h 3]; rfl
/-- What is known of the world W in the midst of a call that began in w: below B it is as w was; N blocks are there at least; the blocks of the list (all below N) hold what it says, and may be written. -/
structure Fr (w : World) (B N : Nat) (L : List (Nat × Array Value × TypeId)) (W : World) : Prop where
  below : Below B w W
  le : B ≤ N
  size : N ≤ W.heap.size
  know : ∀ x ∈ L, x.1 < N ∧ W.heap[x.1]? = some (.cells x.2.1 x.2.2 (0, 0))

theorem Fr.call {w W w1 : World} {B N : Nat} {L : List (Nat × Array Value × TypeId)} (h : Fr w B N L W) (hb : Below W.heap.size W w1) : Fr w B N L w1 :=
  ⟨h.below.trans (hb.mono (Nat.le_trans h.le h.size)), h.le, Nat.le_trans h.size hb.size, fun x hx => ⟨(h.know x hx).1, (hb.block _ (Nat.lt_of_lt_of_le (h.know x hx).1 h.size)).trans (h.know x hx).2⟩⟩
theorem Fr.up {w W : World} {B N : Nat} {L : List (Nat × Array Value × TypeId)} (h : Fr w B N L W) : Fr w B W.heap.size L W :=
  ⟨h.below, Nat.le_trans h.le h.size, Nat.le_refl _, fun x hx => ⟨Nat.lt_of_lt_of_le (h.know x hx).1 h.size, (h.know x hx).2⟩⟩
theorem Fr.alloc {w W : World} {B N : Nat} {L : List (Nat × Array Value × TypeId)} (h : Fr w B N L W) (o : Obj) : Fr w B N L (W.alloc o) :=
  h.call ((Below.refl _ _).alloc (Nat.le_refl _) _)
theorem Fr.drew {w W : World} {B N : Nat} {L : List (Nat × Array Value × TypeId)} (h : Fr w B N L W) : Fr w B N L W.drew := ⟨h.below.drew, h.le, h.size, h.know⟩
theorem Fr.drewN {w W : World} {B N : Nat} {L : List (Nat × Array Value × TypeId)} (h : Fr w B N L W) (n : Nat) : Fr w B N L (W.drewN n) :=
  ⟨⟨h.below.os, h.below.tape, h.below.output, h.below.size, h.below.block⟩, h.le, h.size, h.know⟩
theorem Fr.callA {w W w1 : World} {B N : Nat} {L : List (Nat × Array Value × TypeId)} {o : Obj} (h : Fr w B N L W) (hb : Below (W.alloc o).heap.size (W.alloc o) w1) : Fr w B N L w1 := (h.alloc o).call hb
theorem Fr.callAd {w W w1 : World} {B N : Nat} {L : List (Nat × Array Value × TypeId)} {o : Obj} (h : Fr w B N L W.drew) (hb : Below (W.alloc o).drew.heap.size (W.alloc o).drew w1) : Fr w B N L w1 := (h.alloc o).call hb
theorem Fr.allocd {w W : World} {B N : Nat} {L : List (Nat × Array Value × TypeId)} (h : Fr w B N L W.drew) (o : Obj) : Fr w B N L (W.alloc o).drew := h.alloc o
theorem Fr.set {w W : World} {B N : Nat} {L : List (Nat × Array Value × TypeId)} (h : Fr w B N L W) {p : Addr} (hp : N ≤ p.block) (u : Value) : Fr w B N L (W.setCell p u) :=
  ⟨h.below.setCell (Nat.le_trans h.le hp) _, h.le, by simpa [World.setCell] using h.size, fun x hx => ⟨(h.know x hx).1, (Below.heap_setCell _ _ _ _ (by have := (h.know x hx).1; omega)).trans (h.know x hx).2⟩⟩
theorem Fr.set4 {w W : World} {B N : Nat} {L : List (Nat × Array Value × TypeId)} (h : Fr w B N L W) {b : Nat} (hp : N ≤ b) (u0 u1 u2 u3 : Value) :
    Fr w B N L ((((W.setCell ⟨b, 0, none⟩ u0).setCell ⟨b, 1, none⟩ u1).setCell ⟨b, 2, none⟩ u2).setCell ⟨b, 3, none⟩ u3) :=
  (((h.set hp u0).set hp u1).set hp u2).set hp u3
/-- One block more that is known. -/
theorem Fr.new {w W : World} {B : Nat} {L : List (Nat × Array Value × TypeId)} (cs : Array Value) (t : TypeId) (h : Fr w B W.heap.size L W) : Fr w B (W.heap.size + 1) ((W.heap.size, cs, t) :: L) (W.alloc (.cells cs t)) := by
  refine ⟨h.below.alloc h.le _, by have := h.le; omega, by simp, fun x hx => ?_⟩
  rcases List.mem_cons.1 hx with rfl | hx
  · exact ⟨by simp, heap_alloc_new _ _⟩
  · have hk := h.know x hx
    exact ⟨by omega, (Below.heap_alloc _ _ _ hk.1).trans hk.2⟩
/-- 'Fr', and just N blocks are there: while the call makes its own blocks, one behind the other. -/
def Fx (w : World) (B N : Nat) (L : List (Nat × Array Value × TypeId)) (W : World) : Prop := Fr w B N L W ∧ W.heap.size = N
theorem Fx.start (w : World) : Fx w w.heap.size w.heap.size [] w := ⟨⟨Below.refl _ _, Nat.le_refl _, Nat.le_refl _, by simp⟩, rfl⟩
theorem Fx.new {w W : World} {B N : Nat} {L : List (Nat × Array Value × TypeId)} (h : Fx w B N L W) (cs : Array Value) (t : TypeId) : Fx w B (N + 1) ((N, cs, t) :: L) (W.alloc (.cells cs t)) := by
  obtain ⟨h, rfl⟩ := h
  exact ⟨h.new cs t, alloc_size _ _⟩
theorem Fr.start (w : World) : Fr w w.heap.size w.heap.size [] w := ⟨Below.refl _ _, Nat.le_refl _, Nat.le_refl _, by simp⟩
theorem Fr.one (w : World) (c0 : Array Value) (t0 : TypeId) : Fr w w.heap.size (w.heap.size + 1) [(w.heap.size, c0, t0)] (w.alloc (.cells c0 t0)) := (Fr.start w).new c0 t0
theorem Fr.two (w : World) (c0 c1 : Array Value) (t0 t1 : TypeId) :
    Fr w w.heap.size (w.heap.size + 1 + 1) [(w.heap.size + 1, c1, t1), (w.heap.size, c0, t0)] ((w.alloc (.cells c0 t0)).alloc (.cells c1 t1)) := by
  have h := Fr.new c1 t1 (by have := Fr.one w c0 t0; rwa [← alloc_size w (.cells c0 t0)] at this)
  rwa [alloc_size] at h
theorem Fr.three (w : World) (c0 c1 c2 : Array Value) (t0 t1 t2 : TypeId) :
    Fr w w.heap.size (w.heap.size + 1 + 1 + 1) [(w.heap.size + 1 + 1, c2, t2), (w.heap.size + 1, c1, t1), (w.heap.size, c0, t0)] (((w.alloc (.cells c0 t0)).alloc (.cells c1 t1)).alloc (.cells c2 t2)) := by
  have h := Fr.new c2 t2 (by have := Fr.two w c0 c1 t0 t1; rwa [← alloc_size w (.cells c0 t0), ← alloc_size _ (.cells c1 t1)] at this)
  rwa [alloc_size, alloc_size] at h

/-- What a region that draws reads of two blocks of four. -/
theorem Fr.s2 {w W : World} {B N b0 b1 : Nat} {v0 v1 v2 v3 u0 u1 u2 u3 : Value} {t0 t1 : TypeId} {x : Nat × Array Value × TypeId} (h : Fr w B N [x, (b1, #[u0, u1, u2, u3], t1), (b0, #[v0, v1, v2, v3], t0)] W) :
    (W.cell? ⟨b0, 0, none⟩ = some v0 ∧ W.cell? ⟨b0, 1, none⟩ = some v1 ∧ W.cell? ⟨b0, 2, none⟩ = some v2 ∧ W.cell? ⟨b0, 3, none⟩ = some v3) ∧
      (W.cell? ⟨b1, 0, none⟩ = some u0 ∧ W.cell? ⟨b1, 1, none⟩ = some u1 ∧ W.cell? ⟨b1, 2, none⟩ = some u2 ∧ W.cell? ⟨b1, 3, none⟩ = some u3) :=
  ⟨(cells4 (h.know (b0, _, t0) (by simp)).2).1, (cells4 (h.know (b1, _, t1) (by simp)).2).1⟩

theorem Fr.t2 {w W : World} {B N b0 b1 : Nat} {v0 v1 v2 v3 u0 u1 u2 u3 : Value} {t0 t1 : TypeId} (h : Fr w B N [(b1, #[u0, u1, u2, u3], t1), (b0, #[v0, v1, v2, v3], t0)] W) :
    (W.cell? ⟨b0, 0, none⟩ = some v0 ∧ W.cell? ⟨b0, 1, none⟩ = some v1 ∧ W.cell? ⟨b0, 2, none⟩ = some v2 ∧ W.cell? ⟨b0, 3, none⟩ = some v3) ∧
      (W.cell? ⟨b1, 0, none⟩ = some u0 ∧ W.cell? ⟨b1, 1, none⟩ = some u1 ∧ W.cell? ⟨b1, 2, none⟩ = some u2 ∧ W.cell? ⟨b1, 3, none⟩ = some u3) :=
  ⟨(cells4 (h.know (b0, _, t0) (by simp)).2).1, (cells4 (h.know (b1, _, t1) (by simp)).2).1⟩

/-- A block of four that the call has made, from block N on. -/
def New4 (N : Nat) (v0 v1 v2 v3 : Value) (t : TypeId) (b : Nat) (w : World) : Prop := w.heap[b]? = some (.cells #[v0, v1, v2, v3] t (0, 0)) ∧ b < w.heap.size ∧ N ≤ b
theorem New4.ge {w : World} {v0 v1 v2 v3 : Value} {t : TypeId} {N b : Nat} (h : New4 N v0 v1 v2 v3 t b w) : N ≤ b := h.2.2
theorem New4.cells {w : World} {v0 v1 v2 v3 : Value} {t : TypeId} {N b : Nat} (h : New4 N v0 v1 v2 v3 t b w) :
    (w.cell? ⟨b, 0, none⟩ = some v0 ∧ w.cell? ⟨b, 1, none⟩ = some v1 ∧ w.cell? ⟨b, 2, none⟩ = some v2 ∧ w.cell? ⟨b, 3, none⟩ = some v3) ∧
    (w.frozen? ⟨b, 0, none⟩ = false ∧ w.frozen? ⟨b, 1, none⟩ = false ∧ w.frozen? ⟨b, 2, none⟩ = false ∧ w.frozen? ⟨b, 3, none⟩ = false) := cells4 h.1
theorem new4 {w1 w3 : World} {v0 v1 v2 v3 : Value} {t : TypeId} {N : Nat} (hb : Below (w1.alloc (.cells #[v0, v1, v2, v3] t)).heap.size (w1.alloc (.cells #[v0, v1, v2, v3] t)) w3) (hB : N ≤ w1.heap.size) :
    New4 N v0 v1 v2 v3 t w1.heap.size w3 := by
  have := hb.size
  simp at this
  exact ⟨(hb.block _ (by simp)).trans (heap_alloc_new _ _), by omega, hB⟩
theorem new4d {w1 w3 : World} {v0 v1 v2 v3 : Value} {t : TypeId} {N : Nat} (b : Nat) (hb : Below (w1.alloc (.cells #[v0, v1, v2, v3] t)).drew.heap.size (w1.alloc (.cells #[v0, v1, v2, v3] t)).drew w3) (he : w1.heap.size = b) (hB : N ≤ b) :
    New4 N v0 v1 v2 v3 t b w3 := by
  subst he
  have := hb.size
  simp at this
  exact ⟨(hb.block _ (by simp)).trans (heap_alloc_new _ _), by omega, hB⟩
theorem carry4 {w1 w3 : World} {v0 v1 v2 v3 : Value} {t : TypeId} {N b : Nat} (hb : Below w1.heap.size w1 w3) (h : New4 N v0 v1 v2 v3 t b w1) : New4 N v0 v1 v2 v3 t b w3 :=
  ⟨(hb.block _ h.2.1).trans h.1, Nat.lt_of_lt_of_le h.2.1 hb.size, h.2.2⟩
theorem New4.past {w : World} {v0 v1 v2 v3 : Value} {t : TypeId} {N b : Nat} (h : New4 N v0 v1 v2 v3 t b w) (o : Obj) : New4 N v0 v1 v2 v3 t b (w.alloc o) :=
  ⟨(Below.heap_alloc _ _ _ h.2.1).trans h.1, by have := h.2.1; simp; omega, h.2.2⟩
theorem New4.here (w : World) {v0 v1 v2 v3 : Value} {t : TypeId} {N : Nat} (hN : N ≤ w.heap.size) : New4 N v0 v1 v2 v3 t w.heap.size (w.alloc (.cells #[v0, v1, v2, v3] t)) := ⟨heap_alloc_new _ _, by simp, hN⟩

/-- 2^64, kept from the walk. -/
def M64 : Nat := 18446744073709551616

/-- Four numbers as the cells of an array. -/
def four (a b c d : Nat) : Array Value := #[.int .u64 (a : Int), .int .u64 (b : Int), .int .u64 (c : Int), .int .u64 (d : Int)]

end Go.Proofs.Ytginibphicmmmaa
