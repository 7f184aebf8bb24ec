/- The chapter's examples. -/
import Derived.Test.YtfcmcccfclaefaaDoorUl
import Derived.Test.YtfcmcccfclaefaaDoorUm
import Derived.Laws.StructEq
namespace Go.Proofs.YtfcmcccfclaefaaDoor
open Go.RowKit Go.Maps Go.Shelf Mp

/-- A row of values of one cell each lies there. -/
def Row (v : Value) (xs : List Value) (V : World) : Prop := ∃ a c, v = .slice a xs.length c ∧ (xs = [] ∨ ∃ g, a = some ⟨g, 0, none⟩ ∧ g < V.heap.size ∧ ∀ j u, xs[j]? = some u → V.cell? ⟨g, j, none⟩ = some u)
theorem Row.of_own {B : Nat} {e : TypeId} {v : Value} {n : Nat} {xs : List Value} {V : World} (h : V.ownsRow B e 1 v n xs) : Row v xs V := by
  have hl : xs.length = n := by have := h.1; simpa using this
  rcases h.2 with ⟨rfl, h0⟩ | ⟨g, cap, cur, rfl, hb, hg, _⟩
  · have : xs = [] := List.length_eq_zero_iff.1 (by omega)
    subst this
    exact ⟨none, 0, rfl, Or.inl rfl⟩
  · rw [← hl] at h ⊢
    refine ⟨some ⟨g, 0, none⟩, cap, rfl, Or.inr ⟨g, rfl, lt_of hg, fun j u hj => ?_⟩⟩
    have h1 := h.cells (g := g) rfl j u hj
    have e : (⟨g, 0, none⟩ : Addr).add j = ⟨g, j, none⟩ := by unfold Addr.add; split <;> simp_all
    rwa [e] at h1
theorem Row.call {v : Value} {xs : List Value} {V V' : World} (h : Row v xs V) (hb : Below V.heap.size V V') : Row v xs V' := by
  obtain ⟨a, c, h1, h2⟩ := h
  refine ⟨a, c, h1, h2.imp id ?_⟩
  rintro ⟨g, h3, h4, h5⟩
  exact ⟨g, h3, Nat.lt_of_lt_of_le h4 hb.size, fun j u hj => (World.cell?_of_block (a := ⟨g, j, none⟩) (hb.block g h4)).trans (h5 j u hj)⟩
theorem Row.one {v u : Value} {xs : List Value} {V : World} (h : Row v xs V) (hx : xs = [u]) : ∃ g c, v = .slice (some ⟨g, 0, none⟩) 1 c ∧ V.cell? ⟨g, 0, none⟩ = some u ∧ g < V.heap.size := by
  subst hx
  obtain ⟨a, c, h1, h2⟩ := h
  rcases h2 with h2 | ⟨g, h3, h4, h5⟩
  · cases h2
  · subst h3
    exact ⟨g, c, h1, h5 0 u rfl, h4⟩
theorem info_add : infoOf 1 = some ⟨[65, 68, 68], 3, 2, 1⟩ := by decide +kernel
theorem info_push32 : infoOf 127 = some ⟨[80, 85, 83, 72, 51, 50], 3, 0, 1⟩ := by decide +kernel
theorem code_push32 : codeOf { data := #[80, 85, 83, 72, 51, 50] } = some 127 := code_of_hit (by decide) info_push32 rfl
theorem jumps_ex : destsOf (insS 0 [96, 91, 91]) = [2] := by
  rw [insS_cons]
  show destsOf ((0, [96, 91]) :: insS 2 [91]) = _
  rw [insS_cons]
  show destsOf ((0, [96, 91]) :: (2, [91]) :: insS 3 []) = _
  rw [insS_nil]
  rfl
theorem lines_ex : linesOf (insS 0 [97, 1]) = [[80, 85, 83, 72, 50, 32, 48, 120, 48, 49]] := by
  rw [insS_cons]
  show linesOf ((0, [97, 1]) :: insS 3 []) = _
  rw [insS_nil]
  decide +kernel
/-- Amid a law: what was there is as it was; boxes of its own. -/
structure Lw (W : World) (L : List (Nat × Obj)) (V : World) : Prop where
  below : Below W.heap.size W V
  box : ∀ p ∈ L, V.heap[p.1]? = some p.2 ∧ W.heap.size ≤ p.1
theorem Lw.start (W : World) : Lw W [] W := ⟨Below.refl _ _, fun _ h => by cases h⟩
theorem Lw.call {W V V' : World} {L : List (Nat × Obj)} (h : Lw W L V) (hb : Below V.heap.size V V') : Lw W L V' :=
  ⟨h.below.trans (hb.mono h.below.size), fun p hp => ⟨(hb.block _ (lt_of (h.box p hp).1)).trans (h.box p hp).1, (h.box p hp).2⟩⟩
theorem Lw.alloc {W V : World} {L : List (Nat × Obj)} (h : Lw W L V) (o : Obj) : Lw W ((V.heap.size, o) :: L) (V.alloc o) := by
  have h1 := h.call ((Below.refl V.heap.size V).alloc (Nat.le_refl _) o)
  refine ⟨h1.below, fun p hp => ?_⟩
  rcases List.mem_cons.1 hp with rfl | hp
  · exact ⟨heap_alloc_new _ _, h.below.size⟩
  · exact h1.box p hp
theorem Lw.at {W V : World} {L : List (Nat × Obj)} (h : Lw W L V) {q : Nat} {o : Obj} (hm : (q, o) ∈ L) : V.heap[q]? = some o := (h.box _ hm).1
set_option maxRecDepth 100000 in
set_option maxHeartbeats 8000000 in
theorem exam_c (W : World) : Calls Tryd.prog 8 #[] W fun e W' => e = .returned (.bool true) ∧ Below W.heap.size W W' := by
  have C1 := Lib.hid (of_c (c := 1) (by decide) W)
  rw [info_add] at C1
  rw [show infO (some ⟨[65, 68, 68], 3, 2, 1⟩) = #[.string { data := #[65, 68, 68] }, .int .u64 3, .int .i64 2, .int .i64 1] from rfl, show (some (⟨[65, 68, 68], 3, 2, 1⟩ : Inf)).isSome = true from rfl, show ((1 : Nat) : Int) = 1 from rfl] at C1
  have C2 := Lib.hid (fun V => code_c { data := #[80, 85, 83, 72, 51, 50] } V)
  unfold CodeR at C2
  rw [code_push32] at C2
  rw [show (((some 127 : Option Nat).getD 0 : Nat) : Int) = 127 from rfl, show (some 127 : Option Nat).isSome = true from rfl] at C2
  have C3 := Lib.hid (fun V => jumps_c [96, 91, 91] (by decide) V)
  rw [jumps_ex, show str [96, 91, 91] = { data := #[96, 91, 91] } from rfl] at C3
  have C4 := Lib.hid (fun V => push_calls 127 V)
  rw [show pushN 127 = 32 from rfl, show pushB 127 = true from rfl, show ((127 : Nat) : Int) = 127 from rfl, show ((32 : Nat) : Int) = 32 from rfl] at C4
  have C5 := Lib.hid (fun V => text_c [97, 1] (by decide) V)
  rw [lines_ex, show str [97, 1] = { data := #[97, 1] } from rfl] at C5
  go_enter Tryd.func8, Tryd.ntmps8
  go_wp2_with fail
  refine C1.out.mono ?_
  rintro e V1 ⟨rfl, h1⟩
  have H1 := Lib.hid (((Lw.start W).call h1).alloc (.cells #[.string { data := #[65, 68, 68] }, .int .u64 3, .int .i64 2, .int .i64 1] 25))
  clear h1 C1
  go_wp2_with fail
  generalize World.alloc V1 _ = V1a at *
  generalize V1.heap.size = q at *
  refine (C2.out _).mono ?_
  rintro e V2 ⟨rfl, h2⟩
  have H2 := Lib.hid (H1.out.call h2)
  clear h2 C2 H1
  go_wp2_with fail
  refine (C3.out _).mono ?_
  rintro e V3 ⟨jv, rfl, h3, h4⟩
  have H3 := Lib.hid (And.intro (H2.out.call h4) (Row.of_own h3))
  clear h3 h4 C3 H2
  go_wp2_with fail
  refine (C4.out _).mono ?_
  rintro e V4 ⟨rfl, rfl⟩
  clear C4
  go_wp2_with fail
  refine (C5.out _).mono ?_
  rintro e V5 ⟨tv, rfl, h5, h6⟩
  obtain ⟨g1, c1, e1, k1, _⟩ := (H3.out.2.call h6).one rfl
  obtain ⟨g2, c2, e2, k2, _⟩ := (Row.of_own h5).one rfl
  have H5 := Lib.hid (H3.out.1.call h6)
  subst e1 e2
  obtain ⟨⟨l0, l1, l2, l3⟩, _⟩ := cells4 (H5.out.at (List.mem_cons_self ..))
  replace k2 : V5.cell? ⟨g2, 0, none⟩ = some (.string { data := #[80, 85, 83, 72, 50, 32, 48, 120, 48, 49] }) := k2
  clear h5 h6 C5 H3
  go_wp2_with fail
  go_ret
  exact ⟨rfl, H5.out.below⟩
end Go.Proofs.YtfcmcccfclaefaaDoor
