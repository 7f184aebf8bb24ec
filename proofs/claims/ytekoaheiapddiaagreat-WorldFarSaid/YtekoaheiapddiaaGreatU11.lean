/- Merged: Lk, Lv, Ll. -/
import Derived.Test.YtekoaheiapddiaaGreatU10
import Derived.Deep.QuietTactic
import Derived.BigQuiet
section
namespace Go.Proofs.YtekoaheiapddiaaGreat
open Go.RowKit

def ints (l : List Nat) : List Value := l.map fun (n : Nat) => Value.int .i64 (n : Int)
theorem infoInt : (Tryz.prog.info? 3).map (fun i => (i.zero, i.size, i.bytes)) = some (some (.int .i64 0), 1, 8) := by kernel_rfl
/-- The sums in block b: the sizes z, and the places o of the lists that are open, the last one first; their rows lie from block B on. -/
structure SuS (b B : Nat) (s : List Nat × List Nat) (W : World) : Prop where
  lt : b < B
  row : ∃ v1 v2, W.heap[b]? = some (.cells #[v1, v2] 333 (0, 0)) ∧ W.ownsRow B 3 1 v1 s.1.length (ints s.1) ∧ W.ownsRow B 3 1 v2 s.2.length (ints s.2.reverse) ∧ (v1.ownBlock = none ∨ v1.ownBlock ≠ v2.ownBlock)
def SuF (b : Nat) (W : World) (k : Nat) : Prop := k = b ∨ ∃ j v, j < 2 ∧ W.cell? ⟨b, j, none⟩ = some v ∧ v.ownBlock = some k
theorem SuS.blt {b B : Nat} {s : List Nat × List Nat} {W : World} (h : SuS b B s W) : b < W.heap.size := by
  obtain ⟨v1, v2, h1, _⟩ := h.row
  exact lt_of h1
theorem SuS.ftlt {b B : Nat} {s : List Nat × List Nat} {W : World} (h : SuS b B s W) : ∀ k, SuF b W k → k < W.heap.size := by
  intro k hk
  obtain ⟨v1, v2, h1, h2, h3, _⟩ := h.row
  rcases hk with rfl | ⟨j, v, hj, hc, hv⟩
  · exact lt_of h1
  · rw [cell_of h1] at hc
    rcases j with _ | _ | j
    · obtain rfl : v1 = v := by simpa using hc
      exact (h2.lt k hv).2
    · obtain rfl : v2 = v := by simpa using hc
      exact (h3.lt k hv).2
    · omega
theorem SuS.kept {b B : Nat} {s : List Nat × List Nat} {W W' : World} (h : SuS b B s W) (hk : ∀ k, SuF b W k → W'.heap[k]? = W.heap[k]?) : SuS b B s W' ∧ ∀ k, SuF b W' k ↔ SuF b W k := by
  obtain ⟨v1, v2, h1, h2, h3, h4⟩ := h.row
  have hb := hk b (Or.inl rfl)
  have hc : ∀ j, W'.cell? ⟨b, j, none⟩ = W.cell? ⟨b, j, none⟩ := fun j => World.cell?_of_block hb
  refine ⟨⟨h.lt, v1, v2, hb.trans h1, own_keep h2 fun k hv => hk k (Or.inr ⟨0, v1, by omega, cell_of h1 0, hv⟩), own_keep h3 fun k hv => hk k (Or.inr ⟨1, v2, by omega, cell_of h1 1, hv⟩), h4⟩, fun k => ?_⟩
  unfold SuF
  simp only [hc]
theorem ints_get (l : List Nat) (j : Nat) (h : j < l.length) : (ints l)[j]? = some (.int .i64 ((l[j]'h : Nat) : Int)) := by simp [ints, h]
theorem heap_set1 {w : World} {b : Nat} {v0 v1 : Value} {t : TypeId} (h : w.heap[b]? = some (.cells #[v0, v1] t (0, 0))) (u : Value) : (w.setCell ⟨b, 0, none⟩ u).heap[b]? = some (.cells #[u, v1] t (0, 0)) ∧ (w.setCell ⟨b, 1, none⟩ u).heap[b]? = some (.cells #[v0, u] t (0, 0)) := by
  have e := heap_setCell_same _ _ 0 _ _ u h
  have e' := heap_setCell_same _ _ 1 _ _ u h
  exact ⟨by simpa using e, by simpa using e'⟩
theorem iwrap (n : Nat) (h : n < 9223372036854775808) : IntKind.i64.wrap (n : Int) = (n : Int) := by
  rw [IntKind.wrap_i64]; omega
set_option maxRecDepth 100000 in
set_option maxHeartbeats 2000000 in
theorem add_c {b B : Nat} {z o : List Nat} {p : Nat} {W : World} (h : SuS b B (z, p :: o) W) (hp : p < z.length) (n : Nat) (hn : z[p]'hp + n < 9223372036854775808) (hol : o.length < 1000000) :
    Calls Tryz.prog 271 #[.pointer (some ⟨b, 0, none⟩), .int .i64 n] W fun e W' => e = .returned (.tuple #[]) ∧ SuS b B (z.set p (z[p]'hp + n), p :: o) W' ∧ Chg (SuF b W) (SuF b W') W W' := by
  obtain ⟨v1, v2, h1, h2, h3, h4⟩ := h.row
  obtain ⟨k, hk⟩ : ∃ k, z.length = k + 1 := ⟨z.length - 1, by omega⟩
  have h2' := h2
  simp only [hk] at h2'
  obtain ⟨g1, cap1, rfl, b1, b2, b3⟩ := own_form h2'
  obtain ⟨g2, cap2, rfl, b4, b5, b6⟩ := own_form (show W.ownsRow B 3 1 v2 (o.length + 1) _ from h3)
  have c0 : W.cell? ⟨b, 0, none⟩ = some (.slice (some ⟨g1, 0, none⟩) (k + 1) cap1) := cell_of h1 0
  have c1 : W.cell? ⟨b, 1, none⟩ = some (.slice (some ⟨g2, 0, none⟩) (o.length + 1) cap2) := cell_of h1 1
  have c2 := own_cell h2 (by rw [hk]) p _ (ints_get z p hp)
  have z2 := own_free h2 (by rw [hk]) p
  have c3 : W.cell? ⟨g2, o.length, none⟩ = some (.int .i64 (p : Nat)) := own_cell h3 rfl o.length _ (by simp [ints])
  have HH := Lib.hid (And.intro h (And.intro h1 (And.intro h2 (And.intro h3 h4))))
  clear h h1 h2 h2' h3 h4
  generalize hm : o.length = m at *
  generalize hx : z[p]'hp = x at *
  have i1 : (0 : Int) ≤ (m : Int) ∧ (m : Int) < (m : Int) + 1 := by omega
  have i2 : (0 : Int) ≤ (p : Int) ∧ (p : Int) < (k : Int) + 1 := by omega
  have i3 : (m : Int) < 1000000 := by omega
  have i4 : (x : Int) + (n : Int) < 9223372036854775808 := by omega
  have w1 := iwrap m (by omega)
  have w2 := iwrap (x + n) hn
  rw [show ((x + n : Nat) : Int) = (x : Int) + (n : Int) by omega] at w2
  go_enter Tryz.func271, Tryz.ntmps271
  go_wp2_with fail
  go_still_tail 21, (by kernel_rfl)
  change wpList _ _ _ _ _ W.drew
  have d2 : W.drew.cell? ⟨g1, p, none⟩ = some (.int .i64 (x : Nat)) := c2
  have d3 : W.drew.frozen? ⟨g1, p, none⟩ = false := z2
  have hfin : SuS b B (z.set p (x + n), p :: o) (W.drew.setCell ⟨g1, p, none⟩ (.int .i64 ((x : Int) + (n : Int)))) ∧ Chg (SuF b W) (SuF b (W.drew.setCell ⟨g1, p, none⟩ (.int .i64 ((x : Int) + (n : Int))))) W (W.drew.setCell ⟨g1, p, none⟩ (.int .i64 ((x : Int) + (n : Int)))) := by
    obtain ⟨h, h1, h2, h3, h4⟩ := HH.out
    have hlt := h.lt
    have hne : b ≠ g1 := by omega
    have hne2 : g2 ≠ g1 := fun e => by simp [Value.ownBlock, e] at h4
    have hkk : ∀ k, k ≠ g1 → (W.drew.setCell ⟨g1, p, none⟩ (.int .i64 ((x : Int) + (n : Int)))).heap[k]? = W.heap[k]? := fun k hk => heap_setCell_other W.drew _ _ _ (by simpa using hk)
    have hb := (hkk b hne).trans h1
    refine ⟨⟨hlt, _, _, hb, ?_, ?_, h4⟩, rfl, rfl, rfl, by simp [World.setCell], fun k _ hf => hkk k (fun e => hf (Or.inr ⟨0, _, by omega, c0, by rw [e]; rfl⟩)), fun k hk => Or.inl ?_⟩
    · have e := own_setAt (own_keep (w' := W.drew) h2 (fun _ _ => rfl)) (by rw [hk]) p (.int .i64 ((x : Int) + (n : Int)))
      rw [show ints z = z.map fun (n : Nat) => Value.int .i64 (n : Int) from rfl, ← show ((x + n : Nat) : Int) = (x : Int) + (n : Int) by omega, ← List.map_set] at e
      show World.ownsRow _ _ _ _ _ (z.set p (x + n)).length _
      rw [List.length_set, ← show ((x + n : Nat) : Int) = (x : Int) + (n : Int) by omega]
      exact e
    · exact own_keep h3 (fun k hk => hkk k (by have : g2 = k := by simpa [Value.ownBlock] using hk
                                               omega))
    · rcases hk with rfl | ⟨j, v, hj, hc, hv⟩
      · exact Or.inl rfl
      · refine Or.inr ⟨j, v, hj, ?_, hv⟩
        rw [cell_of h1, ← cell_of hb]; exact hc
  clear HH c2 z2 c0 c1 c3
  go_wp2_with fail
  go_end0
  exact ⟨rfl, hfin⟩
theorem own_any {w : World} {B : Nat} {e : TypeId} {v : Value} {n : Nat} {xs : List Value} (h : w.ownsRow B e 1 v n xs) : ∃ a c, v = .slice a n c := by
  rcases h.2 with ⟨rfl, rfl⟩ | ⟨g, cap, cur, rfl, _⟩
  · exact ⟨_, _, rfl⟩
  · exact ⟨_, _, rfl⟩
/-- A new row for the first, the second, of the two. -/
theorem SuS.turn {b B : Nat} {s s' : List Nat × List Nat} {W W' : World} {v1 v2 v1' v2' : Value} (h : SuS b B s W) (h1 : W.heap[b]? = some (.cells #[v1, v2] 333 (0, 0)))
    (hb : ∀ k, k < W.heap.size → k ≠ b → v1.ownBlock ≠ some k → v2.ownBlock ≠ some k → W'.heap[k]? = W.heap[k]?) (hs : W.heap.size ≤ W'.heap.size) (hos : W'.os = W.os) (ht : W'.tape = W.tape) (hout : W'.output = W.output)
    (h1' : W'.heap[b]? = some (.cells #[v1', v2'] 333 (0, 0))) (h2' : W'.ownsRow B 3 1 v1' s'.1.length (ints s'.1)) (h3' : W'.ownsRow B 3 1 v2' s'.2.length (ints s'.2.reverse)) (h4' : v1'.ownBlock = none ∨ v1'.ownBlock ≠ v2'.ownBlock)
    (hn : ∀ k, v1'.ownBlock = some k ∨ v2'.ownBlock = some k → (v1.ownBlock = some k ∨ v2.ownBlock = some k) ∨ W.heap.size ≤ k) : SuS b B s' W' ∧ Chg (SuF b W) (SuF b W') W W' := by
  refine ⟨⟨h.lt, v1', v2', h1', h2', h3', h4'⟩, hos, ht, hout, hs, fun k hk hf => hb k hk (fun e => hf (Or.inl e)) (fun e => hf (Or.inr ⟨0, v1, by omega, cell_of h1 0, e⟩)) (fun e => hf (Or.inr ⟨1, v2, by omega, cell_of h1 1, e⟩)), fun k hk => ?_⟩
  rcases hk with rfl | ⟨j, v, hj, hc, hv⟩
  · exact Or.inl (Or.inl rfl)
  · rw [cell_of h1'] at hc
    have hv' : v1'.ownBlock = some k ∨ v2'.ownBlock = some k := by
      rcases j with _ | _ | j
      · left; have : v1' = v := by simpa using hc
        rw [this]; exact hv
      · right; have : v2' = v := by simpa using hc
        rw [this]; exact hv
      · omega
    rcases hn k hv' with (h5 | h5) | h5
    · exact Or.inl (Or.inr ⟨0, v1, by omega, cell_of h1 0, h5⟩)
    · exact Or.inl (Or.inr ⟨1, v2, by omega, cell_of h1 1, h5⟩)
    · exact Or.inr h5
set_option maxRecDepth 100000 in
set_option maxHeartbeats 2000000 in
theorem sbegin_c {b B : Nat} {z o : List Nat} {W : World} (h : SuS b B (z, o) W) (hz : z.length < 1000000) (ho : o.length < 1000000) (hB : B ≤ W.heap.size) :
    Calls Tryz.prog 253 #[.pointer (some ⟨b, 0, none⟩)] W fun e W' => e = .returned (.tuple #[]) ∧ SuS b B (z ++ [0], z.length :: o) W' ∧ Chg (SuF b W) (SuF b W') W W' := by
  obtain ⟨v1, v2, h1, h2, h3, h4⟩ := h.row
  obtain ⟨a1, d1, rfl⟩ := own_any h2
  obtain ⟨a2, d2, rfl⟩ := own_any h3
  have c0 : W.cell? ⟨b, 0, none⟩ = some (.slice a1 z.length d1) := cell_of h1 0
  have c1 : W.cell? ⟨b, 1, none⟩ = some (.slice a2 o.length d2) := cell_of h1 1
  have HH := Lib.hid (And.intro h (And.intro h1 (And.intro h2 (And.intro h3 h4))))
  have hblt := Lib.hid (And.intro h.blt hB)
  clear h h1 h2 h3 h4
  go_enter Tryz.func253, Tryz.ntmps253
  go_wp2_with fail
  have H0 := HH.out.2.1
  have HS := Lib.hid (fun (V : World) (hV : V.heap[b]? = some (.cells #[.slice a1 z.length d1, .slice a2 o.length d2] 333 (0, 0))) => (⟨cell_of hV 0, cell_of hV 1⟩ : V.cell? ⟨b, 0, none⟩ = some (.slice a1 z.length d1) ∧ V.cell? ⟨b, 1, none⟩ = some (.slice a2 o.length d2)))
  refine Drawn.start (fun V => V.heap[b]? = some (.cells #[.slice a1 z.length d1, .slice a2 o.length d2] 333 (0, 0))) (fun i => i == 14) (by kernel_rfl) ?_
  refine Drawn.take 0 (some 2) (v := ?_) rfl rfl (by kernel_rfl) (by kernel_rfl) (by kernel_rfl) (by kernel_rfl) (by kernel_rfl) rfl (fun _ _ _ h => h) (Or.inl ⟨rfl, ?_⟩) H0 ?_
  rotate_left
  · intro W hW; have hW := HS.out W hW; go_simp; try with_reducible rfl
  simp only [put_list, List.set]
  refine Drawn.take 1 (some 3) (v := ?_) rfl rfl (by kernel_rfl) (by kernel_rfl) (by kernel_rfl) (by kernel_rfl) (by kernel_rfl) rfl (fun _ _ _ h => h) (Or.inl ⟨rfl, ?_⟩) H0 ?_
  rotate_left
  · intro W hW; have hW := HS.out W hW; go_simp; try with_reducible rfl
  simp only [put_list, List.set]
  refine Drawn.take 2 (some 4) (v := ?_) rfl rfl (by kernel_rfl) (by kernel_rfl) (by kernel_rfl) (by kernel_rfl) (by kernel_rfl) rfl (fun _ _ _ h => h) (Or.inl ⟨rfl, ?_⟩) H0 ?_
  rotate_left
  · intro W hW; have hW := HS.out W hW; go_simp; try with_reducible rfl
  simp only [put_list, List.set]
  refine Drawn.take 3 (some 5) (v := ?_) rfl rfl (by kernel_rfl) (by kernel_rfl) (by kernel_rfl) (by kernel_rfl) (by kernel_rfl) rfl (fun _ _ _ h => h) (Or.inl ⟨rfl, ?_⟩) H0 ?_
  rotate_left
  · intro W hW; have hW := HS.out W hW; go_simp; try with_reducible rfl
  simp only [put_list, List.set]
  refine Drawn.take 4 (some 6) (v := ?_) rfl rfl (by kernel_rfl) (by kernel_rfl) (by kernel_rfl) (by kernel_rfl) (by kernel_rfl) rfl (fun _ _ _ h => h) (Or.inl ⟨rfl, ?_⟩) H0 ?_
  rotate_left
  · intro W hW; have hW := HS.out W hW; go_simp; try with_reducible rfl
  simp only [put_list, List.set]
  refine Drawn.take 5 (some 7) (v := ?_) rfl rfl (by kernel_rfl) (by kernel_rfl) (by kernel_rfl) (by kernel_rfl) (by kernel_rfl) rfl (fun _ _ _ h => h) (Or.inl ⟨rfl, ?_⟩) H0 ?_
  rotate_left
  · intro W hW; have hW := HS.out W hW; go_simp; try with_reducible rfl
  simp only [put_list, List.set]
  refine Drawn.take 6 (some 8) (v := ?_) rfl rfl (by kernel_rfl) (by kernel_rfl) (by kernel_rfl) (by kernel_rfl) (by kernel_rfl) rfl (fun _ _ _ h => h) (Or.inl ⟨rfl, ?_⟩) H0 ?_
  rotate_left
  · intro W hW; have hW := HS.out W hW; go_simp; try with_reducible rfl
  simp only [put_list, List.set]
  refine Drawn.take 7 (some 9) (v := ?_) rfl rfl (by kernel_rfl) (by kernel_rfl) (by kernel_rfl) (by kernel_rfl) (by kernel_rfl) rfl (fun _ _ _ h => h) (Or.inl ⟨rfl, ?_⟩) H0 ?_
  rotate_left
  · intro W hW; have hW := HS.out W hW; go_simp; try with_reducible rfl
  simp only [put_list, List.set]
  refine Drawn.take 8 (some 10) (v := ?_) rfl rfl (by kernel_rfl) (by kernel_rfl) (by kernel_rfl) (by kernel_rfl) (by kernel_rfl) rfl (fun _ _ _ h => h) (Or.inl ⟨rfl, ?_⟩) H0 ?_
  rotate_left
  · intro W hW; have hW := HS.out W hW; go_simp; try with_reducible rfl
  simp only [put_list, List.set]
  refine Drawn.take 9 (some 11) (v := ?_) rfl rfl (by kernel_rfl) (by kernel_rfl) (by kernel_rfl) (by kernel_rfl) (by kernel_rfl) rfl (fun _ _ _ h => h) (Or.inl ⟨rfl, ?_⟩) H0 ?_
  rotate_left
  · intro W hW; have hW := HS.out W hW; go_simp; try with_reducible rfl
  simp only [put_list, List.set]
  refine Drawn.only 10 (by kernel_rfl) rfl rfl (fun K hK => ?_)
  go_simp
  refine hK _ _ (fun _ _ => (Below.heap_alloc _ _ _ hblt.out.1).trans H0) ?_
  clear hK K
  have HW1 := Lib.hid (show W.drew.alloc (.cells #[.int .i64 (z.length : Nat)] 3) = W.drew.alloc (.cells #[.int .i64 (z.length : Nat)] 3) from rfl)
  refine Drawn.only 11 (by kernel_rfl) rfl rfl (fun K hK => ?_)
  refine wp_append_one _ _ 261 3 (by rfl) Tryz.underlying261 _ 8 infoInt rfl (by omega) B _ o.length (ints o.reverse) (by rfl) ((own_keep (w' := W.drew) HH.out.2.2.2.1 (fun _ _ => rfl)).alloc _) W.heap.size (.int .i64 (z.length : Nat)) rfl (by rfl) (heap_alloc_new W _) (Nat.le_trans hblt.out.2 (by simp)) (by omega) ?_
  intro v3 W2 hown3 hgr3 hbl3
  obtain ⟨g3, cap3, rfl, hg3, hg3b, hg3c⟩ := own_form hown3
  have hlt2 : ∀ k, (Value.slice a2 o.length d2).ownBlock = some k → B ≤ k ∧ k < W.heap.size := fun k hk => HH.out.2.2.2.1.lt k hk
  have hlt1 : ∀ k, (Value.slice a1 z.length d1).ownBlock = some k → B ≤ k ∧ k < W.heap.size := fun k hk => HH.out.2.2.1.lt k hk
  have hbB := HH.out.1.lt
  have hbl := hblt.out.1
  have hkk : ∀ k, k < W.heap.size → (Value.slice a2 o.length d2).ownBlock ≠ some k → W2.heap[k]? = W.heap[k]? := fun k h1 h2 => (hgr3.block k (by simp; omega) (fun e => h2 e.symm)).trans (Below.heap_alloc W _ _ h1)
  have h2b : W2.heap[b]? = some (.cells #[.slice a1 z.length d1, .slice a2 o.length d2] 333 (0, 0)) := (hkk b hbl (fun e => by have := (hlt2 b e).1; omega)).trans HH.out.2.1
  have hfin := HH.out.1.turn (s' := (z, z.length :: o)) (W' := W2.setCell ⟨b, 1, none⟩ (.slice (some ⟨g3, 0, none⟩) (o.length + 1) cap3)) (v1' := .slice a1 z.length d1) (v2' := .slice (some ⟨g3, 0, none⟩) (o.length + 1) cap3) HH.out.2.1
    (fun k h1 h2 _ h4 => by rw [heap_setCell_other _ _ _ _ (by simpa using h2)]; exact hkk k h1 h4)
    (by have := hgr3.size; simp at this; simp [World.setCell]; omega) hgr3.os hgr3.tape hgr3.output (heap_set1 h2b _).2
    (own_keep HH.out.2.2.1 fun k hk => by
      have h1 := hlt1 k hk
      rw [heap_setCell_other _ _ _ _ (by simp; omega)]
      exact hkk k h1.2 (fun e => (HH.out.2.2.2.2).elim (fun h => by rw [h] at hk; cases hk) (fun h => h (by rw [hk, e]))))
    (by
      rw [show ints (z.length :: o).reverse = ints o.reverse ++ [.int .i64 (z.length : Nat)] by simp [ints]]
      refine own_keep hown3 fun k hk => ?_
      have hk : g3 = k := by simpa [Value.ownBlock] using hk
      rw [heap_setCell_other _ _ _ _ (by simp; omega)])
    (by
      rcases HH.out.2.2.2.2 with h | h
      · exact Or.inl h
      · right
        intro e
        rcases hbl3 with h5 | h5
        · exact h (e.trans h5)
        · rw [h5] at e
          have := (hlt1 _ e).2
          simp at this
          omega)
    (fun k hk => by
      rcases hk with hk | hk
      · exact Or.inl (Or.inl hk)
      · rcases hbl3 with h5 | h5
        · exact Or.inl (Or.inr (by rw [← h5]; exact hk))
        · right; rw [h5] at hk; injection hk with hk; simp at hk; omega)
  have HFin := Lib.hid hfin
  have H2B := Lib.hid h2b
  have e1 : W2.cell? ⟨b, 1, none⟩ = some (.slice a2 o.length d2) := cell_of h2b 1
  have e2 := free_of h2b 1
  refine hK _ _ (fun _ _ => h2b) ?_
  clear hK K hown3 hgr3 hbl3 hkk hlt1 hlt2 hfin HS H0 c0 c1 hg3 hg3b hg3c hbB hbl h2b
  try simp only [put_list, List.set]
  refine Drawn.only 12 (by kernel_rfl) rfl rfl (fun K hK => ?_)
  go_simp
  refine hK _ _ (fun _ _ => H2B.out) ?_
  clear hK K
  refine Drawn.only 13 (by kernel_rfl) rfl rfl (fun K hK => ?_)
  go_simp
  refine hK _ _ (fun _ _ => H2B.out) ?_
  clear hK K
  refine Drawn.only 14 (by kernel_rfl) rfl rfl (fun K hK => ?_)
  go_simp
  refine hK _ _ (fun h _ => absurd h (by decide)) ?_
  clear hK K e1 e2 H2B HW1
  generalize W2.setCell ⟨b, 1, none⟩ (.slice (some ⟨g3, 0, none⟩) (o.length + 1) cap3) = W3 at *
  refine Drawn.done (by kernel_rfl) ?_ _
  obtain ⟨v1, v2, h1, h2, h3, h4⟩ := HFin.out.1.row
  clear HH
  obtain ⟨f1, d1, rfl⟩ := own_any h2
  obtain ⟨f2, d2, rfl⟩ := own_any h3
  have c0 : W3.cell? ⟨b, 0, none⟩ = some (.slice f1 z.length d1) := cell_of h1 0
  have HG := Lib.hid (show W3.heap[b]? = some (.cells #[.slice f1 z.length d1, .slice f2 (o.length + 1) d2] 333 (0, 0)) ∧ W3.ownsRow B 3 1 (.slice f1 z.length d1) z.length (ints z) ∧ W3.ownsRow B 3 1 (.slice f2 (o.length + 1) d2) (o.length + 1) (ints (z.length :: o).reverse) ∧ ((Value.slice f1 z.length d1).ownBlock = none ∨ (Value.slice f1 z.length d1).ownBlock ≠ (Value.slice f2 (o.length + 1) d2).ownBlock) from ⟨h1, h2, h3, h4⟩)
  clear h1 h2 h3 h4
  have hs3 := Lib.hid HFin.out.2.size
  have hb3 := Lib.hid (show b < W3.heap.size from lt_of HG.out.1)
  go_wp2_with (at_builtin; refine wpList_append_one (by rfl) _ _ 261 3 (by rfl) Tryz.underlying261 _ 8 infoInt rfl (by omega) B _ z.length (ints z) (by rfl) (HG.out.2.1.alloc _) W3.heap.size (.int .i64 0) rfl (by rfl) (heap_alloc_new _ _) (Nat.le_trans hblt.out.2 (Nat.le_trans hs3.out (by simp))) (by omega) ?_; intro v4 W4 hown4 hgr4 hbl4; obtain ⟨g4, cap4, rfl, hg4, hg4b, hg4c⟩ := own_form hown4; have HX := Lib.hid (And.intro hown4 (And.intro hgr4 (And.intro hbl4 (And.intro hg4 hg4b)))); have h4b : W4.heap[b]? = some (.cells #[.slice f1 z.length d1, .slice f2 (o.length + 1) d2] 333 (0, 0)) := (hgr4.block _ (by have := hb3.out; simp; omega) (fun e => by have := (HG.out.2.1.lt _ e.symm).1; have := HFin.out.1.lt; omega)).trans ((Below.heap_alloc _ _ _ hb3.out).trans HG.out.1); have c4 : W4.cell? ⟨b, 0, none⟩ = some (.slice f1 z.length d1) := cell_of h4b 0; have z4 := free_of h4b 0; have H4B := Lib.hid h4b; clear hown4 hgr4 hbl4 hg4 hg4b hg4c h4b)
  go_end0
  have hkk : ∀ k, k < W3.heap.size → (Value.slice f1 z.length d1).ownBlock ≠ some k → W4.heap[k]? = W3.heap[k]? := fun k h1 h2 => (HX.out.2.1.block k (by simp; omega) (fun e => h2 e.symm)).trans (Below.heap_alloc W3 _ _ h1)
  have hfin := HFin.out.1.turn (s' := (z ++ [0], z.length :: o)) (W' := W4.setCell ⟨b, 0, none⟩ (.slice (some ⟨g4, 0, none⟩) (z.length + 1) cap4)) (v1' := .slice (some ⟨g4, 0, none⟩) (z.length + 1) cap4) (v2' := .slice f2 (o.length + 1) d2) HG.out.1
    (fun k h1 h2 h3 _ => by rw [heap_setCell_other _ _ _ _ (by simpa using h2)]; exact hkk k h1 h3)
    (by have := HX.out.2.1.size; simp at this; simp [World.setCell]; omega) HX.out.2.1.os HX.out.2.1.tape HX.out.2.1.output (heap_set1 H4B.out _).1
    (by
      show World.ownsRow _ _ _ _ _ (z ++ [0]).length (ints (z ++ [0]))
      have ez : (z ++ [0]).length = z.length + 1 := by simp
      rw [show ints (z ++ [0]) = ints z ++ [.int .i64 0] by simp [ints], ez]
      refine own_keep HX.out.1 fun k hk => ?_
      have hk : g4 = k := by simpa [Value.ownBlock] using hk
      have h1 := HX.out.2.2.2.1
      have h2 := HFin.out.1.lt
      rw [heap_setCell_other _ _ _ _ (by simp; omega)])
    (own_keep HG.out.2.2.1 fun k hk => by
      have h1 := HG.out.2.2.1.lt k hk
      have h2 := HFin.out.1.lt
      rw [heap_setCell_other _ _ _ _ (by simp; omega)]
      exact hkk k h1.2 (fun e => (HG.out.2.2.2).elim (fun h => by rw [h] at e; cases e) (fun h => h (by rw [hk, e]))))
    (by
      right
      intro e
      rcases HX.out.2.2.1 with h5 | h5
      · rcases HG.out.2.2.2 with h | h
        · rw [h] at h5; cases h5
        · exact h (h5.symm.trans e)
      · rw [h5] at e
        have := (HG.out.2.2.1.lt _ e.symm).2
        simp at this
        omega)
    (fun k hk => by
      rcases hk with hk | hk
      · rcases HX.out.2.2.1 with h5 | h5
        · exact Or.inl (Or.inl (by rw [← h5]; exact hk))
        · right; rw [h5] at hk; injection hk with hk; simp at hk; omega
      · exact Or.inl (Or.inr hk))
  exact ⟨rfl, hfin.1, HFin.out.2.trans hfin.2⟩
end Go.Proofs.YtekoaheiapddiaaGreat
end
section
namespace Go.Proofs.YtekoaheiapddiaaGreat
open Go.RowKit

/-- So much is still to be copied. -/
def LP (S : Nat → Prop) (w : World) (n3 : Nat) (f : Fo) (vr : Value) (t : Value) (W : World) (n : Nat) : Prop := ∃ q ys, LI S w n3 f vr q ys t W ∧ sizQ q = n ∧ n ≤ 600000
theorem LP.less {S : Nat → Prop} {w : World} {n3 : Nat} {f : Fo} {vr t : Value} {W : World} {n : Nat} (h : LP S w n3 f vr t W n) {m : Nat} (hn : n < m) : (∃ n, LP S w n3 f vr t W n) ∧ least (LP S w n3 f vr t W) < m :=
  ⟨⟨n, h⟩, Nat.lt_of_le_of_lt (least_le h) hn⟩
theorem less_step (k n : Nat) (h : k < n) : n - (((k + 1 : Nat) : Int)).toNat < n - ((k : Int)).toNat := by omega
theorem setCell_size (W : World) (a : Addr) (v : Value) : (W.setCell a v).heap.size = W.heap.size := by simp [World.setCell]
set_option maxRecDepth 100000 in
set_option maxHeartbeats 4000000 in
theorem listS_c (S : Nat → Prop) (f : Fo) (v : Value) (w : World) (h : SlF S f v w) (hS : ∀ k, S k → k < w.heap.size) (hn : f.siz ≤ 500000) :
    Calls Tryz.prog 226 #[v] w fun e w' => ∃ u, e = .returned u ∧ ItV (fun k => S k ∨ (w.heap.size ≤ k ∧ k < w'.heap.size)) (.list f) u w' ∧ Below w.heap.size w w' := by
  have hlen := f.len_siz
  have HC := Lib.hid (clone_c (W := w.alloc (.cells #[.bool false, .string ⟨#[]⟩, .slice none 0 0] 198)) (h.kept fun k hk => Below.heap_alloc _ _ _ (hS k hk)) (fun k hk => by have := hS k hk; simp; omega) (by omega))
  have HSn := Lib.hid (And.intro hS hn)
  clear h hS hn hlen
  go_enter Tryz.func226, Tryz.ntmps226
  go_wp2_with (go_at_call 262; refine HC.out.mono ?_; rintro e W1 ⟨vr, rfl, h1, _, h3, h4⟩; obtain ⟨ra, rc, rfl⟩ := h3.len; have H1 := Lib.hid (And.intro h1 (And.intro h3 h4)); clear h1 h3 h4 HC)
  obtain ⟨k1, k2, k3⟩ := H1.out
  obtain ⟨W2, hW2⟩ : ∃ W2, W2 = (W1.alloc (.cells #[.bool true, .string ⟨#[]⟩, .slice ra f.len rc] 198)).alloc (.cells #[.slice ra f.len rc] 196) := ⟨_, rfl⟩
  have hsz1 := k1.size
  simp only [alloc_size] at hsz1 k1 k2 k3
  have hk2 : ∀ k, k < W1.heap.size → W2.heap[k]? = W1.heap[k]? := fun k hk => by rw [hW2, heap_alloc_get, if_neg (by simp; omega), heap_alloc_get, if_neg (by omega)]
  have hr0 : W1.heap[w.heap.size]? = some (.cells #[.bool false, .string ⟨#[]⟩, .slice none 0 0] 198 (0, 0)) := (k1.block _ (by omega)).trans (heap_alloc_new _ _)
  have hbel : Below w.heap.size w W2 := by
    refine ⟨by rw [hW2]; exact k1.os, by rw [hW2]; exact k1.tape, by rw [hW2]; exact k1.output, by rw [hW2]; simp; omega, fun k hk => (hk2 k (by omega)).trans ((k1.block k (by omega)).trans (Below.heap_alloc _ _ _ hk))⟩
  have hLI : LI S w W1.heap.size f (.slice ra f.len rc) [f] [.slice ra f.len rc] (.slice (some ⟨W1.heap.size + 1, 0, none⟩) 1 1) W2 := by
    have hT : ∀ k, (S k ∨ (w.heap.size + 1 ≤ k ∧ ∃ cur, W1.heap[k]? = some (.cells cur 198 (0, 0)))) → Ti S w W2 k := fun k hk => by
      rcases hk with hk | ⟨_, cur, hc⟩
      · exact Or.inl hk
      · exact Or.inr ⟨by assumption, cur, (hk2 k (lt_of hc)).trans hc⟩
    have hroot : SlF (Ti S w W2) f (.slice ra f.len rc) W2 := (k2.kept fun k hk => hk2 k (by
      rcases hk with hk | ⟨_, cur, hc⟩
      · have := HSn.out.1 k hk; omega
      · exact lt_of hc)).mono hT
    refine ⟨HSn.out.1, hbel, hsz1, by rw [hW2]; exact heap_alloc2_old _ _ _, (hk2 _ (by omega)).trans hr0, hroot, ⟨_, _, rfl, hroot, rfl⟩, fun y hy => ?_, rfl, Or.inr ⟨W1.heap.size + 1, 1, #[.slice ra f.len rc], rfl, Nat.le_refl _, by rw [hW2]; exact heap_alloc2_new _ _ _, Nat.le_refl _, by unfold maxLen; omega, rfl, rfl⟩⟩
    obtain rfl : y = .slice ra f.len rc := by simpa using hy
    rcases k3 with k3 | ⟨g, n, cap, cur, e, hb, hg⟩
    · exact Or.inl k3
    · refine Or.inr ⟨⟨g, n, cap, cur, e, hb, (hk2 g (lt_of hg)).trans hg⟩, ?_⟩
      rw [e]
      intro e2
      have := lt_of hg
      simp [Value.ownBlock] at e2
      omega
  have HLI := Lib.hid hLI
  rw [← hW2]
  clear k1 k2 k3 hW2 hsz1 hk2 hr0 hbel hLI H1
  have hsz := HSn.out.2
  go_loopw [4] (fun t wr => ∃ n, LP S w W1.heap.size f (.slice ra f.len rc) t wr n) (fun t wr => least (LP S w W1.heap.size f (.slice ra f.len rc) t wr))
  case atStart => exact ⟨_, [f], _, HLI.out, rfl, by simp [sizQ]; omega⟩
  case round =>
    clear HLI
    have hex := hrel
    obtain ⟨q, ys, hLI, hlen, hlt⟩ := least_spec hex
    clear hex hrel
    have HL := Lib.hid (And.intro hlen hlt)
    cases q with
    | nil =>
      obtain ⟨ta, tc, rfl⟩ := own_any hLI.row
      have HE := Lib.hid hLI
      obtain ⟨⟨c0, c1, c2⟩, _⟩ := cells3 hLI.row3
      obtain ⟨⟨b0, b1, b2⟩, z0, z1, z2⟩ := cells3 hLI.row0
      clear hLI hlen hlt
      go_wp2_with fail
      have hz := heap_set3 HE.out.row0 (.bool true) (.string ⟨#[]⟩) (.slice ra f.len rc)
      refine bodyPost_ret (results_cell_row Tryz.results226 _ _ _ _ _ _ _ rfl hz Tryz.underlying198 rfl (by kernel_rfl)) rfl
        ⟨_, rfl, ⟨_, rfl, ?_⟩, below_set3 HE.out.below (Nat.le_refl _) _ _ _⟩
      have hne : ∀ k, k ≠ w.heap.size → (((wr.setCell ⟨w.heap.size, 0, none⟩ (.bool true)).setCell ⟨w.heap.size, 1, none⟩ (.string ⟨#[]⟩)).setCell ⟨w.heap.size, 2, none⟩ (.slice ra f.len rc)).heap[k]? = wr.heap[k]? := fun k hk => by
        rw [heap_setCell_other _ _ _ _ (by simpa using hk), heap_setCell_other _ _ _ _ (by simpa using hk), heap_setCell_other _ _ _ _ (by simpa using hk)]
      refine (HE.out.root.kept (fun k hk => hne k ?_)).mono (fun k hk => ?_)
      · rcases hk with h | ⟨h, _⟩
        · have := HE.out.hS k h; omega
        · omega
      · have hlt := hk.lt HE.out.hS HE.out.below.size
        rcases hk with h | ⟨h, _⟩
        · exact Or.inl h
        · exact Or.inr ⟨by omega, by simpa [World.setCell] using hlt⟩
    | cons fl q =>
      obtain ⟨y, r0, rfl, hsl, hpd⟩ := hLI.pend
      obtain ⟨g, cap, rfl, hg1, hg2, hg3⟩ := own_form (show wr.ownsRow (W1.heap.size + 1) 196 1 u4 (q.length + 1) _ from hLI.row)
      obtain ⟨hpop, _, hwr, hcy⟩ := hLI.pop
      obtain ⟨ya, yc, rfl⟩ := hsl.len
      have hql := sizQ_len (fl :: q)
      have hmb : (q.length : Int) < 1000000 := by simp at hql; omega
      have HP := Lib.hid (And.intro hpop (And.intro hsl hwr))
      clear hLI hpd hpop hsl hwr hlen hlt hql
      generalize hm : q.length = m at *
      have hi1 : (0 : Int) ≤ (m : Int) ∧ (m : Int) < (m : Int) + 1 := by omega
      have hi2 : (m : Int) ≤ (cap : Int) := by omega
      go_wp2_with fail
      have HI := Lib.hid (show ∃ (f1 f2 : Fo) (q1 : List Fo) (r1 : List Value), fl = f1.app f2 ∧ f1.len = 0 ∧ LI S w W1.heap.size f (.slice ra f.len rc) q1 r1 (.slice (some ⟨g, 0, none⟩) m cap) wr ∧ SlF (Ti S w wr) fl (.slice ya fl.len yc) wr ∧ Wr w W1.heap.size (.slice ya fl.len yc) wr ∧ sizQ q1 + f2.siz ≤ sizQ q + fl.siz from ⟨.nil, fl, q, r0, rfl, rfl, HP.out.1, HP.out.2.1, HP.out.2.2, Nat.le_refl _⟩)
      have hfl : fl.len ≤ 700000 := by
        have h1 := HL.out.1; have h2 := HL.out.2
        rw [← h1, sizQ_cons] at h2
        have := fl.len_siz
        omega
      have HL2 := Lib.hid (show sizQ q + fl.siz < least (LP S w W1.heap.size f (.slice ra f.len rc) (.slice (some ⟨g, 0, none⟩) (m + 1) cap) wr) ∧ sizQ q + fl.siz < 600000 by
        have h1 := HL.out.1; have h2 := HL.out.2
        rw [sizQ_cons] at h1
        omega)
      clear HP hcy hi1 hi2 hmb hg1 hg2 hg3 hm
      obtain ⟨v0, rfl⟩ : ∃ v0, v0 = wr := ⟨_, rfl⟩
      go_loopw [4, 29] (fun t i wr => ∃ k : Nat, i = .int .i64 k ∧ k ≤ fl.len ∧ ∃ (f1 f2 : Fo) (q1 : List Fo) (r1 : List Value), fl = f1.app f2 ∧ f1.len = k ∧ LI S w W1.heap.size f (.slice ra f.len rc) q1 r1 t wr ∧ SlF (Ti S w wr) fl (.slice ya fl.len yc) wr ∧ Wr w W1.heap.size (.slice ya fl.len yc) wr ∧ sizQ q1 + f2.siz ≤ sizQ q + fl.siz) (fun _ i _ => fl.len - (intOf i).toNat)
      case atStart =>
        obtain ⟨f1, f2, q1, r1, h⟩ := HI.out
        exact ⟨0, rfl, by omega, f1, f2, q1, r1, h⟩
      case round =>
        clear HI
        obtain ⟨k, rfl, hk, f1, f2, q1, r1, hf, hf1, hLI, hsl, hwr, hsz2⟩ := hrel
        by_cases hlt : k < fl.len
        · have hki : (k : Int) < (fl.len : Int) := by omega
          have hl2 : 0 < f2.len := by rw [hf, Fo.len_app] at hlt; omega
          obtain ⟨x, r, rfl⟩ := fo_first hl2
          obtain ⟨gl, n, cl, cur, e1, hgl1, hgl2⟩ : Ow (w.heap.size + 1) (.slice ya fl.len yc) wr := by
            rcases hwr with h | h
            · injection h with _ h2 _; omega
            · exact h.1
          injection e1 with e2 e3 e4
          subst e2 e3 e4
          have hgl3 : gl ≠ W1.heap.size := by
            rcases hwr with h | h
            · cases h
            · intro e; exact h.2 (by rw [e]; rfl)
          obtain ⟨u, hu1, hu2⟩ : ∃ u, wr.cell? ⟨gl, k * 3 + 2, none⟩ = some u ∧ SlF (Ti S w wr) x.inner u wr := by
            rcases hsl with ⟨h, _⟩ | ⟨g1, o1, c1, h, _, _, ha⟩
            · cases h
            · injection h with h1 h2 h3
              injection h1 with h1
              injection h1 with h4 h5 h6
              subst h4; subst h5
              rw [hf] at ha
              have := At_inner (At_split f1 (x.fo r) _ _ ha)
              rwa [hf1, Nat.zero_add] at this
          have hxs := It.siz_inner x r
          have hxl := x.inner.len_siz
          have hLs := HL2.out.2
          have hin : x.inner.len ≤ 1000000 := by omega
          have hbs := hLI.below.size
          obtain ⟨ua, uc, rfl⟩ := hu2.len
          obtain ⟨ta, tc, rfl⟩ := own_any hLI.row
          have HC := Lib.hid (clone_c hu2 (fun k hk => hk.lt hLI.hS hbs) hin)
          have HV := Lib.hid (And.intro hLI (And.intro hsl (And.intro hu2 (And.intro hgl2 (And.intro hgl1 (And.intro hgl3 (And.intro hwr (And.intro hsz2 (And.intro hf hf1)))))))))
          have hlgl := Lib.hid (lt_of hgl2)
          clear hLI hsl hu2 hgl2 hgl1 hgl3 hwr hsz2 hf hf1 hxs hxl hLs hbs hl2
          generalize hil : x.inner.len = il at *
          have HIL := Lib.hid hil
          clear hil
          have hk3 : (k : Int) < 700000 := by omega
          have hkb : (0 : Int) ≤ (k : Int) ∧ (k : Int) < (fl.len : Int) := by omega
          by_cases hp : 0 < il
          · have hpi : (0 : Int) < (il : Int) := by omega
            clear hpi
            go_wp2_with fail
            go_at_call 262
            refine HC.out.mono ?_
            rintro e W3 ⟨u', rfl, h1, h2, h3, h4⟩
            obtain ⟨va, vc, hve⟩ := h3.len
            rw [HIL.out] at hve
            subst hve
            have hst := HV.out.1.step HV.out.2.1 HV.out.2.2.1 HV.out.2.2.2.1 HV.out.2.2.2.2.1 HV.out.2.2.2.2.2.1 hu1 h1 h2 h3 h4
            have c3 := hst.1
            have z3 := hst.2.1
            have HS := Lib.hid hst.2.2
            clear h1 h2 h3 h4 HC hst
            have hq1 := Lib.hid (And.intro trivial (show q1.length < 1000000000 by have h1 := HV.out.2.2.2.2.2.2.2.1; have h2 := sizQ_len q1; have h3 := HL2.out.2; omega))
            have hk3' := Lib.hid (And.intro trivial hk3)
            clear hin hfl hsz hk3
            go_wp2_with (at_builtin; refine wpList_append_one (by rfl) _ _ 342 196 (by rfl) Tryz.underlying342 _ 24 infoSl rfl (by omega) (W1.heap.size + 1) _ q1.length r1.reverse (by rfl) (HS.out.1.row.alloc _) W3.heap.size (.slice va il vc) rfl (by rfl) (by rw [show W3.heap.size = (W3.setCell ⟨gl, k * 3 + 2, none⟩ (.slice va il vc)).heap.size from (setCell_size _ _ _).symm]; exact heap_alloc_new _ _) (by have := lt_of HS.out.1.row3; first | omega | (simp only [alloc_size]; omega)) hq1.out.2 ?_; intro t5 W5 hown5 hgr5 hbl5; have H5 := Lib.hid (HS.out.1.push HS.out.2.2.2.1 HS.out.2.2.2.2 hown5 hgr5); have H6 := Lib.hid (HS.out.1.push_wr HS.out.2.2.1 hgr5); clear hown5 hgr5 hbl5)
            obtain ⟨hLI5, hmv⟩ := H5.out
            obtain ⟨_, hsl5, _, _, _⟩ := HS.out
            obtain ⟨_, _, _, _, _, _, _, hsz2, hf, hf1⟩ := HV.out
            have hwk : wrap64 ((k : Int) + 1) = ((k + 1 : Nat) : Int) := by have := hk3'.out.2; unfold wrap64; omega
            rw [hwk]
            have hxs := It.siz_inner x r
            refine ⟨⟨k + 1, rfl, hlt, f1.app (x.fo .nil), r, x.inner :: q1, _, by rw [hf, Fo.app_assoc, It.fo_app], ?_, hLI5, hmv _ _ hsl5, H6.out, by rw [sizQ_cons]; omega⟩, ?_⟩
            · rw [Fo.len_app, hf1]; cases x <;> rfl
            · exact less_step k _ hlt
          · have hpi : ¬ (0 : Int) < (il : Int) := by omega
            go_wp2_with (first
              | (go_at_call 262; refine HC.out.mono ?_; rintro e W3 ⟨u', rfl, h1, h2, h3, h4⟩; obtain ⟨va, vc, hve⟩ := h3.len; (rw [HIL.out] at hve); subst hve; have hst := HV.out.1.step HV.out.2.1 HV.out.2.2.1 HV.out.2.2.2.1 HV.out.2.2.2.2.1 HV.out.2.2.2.2.2.1 hu1 h1 h2 h3 h4; have c3 := hst.1; have z3 := hst.2.1; have HS := Lib.hid hst.2.2; clear h1 h2 h3 h4 HC hst))
            obtain ⟨hLI5, hsl5, hwr5, _, _⟩ := HS.out
            obtain ⟨_, _, _, _, _, _, _, hsz2, hf, hf1⟩ := HV.out
            have hxs := It.siz_inner x r
            refine ⟨⟨k + 1, rfl, hlt, f1.app (x.fo .nil), r, q1, r1, by rw [hf, Fo.app_assoc, It.fo_app], ?_, hLI5, hsl5, hwr5, by omega⟩, ?_⟩
            · rw [Fo.len_app, hf1]; cases x <;> rfl
            · exact less_step k _ hlt
        · have hkx : ¬ (k : Int) < (fl.len : Int) := by omega
          have hf2 : f2 = .nil := by
            have h1 : f2.len = 0 := by
              have h2 := Fo.len_app f1 f2
              rw [← hf] at h2
              omega
            cases f2 with
            | nil => rfl
            | text _ _ => simp [Fo.len] at h1
            | list _ _ => simp [Fo.len] at h1
          subst hf2
          have HF := Lib.hid (And.intro hLI (show sizQ q1 ≤ sizQ q + fl.siz from by simpa [Fo.siz] using hsz2))
          clear hLI hsl hwr hsz2 hf hf1 hk hlt hfl hsz
          go_wp2_with fail
          exact LP.less ⟨q1, r1, HF.out.1, rfl, by have h1 := HL2.out.2; have h2 := HF.out.2; omega⟩ (by have h1 := HL2.out.1; have h2 := HF.out.2; omega)
end Go.Proofs.YtekoaheiapddiaaGreat
end
section
namespace Go.Proofs.YtekoaheiapddiaaGreat
open Go.RowKit

theorem SuS.calm {b B : Nat} {s : List Nat × List Nat} {W W' : World} (h : SuS b B s W) (hb : Below W.heap.size W W') : SuS b B s W' ∧ Chg (SuF b W) (SuF b W') W W' := by
  obtain ⟨h1, h2⟩ := h.kept fun k hk => hb.block k (h.ftlt k hk)
  exact ⟨h1, hb.os, hb.tape, hb.output, hb.size, fun k hk _ => hb.block k hk, fun k hk => Or.inl ((h2 k).1 hk)⟩
theorem hd_len (k n : Nat) : (hd k n).length ≤ 1 + (num n).length := by
  unfold hd
  split <;> simp; omega
theorem encT_len (s : List UInt8) : (encT s).length = (hdT s).length + s.length := by simp [encT]
set_option maxRecDepth 100000 in
set_option maxHeartbeats 1000000 in
theorem stext_c {b B : Nat} {z o : List Nat} {p : Nat} {W : World} (h : SuS b B (z, p :: o) W) (hp : p < z.length) (t : List UInt8) (hn : z[p]'hp + (encT t).length < 4611686018427387904) (hol : o.length < 1000000) :
    Calls Tryz.prog 255 #[.pointer (some ⟨b, 0, none⟩), .string (str t)] W fun e W' => e = .returned (.tuple #[]) ∧ SuS b B (z.set p (z[p]'hp + (encT t).length), p :: o) W' ∧ Chg (SuF b W) (SuF b W') W W' := by
  have hl := encT_len t
  have HT := Lib.hid (fun W => headOf_c t (by omega) W)
  have hs1 := str_size t
  have hs2 := str_size (hdT t)
  have HA := Lib.hid (fun W1 (h1 : SuS b B (z, p :: o) W1) => add_c h1 hp (encT t).length (by omega) hol)
  have H := Lib.hid h
  clear h
  generalize str t = x at *
  generalize str (hdT t) = y at *
  have hb : (y.size : Int) + (x.size : Int) < 4611686018427387904 := by omega
  have he : (((encT t).length : Nat) : Int) = (y.size : Int) + (x.size : Int) := by omega
  rw [he] at HA
  clear hs1 hs2 hl he hn
  go_enter Tryz.func255, Tryz.ntmps255
  go_wp2_with (first
    | (go_at_call 272; refine (HT.out _).mono ?_; rintro e W1 ⟨rfl, hb1⟩; have H1 := Lib.hid (H.out.calm hb1); clear hb1)
    | (go_at_call 271; refine (HA.out _ H1.out.1).mono ?_; rintro e W2 ⟨rfl, h2, h3⟩; have H2 := Lib.hid (And.intro h2 (H1.out.2.trans h3)); clear h2 h3))
  go_end0
  exact ⟨rfl, H2.out⟩
theorem SuS.pop {b B : Nat} {z o : List Nat} {p m g cap : Nat} {v1 : Value} {W : World} (h : SuS b B (z, p :: o) W) (hm : o.length = m) (h1 : W.heap[b]? = some (.cells #[v1, .slice (some ⟨g, 0, none⟩) (m + 1) cap] 333 (0, 0)))
    (h2 : W.ownsRow B 3 1 v1 z.length (ints z)) (h3 : W.ownsRow B 3 1 (.slice (some ⟨g, 0, none⟩) (m + 1) cap) (m + 1) (ints (p :: o).reverse)) (h4 : v1.ownBlock = none ∨ v1.ownBlock ≠ some g) (hg : B ≤ g) :
    SuS b B (z, o) (W.setCell ⟨b, 1, none⟩ (.slice (some ⟨g, 0, none⟩) m cap)) ∧ Chg (SuF b W) (SuF b (W.setCell ⟨b, 1, none⟩ (.slice (some ⟨g, 0, none⟩) m cap))) W (W.setCell ⟨b, 1, none⟩ (.slice (some ⟨g, 0, none⟩) m cap)) := by
  have hlt := h.lt
  have hk : ∀ k, k ≠ b → (W.setCell ⟨b, 1, none⟩ (.slice (some ⟨g, 0, none⟩) m cap)).heap[k]? = W.heap[k]? := fun k hk => heap_setCell_other _ _ _ _ (by simpa using hk)
  have e : ints (p :: o).reverse = ints o.reverse ++ [.int .i64 (p : Nat)] := by simp [ints]
  rw [e] at h3
  refine h.turn (v1' := v1) (v2' := .slice (some ⟨g, 0, none⟩) m cap) h1 (fun k _ h2 _ _ => hk k h2) (by simp [World.setCell]) rfl rfl rfl (heap_set1 h1 _).2 (own_keep h2 fun k hv => hk k (by have := (h2.lt k hv).1; omega)) ?_ h4 (fun k hk => Or.inl hk)
  show World.ownsRow _ _ _ _ _ o.length _
  rw [hm]
  refine own_keep (own_pop h3) fun k hv => hk k ?_
  have : g = k := by simpa [Value.ownBlock] using hv
  omega
set_option maxRecDepth 100000 in
set_option maxHeartbeats 2000000 in
theorem send_c {b B : Nat} {z o : List Nat} {p p' : Nat} {W : World} (h : SuS b B (z, p :: p' :: o) W) (hp : p < z.length) (hp' : p' < z.length) (hn : z[p']'hp' + ((hd 192 (z[p]'hp)).length + z[p]'hp) < 4611686018427387904) (hol : o.length < 900000) :
    Calls Tryz.prog 256 #[.pointer (some ⟨b, 0, none⟩)] W fun e W' => e = .returned (.tuple #[]) ∧ SuS b B (z.set p' (z[p']'hp' + ((hd 192 (z[p]'hp)).length + z[p]'hp)), p' :: o) W' ∧ Chg (SuF b W) (SuF b W') W W' := by
  obtain ⟨v1, v2, h1, h2, h3, h4⟩ := h.row
  obtain ⟨k, hk⟩ : ∃ k, z.length = k + 1 := ⟨z.length - 1, by omega⟩
  have h2' := h2
  simp only [hk] at h2'
  obtain ⟨g1, cap1, rfl, b1, b2, b3⟩ := own_form h2'
  obtain ⟨m, hm⟩ : ∃ m, (p' :: o).length = m := ⟨_, rfl⟩
  have h3' : W.ownsRow B 3 1 v2 (m + 1) (ints (p :: p' :: o).reverse) := by rw [← hm]; exact h3
  obtain ⟨g2, cap2, rfl, b4, b5, b6⟩ := own_form h3'
  have c0 : W.cell? ⟨b, 0, none⟩ = some (.slice (some ⟨g1, 0, none⟩) (k + 1) cap1) := cell_of h1 0
  have c1 : W.cell? ⟨b, 1, none⟩ = some (.slice (some ⟨g2, 0, none⟩) (m + 1) cap2) := cell_of h1 1
  have z1 := free_of h1 1
  have c2 := own_cell h2' rfl p _ (ints_get z p hp)
  have c3 : W.cell? ⟨g2, m, none⟩ = some (.int .i64 (p : Nat)) := own_cell h3' rfl m _ (by rw [← hm]; simp [ints])
  have HP := Lib.hid (fun nq : Nat => And.intro ((h.kept (W' := W.drewN nq) (fun _ _ => rfl)).1.pop hm h1 (own_keep h2 (fun _ _ => rfl)) (own_keep h3' (fun _ _ => rfl)) (by simpa [Value.ownBlock] using h4) b4)
    (show Chg (SuF b W) (SuF b (W.drewN nq)) W (W.drewN nq) from ⟨rfl, rfl, rfl, Nat.le_refl _, fun _ _ _ => rfl, fun k hk => Or.inl (((h.kept (W' := W.drewN nq) (fun _ _ => rfl)).2 k).1 hk)⟩))
  have HH := Lib.hid (fun W => (show Calls Tryz.prog 273 #[.int .u8 192, .int .i64 ((z[p]'hp : Nat) : Int)] W _ from hd_c 192 (z[p]'hp) (Or.inr rfl) (by omega) W))
  have HA := Lib.hid (fun W1 (h1 : SuS b B (z, p' :: o) W1) => add_c h1 hp' ((hd 192 (z[p]'hp)).length + z[p]'hp) (by omega) (by omega))
  have hs := str_size (hd 192 (z[p]'hp))
  generalize hx : z[p]'hp = x at *
  generalize hd 192 x = y at *
  rw [← hs] at hn
  clear h h1 h2 h2' h3 h3' h4
  generalize str y = yy at *
  have i1 : (0 : Int) ≤ (m : Int) ∧ (m : Int) < (m : Int) + 1 := by omega
  have i2 : (0 : Int) ≤ (p : Int) ∧ (p : Int) < (k : Int) + 1 := by omega
  have i3 : (m : Int) < 1000000 := by simp at hm; omega
  have i4 : (yy.size : Int) + (x : Int) < 4611686018427387904 := by omega
  have i5 : (m : Int) ≤ (cap2 : Int) := by omega
  have w1 := iwrap m (by simp at hm; omega)
  rw [show ((y.length + x : Nat) : Int) = (yy.size : Int) + (x : Int) by omega] at HA
  go_enter Tryz.func256, Tryz.ntmps256
  go_wp2_with fail
  go_quiet (fail)
  replace HP := Lib.hid (HP.out nq)
  have d1 : (W.drewN nq).cell? ⟨b, 1, none⟩ = some (.slice (some ⟨g2, 0, none⟩) (m + 1) cap2) := c1
  have d2 : (W.drewN nq).frozen? ⟨b, 1, none⟩ = false := z1
  generalize W.drewN nq = W1 at *
  clear hk hm hx hn hs c0 c1 c2 c3 z1 i1 i2 i3 i5 w1
  go_wp2_with fail
  refine (HH.out _).mono ?_
  rintro e W2 ⟨rfl, hb1⟩
  have H1 := Lib.hid (HP.out.1.1.calm hb1)
  clear hb1
  go_wp2_with fail
  refine (HA.out _ H1.out.1).mono ?_
  rintro e W3 ⟨rfl, h2, h3⟩
  have H2 := Lib.hid (And.intro h2 ((HP.out.2.trans HP.out.1.2).trans (H1.out.2.trans h3)))
  clear h2 h3
  go_wp2_with fail
  go_end0
  exact ⟨rfl, H2.out⟩
end Go.Proofs.YtekoaheiapddiaaGreat
end
