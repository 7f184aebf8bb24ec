/- The sums: how many bytes each list has. -/
import Derived.Test.YtgaaalacoeainaaLj
namespace Go.Proofs.Ytgaaalacoeainaa
open Go.RowKit

def ints (l : List Nat) : List Value := l.map fun (n : Nat) => Value.int .i64 (n : Int)
theorem infoInt : (Try.prog.info? 3).map (fun i => (i.zero, i.size, i.bytes)) = some (some (.int .i64 0), 1, 8) := by kernel_rfl
/-- The sums in block b: the sizes z, and the places o of the lists that are open, the last one first; their rows lie from block B on. -/
structure SuS (b B : Nat) (s : List Nat × List Nat) (W : World) : Prop where
  lt : b < B
  row : ∃ v1 v2, W.heap[b]? = some (.cells #[v1, v2] 61 (0, 0)) ∧ W.ownsRow B 3 1 v1 s.1.length (ints s.1) ∧ W.ownsRow B 3 1 v2 s.2.length (ints s.2.reverse) ∧ (v1.ownBlock = none ∨ v1.ownBlock ≠ v2.ownBlock)
def SuF (b : Nat) (W : World) (k : Nat) : Prop := k = b ∨ ∃ j v, j < 2 ∧ W.cell? ⟨b, j, none⟩ = some v ∧ v.ownBlock = some k
theorem SuS.blt {b B : Nat} {s : List Nat × List Nat} {W : World} (h : SuS b B s W) : b < W.heap.size := by
  obtain ⟨v1, v2, h1, _⟩ := h.row
  exact lt_of h1
theorem SuS.ftlt {b B : Nat} {s : List Nat × List Nat} {W : World} (h : SuS b B s W) : ∀ k, SuF b W k → k < W.heap.size := by
  intro k hk
  obtain ⟨v1, v2, h1, h2, h3, _⟩ := h.row
  rcases hk with rfl | ⟨j, v, hj, hc, hv⟩
  · exact lt_of h1
  · rw [cell_of h1] at hc
    rcases j with _ | _ | j
    · obtain rfl : v1 = v := by simpa using hc
      exact (h2.lt k hv).2
    · obtain rfl : v2 = v := by simpa using hc
      exact (h3.lt k hv).2
    · omega
theorem SuS.kept {b B : Nat} {s : List Nat × List Nat} {W W' : World} (h : SuS b B s W) (hk : ∀ k, SuF b W k → W'.heap[k]? = W.heap[k]?) : SuS b B s W' ∧ ∀ k, SuF b W' k ↔ SuF b W k := by
  obtain ⟨v1, v2, h1, h2, h3, h4⟩ := h.row
  have hb := hk b (Or.inl rfl)
  have hc : ∀ j, W'.cell? ⟨b, j, none⟩ = W.cell? ⟨b, j, none⟩ := fun j => World.cell?_of_block hb
  refine ⟨⟨h.lt, v1, v2, hb.trans h1, own_keep h2 fun k hv => hk k (Or.inr ⟨0, v1, by omega, cell_of h1 0, hv⟩), own_keep h3 fun k hv => hk k (Or.inr ⟨1, v2, by omega, cell_of h1 1, hv⟩), h4⟩, fun k => ?_⟩
  unfold SuF
  simp only [hc]
theorem ints_get (l : List Nat) (j : Nat) (h : j < l.length) : (ints l)[j]? = some (.int .i64 ((l[j]'h : Nat) : Int)) := by simp [ints, h]
theorem heap_set1 {w : World} {b : Nat} {v0 v1 : Value} {t : TypeId} (h : w.heap[b]? = some (.cells #[v0, v1] t (0, 0))) (u : Value) : (w.setCell ⟨b, 0, none⟩ u).heap[b]? = some (.cells #[u, v1] t (0, 0)) ∧ (w.setCell ⟨b, 1, none⟩ u).heap[b]? = some (.cells #[v0, u] t (0, 0)) := by
  have e := heap_setCell_same _ _ 0 _ _ u h
  have e' := heap_setCell_same _ _ 1 _ _ u h
  exact ⟨by simpa using e, by simpa using e'⟩
theorem iwrap (n : Nat) (h : n < 9223372036854775808) : IntKind.i64.wrap (n : Int) = (n : Int) := by
  rw [IntKind.wrap_i64]; omega
set_option maxRecDepth 100000 in
set_option maxHeartbeats 2000000 in
theorem add_c {b B : Nat} {z o : List Nat} {p : Nat} {W : World} (h : SuS b B (z, p :: o) W) (hp : p < z.length) (n : Nat) (hn : z[p]'hp + n < 9223372036854775808) (hol : o.length < 1000000) :
    Calls Try.prog 44 #[.pointer (some ⟨b, 0, none⟩), .int .i64 n] W fun e W' => e = .returned (.tuple #[]) ∧ SuS b B (z.set p (z[p]'hp + n), p :: o) W' ∧ Chg (SuF b W) (SuF b W') W W' := by
  obtain ⟨v1, v2, h1, h2, h3, h4⟩ := h.row
  obtain ⟨k, hk⟩ : ∃ k, z.length = k + 1 := ⟨z.length - 1, by omega⟩
  have h2' := h2
  simp only [hk] at h2'
  obtain ⟨g1, cap1, rfl, b1, b2, b3⟩ := own_form h2'
  obtain ⟨g2, cap2, rfl, b4, b5, b6⟩ := own_form (show W.ownsRow B 3 1 v2 (o.length + 1) _ from h3)
  have c0 : W.cell? ⟨b, 0, none⟩ = some (.slice (some ⟨g1, 0, none⟩) (k + 1) cap1) := cell_of h1 0
  have c1 : W.cell? ⟨b, 1, none⟩ = some (.slice (some ⟨g2, 0, none⟩) (o.length + 1) cap2) := cell_of h1 1
  have c2 := own_cell h2 (by rw [hk]) p _ (ints_get z p hp)
  have z2 := own_free h2 (by rw [hk]) p
  have c3 : W.cell? ⟨g2, o.length, none⟩ = some (.int .i64 (p : Nat)) := own_cell h3 rfl o.length _ (by simp [ints])
  have HH := Lib.hid (And.intro h (And.intro h1 (And.intro h2 (And.intro h3 h4))))
  clear h h1 h2 h2' h3 h4
  generalize hm : o.length = m at *
  generalize hx : z[p]'hp = x at *
  have i1 : (0 : Int) ≤ (m : Int) ∧ (m : Int) < (m : Int) + 1 := by omega
  have i2 : (0 : Int) ≤ (p : Int) ∧ (p : Int) < (k : Int) + 1 := by omega
  have i3 : (m : Int) < 1000000 := by omega
  have i4 : (x : Int) + (n : Int) < 9223372036854775808 := by omega
  have w1 := iwrap m (by omega)
  have w2 := iwrap (x + n) hn
  rw [show ((x + n : Nat) : Int) = (x : Int) + (n : Int) by omega] at w2
  go_enter Try.func44, Try.ntmps44
  go_wp2_with fail
  go_still_tail 21, (by kernel_rfl)
  change wpList _ _ _ _ _ W.drew
  have d2 : W.drew.cell? ⟨g1, p, none⟩ = some (.int .i64 (x : Nat)) := c2
  have d3 : W.drew.frozen? ⟨g1, p, none⟩ = false := z2
  have hfin : SuS b B (z.set p (x + n), p :: o) (W.drew.setCell ⟨g1, p, none⟩ (.int .i64 ((x : Int) + (n : Int)))) ∧ Chg (SuF b W) (SuF b (W.drew.setCell ⟨g1, p, none⟩ (.int .i64 ((x : Int) + (n : Int))))) W (W.drew.setCell ⟨g1, p, none⟩ (.int .i64 ((x : Int) + (n : Int)))) := by
    obtain ⟨h, h1, h2, h3, h4⟩ := HH.out
    have hlt := h.lt
    have hne : b ≠ g1 := by omega
    have hne2 : g2 ≠ g1 := fun e => by simp [Value.ownBlock, e] at h4
    have hkk : ∀ k, k ≠ g1 → (W.drew.setCell ⟨g1, p, none⟩ (.int .i64 ((x : Int) + (n : Int)))).heap[k]? = W.heap[k]? := fun k hk => heap_setCell_other W.drew _ _ _ (by simpa using hk)
    have hb := (hkk b hne).trans h1
    refine ⟨⟨hlt, _, _, hb, ?_, ?_, h4⟩, rfl, rfl, rfl, by simp [World.setCell], fun k _ hf => hkk k (fun e => hf (Or.inr ⟨0, _, by omega, c0, by rw [e]; rfl⟩)), fun k hk => Or.inl ?_⟩
    · have e := own_setAt (own_keep (w' := W.drew) h2 (fun _ _ => rfl)) (by rw [hk]) p (.int .i64 ((x : Int) + (n : Int)))
      rw [show ints z = z.map fun (n : Nat) => Value.int .i64 (n : Int) from rfl, ← show ((x + n : Nat) : Int) = (x : Int) + (n : Int) by omega, ← List.map_set] at e
      show World.ownsRow _ _ _ _ _ (z.set p (x + n)).length _
      rw [List.length_set, ← show ((x + n : Nat) : Int) = (x : Int) + (n : Int) by omega]
      exact e
    · exact own_keep h3 (fun k hk => hkk k (by have : g2 = k := by simpa [Value.ownBlock] using hk
                                               omega))
    · rcases hk with rfl | ⟨j, v, hj, hc, hv⟩
      · exact Or.inl rfl
      · refine Or.inr ⟨j, v, hj, ?_, hv⟩
        rw [cell_of h1, ← cell_of hb]; exact hc
  clear HH c2 z2 c0 c1 c3
  go_wp2_with fail
  go_end0
  exact ⟨rfl, hfin⟩
theorem own_any {w : World} {B : Nat} {e : TypeId} {v : Value} {n : Nat} {xs : List Value} (h : w.ownsRow B e 1 v n xs) : ∃ a c, v = .slice a n c := by
  rcases h.2 with ⟨rfl, rfl⟩ | ⟨g, cap, cur, rfl, _⟩
  · exact ⟨_, _, rfl⟩
  · exact ⟨_, _, rfl⟩
/-- A new row for the first, the second, of the two. -/
theorem SuS.turn {b B : Nat} {s s' : List Nat × List Nat} {W W' : World} {v1 v2 v1' v2' : Value} (h : SuS b B s W) (h1 : W.heap[b]? = some (.cells #[v1, v2] 61 (0, 0)))
    (hb : ∀ k, k < W.heap.size → k ≠ b → v1.ownBlock ≠ some k → v2.ownBlock ≠ some k → W'.heap[k]? = W.heap[k]?) (hs : W.heap.size ≤ W'.heap.size) (hos : W'.os = W.os) (ht : W'.tape = W.tape) (hout : W'.output = W.output)
    (h1' : W'.heap[b]? = some (.cells #[v1', v2'] 61 (0, 0))) (h2' : W'.ownsRow B 3 1 v1' s'.1.length (ints s'.1)) (h3' : W'.ownsRow B 3 1 v2' s'.2.length (ints s'.2.reverse)) (h4' : v1'.ownBlock = none ∨ v1'.ownBlock ≠ v2'.ownBlock)
    (hn : ∀ k, v1'.ownBlock = some k ∨ v2'.ownBlock = some k → (v1.ownBlock = some k ∨ v2.ownBlock = some k) ∨ W.heap.size ≤ k) : SuS b B s' W' ∧ Chg (SuF b W) (SuF b W') W W' := by
  refine ⟨⟨h.lt, v1', v2', h1', h2', h3', h4'⟩, hos, ht, hout, hs, fun k hk hf => hb k hk (fun e => hf (Or.inl e)) (fun e => hf (Or.inr ⟨0, v1, by omega, cell_of h1 0, e⟩)) (fun e => hf (Or.inr ⟨1, v2, by omega, cell_of h1 1, e⟩)), fun k hk => ?_⟩
  rcases hk with rfl | ⟨j, v, hj, hc, hv⟩
  · exact Or.inl (Or.inl rfl)
  · rw [cell_of h1'] at hc
    have hv' : v1'.ownBlock = some k ∨ v2'.ownBlock = some k := by
      rcases j with _ | _ | j
      · left; have : v1' = v := by simpa using hc
        rw [this]; exact hv
      · right; have : v2' = v := by simpa using hc
        rw [this]; exact hv
      · omega
    rcases hn k hv' with (h5 | h5) | h5
    · exact Or.inl (Or.inr ⟨0, v1, by omega, cell_of h1 0, h5⟩)
    · exact Or.inl (Or.inr ⟨1, v2, by omega, cell_of h1 1, h5⟩)
    · exact Or.inr h5
set_option maxRecDepth 100000 in
set_option maxHeartbeats 2000000 in
theorem sbegin_c {b B : Nat} {z o : List Nat} {W : World} (h : SuS b B (z, o) W) (hz : z.length < 1000000) (ho : o.length < 1000000) (hB : B ≤ W.heap.size) :
    Calls Try.prog 25 #[.pointer (some ⟨b, 0, none⟩)] W fun e W' => e = .returned (.tuple #[]) ∧ SuS b B (z ++ [0], z.length :: o) W' ∧ Chg (SuF b W) (SuF b W') W W' := by
  obtain ⟨v1, v2, h1, h2, h3, h4⟩ := h.row
  obtain ⟨a1, d1, rfl⟩ := own_any h2
  obtain ⟨a2, d2, rfl⟩ := own_any h3
  have c0 : W.cell? ⟨b, 0, none⟩ = some (.slice a1 z.length d1) := cell_of h1 0
  have c1 : W.cell? ⟨b, 1, none⟩ = some (.slice a2 o.length d2) := cell_of h1 1
  have HH := Lib.hid (And.intro h (And.intro h1 (And.intro h2 (And.intro h3 h4))))
  have hblt := Lib.hid (And.intro h.blt hB)
  clear h h1 h2 h3 h4
  go_enter Try.func25, Try.ntmps25
  go_wp2_with fail
  have H0 := HH.out.2.1
  have HS := Lib.hid (fun (V : World) (hV : V.heap[b]? = some (.cells #[.slice a1 z.length d1, .slice a2 o.length d2] 61 (0, 0))) => (⟨cell_of hV 0, cell_of hV 1⟩ : V.cell? ⟨b, 0, none⟩ = some (.slice a1 z.length d1) ∧ V.cell? ⟨b, 1, none⟩ = some (.slice a2 o.length d2)))
  refine Drawn.start (fun V => V.heap[b]? = some (.cells #[.slice a1 z.length d1, .slice a2 o.length d2] 61 (0, 0))) (fun i => i == 14) (by kernel_rfl) ?_
  refine Drawn.take 0 (some 2) (v := ?_) rfl rfl (by kernel_rfl) (by kernel_rfl) (by kernel_rfl) (by kernel_rfl) (by kernel_rfl) rfl (fun _ _ _ h => h) (Or.inl ⟨rfl, ?_⟩) H0 ?_
  rotate_left
  · intro W hW; have hW := HS.out W hW; go_simp; try with_reducible rfl
  simp only [put_list, List.set]
  refine Drawn.take 1 (some 3) (v := ?_) rfl rfl (by kernel_rfl) (by kernel_rfl) (by kernel_rfl) (by kernel_rfl) (by kernel_rfl) rfl (fun _ _ _ h => h) (Or.inl ⟨rfl, ?_⟩) H0 ?_
  rotate_left
  · intro W hW; have hW := HS.out W hW; go_simp; try with_reducible rfl
  simp only [put_list, List.set]
  refine Drawn.take 2 (some 4) (v := ?_) rfl rfl (by kernel_rfl) (by kernel_rfl) (by kernel_rfl) (by kernel_rfl) (by kernel_rfl) rfl (fun _ _ _ h => h) (Or.inl ⟨rfl, ?_⟩) H0 ?_
  rotate_left
  · intro W hW; have hW := HS.out W hW; go_simp; try with_reducible rfl
  simp only [put_list, List.set]
  refine Drawn.take 3 (some 5) (v := ?_) rfl rfl (by kernel_rfl) (by kernel_rfl) (by kernel_rfl) (by kernel_rfl) (by kernel_rfl) rfl (fun _ _ _ h => h) (Or.inl ⟨rfl, ?_⟩) H0 ?_
  rotate_left
  · intro W hW; have hW := HS.out W hW; go_simp; try with_reducible rfl
  simp only [put_list, List.set]
  refine Drawn.take 4 (some 6) (v := ?_) rfl rfl (by kernel_rfl) (by kernel_rfl) (by kernel_rfl) (by kernel_rfl) (by kernel_rfl) rfl (fun _ _ _ h => h) (Or.inl ⟨rfl, ?_⟩) H0 ?_
  rotate_left
  · intro W hW; have hW := HS.out W hW; go_simp; try with_reducible rfl
  simp only [put_list, List.set]
  refine Drawn.take 5 (some 7) (v := ?_) rfl rfl (by kernel_rfl) (by kernel_rfl) (by kernel_rfl) (by kernel_rfl) (by kernel_rfl) rfl (fun _ _ _ h => h) (Or.inl ⟨rfl, ?_⟩) H0 ?_
  rotate_left
  · intro W hW; have hW := HS.out W hW; go_simp; try with_reducible rfl
  simp only [put_list, List.set]
  refine Drawn.take 6 (some 8) (v := ?_) rfl rfl (by kernel_rfl) (by kernel_rfl) (by kernel_rfl) (by kernel_rfl) (by kernel_rfl) rfl (fun _ _ _ h => h) (Or.inl ⟨rfl, ?_⟩) H0 ?_
  rotate_left
  · intro W hW; have hW := HS.out W hW; go_simp; try with_reducible rfl
  simp only [put_list, List.set]
  refine Drawn.take 7 (some 9) (v := ?_) rfl rfl (by kernel_rfl) (by kernel_rfl) (by kernel_rfl) (by kernel_rfl) (by kernel_rfl) rfl (fun _ _ _ h => h) (Or.inl ⟨rfl, ?_⟩) H0 ?_
  rotate_left
  · intro W hW; have hW := HS.out W hW; go_simp; try with_reducible rfl
  simp only [put_list, List.set]
  refine Drawn.take 8 (some 10) (v := ?_) rfl rfl (by kernel_rfl) (by kernel_rfl) (by kernel_rfl) (by kernel_rfl) (by kernel_rfl) rfl (fun _ _ _ h => h) (Or.inl ⟨rfl, ?_⟩) H0 ?_
  rotate_left
  · intro W hW; have hW := HS.out W hW; go_simp; try with_reducible rfl
  simp only [put_list, List.set]
  refine Drawn.take 9 (some 11) (v := ?_) rfl rfl (by kernel_rfl) (by kernel_rfl) (by kernel_rfl) (by kernel_rfl) (by kernel_rfl) rfl (fun _ _ _ h => h) (Or.inl ⟨rfl, ?_⟩) H0 ?_
  rotate_left
  · intro W hW; have hW := HS.out W hW; go_simp; try with_reducible rfl
  simp only [put_list, List.set]
  refine Drawn.only 10 (by kernel_rfl) rfl rfl (fun K hK => ?_)
  go_simp
  refine hK _ _ (fun _ _ => (Below.heap_alloc _ _ _ hblt.out.1).trans H0) ?_
  clear hK K
  have HW1 := Lib.hid (show W.drew.alloc (.cells #[.int .i64 (z.length : Nat)] 3) = W.drew.alloc (.cells #[.int .i64 (z.length : Nat)] 3) from rfl)
  refine Drawn.only 11 (by kernel_rfl) rfl rfl (fun K hK => ?_)
  refine wp_append_one _ _ 59 3 (by rfl) Try.underlying59 _ 8 infoInt rfl (by omega) B _ o.length (ints o.reverse) (by rfl) ((own_keep (w' := W.drew) HH.out.2.2.2.1 (fun _ _ => rfl)).alloc _) W.heap.size (.int .i64 (z.length : Nat)) rfl (by rfl) (heap_alloc_new W _) (Nat.le_trans hblt.out.2 (by simp)) (by omega) ?_
  intro v3 W2 hown3 hgr3 hbl3
  obtain ⟨g3, cap3, rfl, hg3, hg3b, hg3c⟩ := own_form hown3
  have hlt2 : ∀ k, (Value.slice a2 o.length d2).ownBlock = some k → B ≤ k ∧ k < W.heap.size := fun k hk => HH.out.2.2.2.1.lt k hk
  have hlt1 : ∀ k, (Value.slice a1 z.length d1).ownBlock = some k → B ≤ k ∧ k < W.heap.size := fun k hk => HH.out.2.2.1.lt k hk
  have hbB := HH.out.1.lt
  have hbl := hblt.out.1
  have hkk : ∀ k, k < W.heap.size → (Value.slice a2 o.length d2).ownBlock ≠ some k → W2.heap[k]? = W.heap[k]? := fun k h1 h2 => (hgr3.block k (by simp; omega) (fun e => h2 e.symm)).trans (Below.heap_alloc W _ _ h1)
  have h2b : W2.heap[b]? = some (.cells #[.slice a1 z.length d1, .slice a2 o.length d2] 61 (0, 0)) := (hkk b hbl (fun e => by have := (hlt2 b e).1; omega)).trans HH.out.2.1
  have hfin := HH.out.1.turn (s' := (z, z.length :: o)) (W' := W2.setCell ⟨b, 1, none⟩ (.slice (some ⟨g3, 0, none⟩) (o.length + 1) cap3)) (v1' := .slice a1 z.length d1) (v2' := .slice (some ⟨g3, 0, none⟩) (o.length + 1) cap3) HH.out.2.1
    (fun k h1 h2 _ h4 => by rw [heap_setCell_other _ _ _ _ (by simpa using h2)]; exact hkk k h1 h4)
    (by have := hgr3.size; simp at this; simp [World.setCell]; omega) hgr3.os hgr3.tape hgr3.output (heap_set1 h2b _).2
    (own_keep HH.out.2.2.1 fun k hk => by
      have h1 := hlt1 k hk
      rw [heap_setCell_other _ _ _ _ (by simp; omega)]
      exact hkk k h1.2 (fun e => (HH.out.2.2.2.2).elim (fun h => by rw [h] at hk; cases hk) (fun h => h (by rw [hk, e]))))
    (by
      rw [show ints (z.length :: o).reverse = ints o.reverse ++ [.int .i64 (z.length : Nat)] by simp [ints]]
      refine own_keep hown3 fun k hk => ?_
      have hk : g3 = k := by simpa [Value.ownBlock] using hk
      rw [heap_setCell_other _ _ _ _ (by simp; omega)])
    (by
      rcases HH.out.2.2.2.2 with h | h
      · exact Or.inl h
      · right
        intro e
        rcases hbl3 with h5 | h5
        · exact h (e.trans h5)
        · rw [h5] at e
          have := (hlt1 _ e).2
          simp at this
          omega)
    (fun k hk => by
      rcases hk with hk | hk
      · exact Or.inl (Or.inl hk)
      · rcases hbl3 with h5 | h5
        · exact Or.inl (Or.inr (by rw [← h5]; exact hk))
        · right; rw [h5] at hk; injection hk with hk; simp at hk; omega)
  have HFin := Lib.hid hfin
  have H2B := Lib.hid h2b
  have e1 : W2.cell? ⟨b, 1, none⟩ = some (.slice a2 o.length d2) := cell_of h2b 1
  have e2 := free_of h2b 1
  refine hK _ _ (fun _ _ => h2b) ?_
  clear hK K hown3 hgr3 hbl3 hkk hlt1 hlt2 hfin HS H0 c0 c1 hg3 hg3b hg3c hbB hbl h2b
  try simp only [put_list, List.set]
  refine Drawn.only 12 (by kernel_rfl) rfl rfl (fun K hK => ?_)
  go_simp
  refine hK _ _ (fun _ _ => H2B.out) ?_
  clear hK K
  refine Drawn.only 13 (by kernel_rfl) rfl rfl (fun K hK => ?_)
  go_simp
  refine hK _ _ (fun _ _ => H2B.out) ?_
  clear hK K
  refine Drawn.only 14 (by kernel_rfl) rfl rfl (fun K hK => ?_)
  go_simp
  refine hK _ _ (fun h _ => absurd h (by decide)) ?_
  clear hK K e1 e2 H2B HW1
  generalize W2.setCell ⟨b, 1, none⟩ (.slice (some ⟨g3, 0, none⟩) (o.length + 1) cap3) = W3 at *
  refine Drawn.done (by kernel_rfl) ?_ _
  obtain ⟨v1, v2, h1, h2, h3, h4⟩ := HFin.out.1.row
  clear HH
  obtain ⟨f1, d1, rfl⟩ := own_any h2
  obtain ⟨f2, d2, rfl⟩ := own_any h3
  have c0 : W3.cell? ⟨b, 0, none⟩ = some (.slice f1 z.length d1) := cell_of h1 0
  have HG := Lib.hid (show W3.heap[b]? = some (.cells #[.slice f1 z.length d1, .slice f2 (o.length + 1) d2] 61 (0, 0)) ∧ W3.ownsRow B 3 1 (.slice f1 z.length d1) z.length (ints z) ∧ W3.ownsRow B 3 1 (.slice f2 (o.length + 1) d2) (o.length + 1) (ints (z.length :: o).reverse) ∧ ((Value.slice f1 z.length d1).ownBlock = none ∨ (Value.slice f1 z.length d1).ownBlock ≠ (Value.slice f2 (o.length + 1) d2).ownBlock) from ⟨h1, h2, h3, h4⟩)
  clear h1 h2 h3 h4
  have hs3 := Lib.hid HFin.out.2.size
  have hb3 := Lib.hid (show b < W3.heap.size from lt_of HG.out.1)
  go_wp2_with (at_builtin; refine wpList_append_one (by rfl) _ _ 59 3 (by rfl) Try.underlying59 _ 8 infoInt rfl (by omega) B _ z.length (ints z) (by rfl) (HG.out.2.1.alloc _) W3.heap.size (.int .i64 0) rfl (by rfl) (heap_alloc_new _ _) (Nat.le_trans hblt.out.2 (Nat.le_trans hs3.out (by simp))) (by omega) ?_; intro v4 W4 hown4 hgr4 hbl4; obtain ⟨g4, cap4, rfl, hg4, hg4b, hg4c⟩ := own_form hown4; have HX := Lib.hid (And.intro hown4 (And.intro hgr4 (And.intro hbl4 (And.intro hg4 hg4b)))); have h4b : W4.heap[b]? = some (.cells #[.slice f1 z.length d1, .slice f2 (o.length + 1) d2] 61 (0, 0)) := (hgr4.block _ (by have := hb3.out; simp; omega) (fun e => by have := (HG.out.2.1.lt _ e.symm).1; have := HFin.out.1.lt; omega)).trans ((Below.heap_alloc _ _ _ hb3.out).trans HG.out.1); have c4 : W4.cell? ⟨b, 0, none⟩ = some (.slice f1 z.length d1) := cell_of h4b 0; have z4 := free_of h4b 0; have H4B := Lib.hid h4b; clear hown4 hgr4 hbl4 hg4 hg4b hg4c h4b)
  go_end0
  have hkk : ∀ k, k < W3.heap.size → (Value.slice f1 z.length d1).ownBlock ≠ some k → W4.heap[k]? = W3.heap[k]? := fun k h1 h2 => (HX.out.2.1.block k (by simp; omega) (fun e => h2 e.symm)).trans (Below.heap_alloc W3 _ _ h1)
  have hfin := HFin.out.1.turn (s' := (z ++ [0], z.length :: o)) (W' := W4.setCell ⟨b, 0, none⟩ (.slice (some ⟨g4, 0, none⟩) (z.length + 1) cap4)) (v1' := .slice (some ⟨g4, 0, none⟩) (z.length + 1) cap4) (v2' := .slice f2 (o.length + 1) d2) HG.out.1
    (fun k h1 h2 h3 _ => by rw [heap_setCell_other _ _ _ _ (by simpa using h2)]; exact hkk k h1 h3)
    (by have := HX.out.2.1.size; simp at this; simp [World.setCell]; omega) HX.out.2.1.os HX.out.2.1.tape HX.out.2.1.output (heap_set1 H4B.out _).1
    (by
      show World.ownsRow _ _ _ _ _ (z ++ [0]).length (ints (z ++ [0]))
      have ez : (z ++ [0]).length = z.length + 1 := by simp
      rw [show ints (z ++ [0]) = ints z ++ [.int .i64 0] by simp [ints], ez]
      refine own_keep HX.out.1 fun k hk => ?_
      have hk : g4 = k := by simpa [Value.ownBlock] using hk
      have h1 := HX.out.2.2.2.1
      have h2 := HFin.out.1.lt
      rw [heap_setCell_other _ _ _ _ (by simp; omega)])
    (own_keep HG.out.2.2.1 fun k hk => by
      have h1 := HG.out.2.2.1.lt k hk
      have h2 := HFin.out.1.lt
      rw [heap_setCell_other _ _ _ _ (by simp; omega)]
      exact hkk k h1.2 (fun e => (HG.out.2.2.2).elim (fun h => by rw [h] at e; cases e) (fun h => h (by rw [hk, e]))))
    (by
      right
      intro e
      rcases HX.out.2.2.1 with h5 | h5
      · rcases HG.out.2.2.2 with h | h
        · rw [h] at h5; cases h5
        · exact h (h5.symm.trans e)
      · rw [h5] at e
        have := (HG.out.2.2.1.lt _ e.symm).2
        simp at this
        omega)
    (fun k hk => by
      rcases hk with hk | hk
      · rcases HX.out.2.2.1 with h5 | h5
        · exact Or.inl (Or.inl (by rw [← h5]; exact hk))
        · right; rw [h5] at hk; injection hk with hk; simp at hk; omega
      · exact Or.inl (Or.inr hk))
  exact ⟨rfl, hfin.1, HFin.out.2.trans hfin.2⟩
end Go.Proofs.Ytgaaalacoeainaa
