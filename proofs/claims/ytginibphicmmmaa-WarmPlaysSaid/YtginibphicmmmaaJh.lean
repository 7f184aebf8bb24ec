/- The last log taken away. -/
import Derived.Test.YtginibphicmmmaaJg
namespace Go.Proofs.Ytginibphicmmmaa
open Go.RowKit Go.Maps Mp

theorem row_form {w : World} {B z : Nat} {e : TypeId} {v : Value} {k : Nat} {xs : List Value} (h : w.ownsRow B e z v (k + 1) xs) : ∃ g cap cur, v = .slice (some ⟨g, 0, none⟩) (k + 1) cap ∧ B ≤ g ∧ w.heap[g]? = some (.cells cur e (0, 0)) ∧ k + 1 ≤ cap ∧ cap ≤ maxLen ∧ cur.size = cap * z ∧ cur.toList.take ((k + 1) * z) = xs := by
  rcases h.2 with ⟨_, h0⟩ | h0
  · cases h0
  · exact h0
/-- A row without its last one; what lies behind may be turned. -/
theorem row_less {V : World} {B z g cap : Nat} {e : TypeId} {k k' : Nat} {xs : List Value} {cur cur' : Array Value} (hB : B ≤ g) (hx : cur.toList.take (k * z) = xs) (hk : k' ≤ k) (hkc : k ≤ cap) (hc : cap ≤ maxLen) (hs : cur.size = cap * z) (hs' : cur'.size = cur.size) (hsame : ∀ j, j < k' * z → cur'[j]? = cur[j]?) (hg : V.heap[g]? = some (.cells cur' e (0, 0))) :
    V.ownsRow B e z (.slice (some ⟨g, 0, none⟩) k' cap) k' (xs.take (k' * z)) := by
  have hz : k' * z ≤ k * z := Nat.mul_le_mul_right z hk
  have hkz : k * z ≤ cap * z := Nat.mul_le_mul_right z hkc
  refine ⟨by rw [← hx, List.take_take, Nat.min_eq_left hz, List.length_take, Array.length_toList, hs]; omega, Or.inr ⟨g, cap, cur', rfl, hB, hg, Nat.le_trans hk hkc, hc, by rw [hs', hs], ?_⟩⟩
  rw [← hx, List.take_take, Nat.min_eq_left hz]
  apply List.ext_getElem?
  intro j
  by_cases hj : j < k' * z
  · rw [List.getElem?_take_of_lt hj, List.getElem?_take_of_lt hj]
    simpa using hsame j hj
  · rw [List.getElem?_eq_none (by rw [List.length_take]; omega), List.getElem?_eq_none (by rw [List.length_take]; omega)]
theorem set3_keep (g o : Nat) (u0 u1 u2 : Value) {e : TypeId} {W : World} {cur : Array Value} (h : W.heap[g]? = some (.cells cur e (0, 0))) :
    Chg (fun j => j = g) (fun j => j = g) W (((W.setCell ⟨g, o, none⟩ u0).setCell ⟨g, o + 1, none⟩ u1).setCell ⟨g, o + 2, none⟩ u2) ∧ ∃ cur' : Array Value, (((W.setCell ⟨g, o, none⟩ u0).setCell ⟨g, o + 1, none⟩ u1).setCell ⟨g, o + 2, none⟩ u2).heap[g]? = some (.cells cur' e (0, 0)) ∧ cur'.size = cur.size ∧ ∀ j, j < o → cur'[j]? = cur[j]? := by
  have s : ∀ {W1 : World}, Chg (fun k => k = g) (fun k => k = g) W W1 → ∀ j u, Chg (fun k => k = g) (fun k => k = g) W (W1.setCell ⟨g, j, none⟩ u) := fun h j u => chg_set (F := fun k => k = g) (F' := fun k => k = g) h (Or.inl rfl) j u
  refine ⟨s (s (s (Chg.refl _ W) _ _) _ _) _ _, _, heap_setCell_same _ _ _ _ _ u2 (heap_setCell_same _ _ _ _ _ u1 (heap_setCell_same _ _ _ _ _ u0 h)), by simp, fun j hj => ?_⟩
  rw [Array.getElem?_setIfInBounds_ne (by simp; omega), Array.getElem?_setIfInBounds_ne (by simp; omega), Array.getElem?_setIfInBounds_ne (by simp; omega)]
set_option maxRecDepth 100000 in
set_option maxHeartbeats 4000000 in
theorem unlog_c {b k : Nat} {W : World} {c0 c1 c2 c3 lv bv : Value} {xs : List Value} (hc : W.heap[b]? = some (.cells #[c0, c1, c2, c3, lv, bv] 64 (0, 0))) (hr : W.ownsRow 0 33 3 lv (k + 1) xs) (hk : k < 1000000000000) :
    Calls Try.prog 46 #[ptr b] W fun e W' => e = .returned (.tuple #[]) ∧ ∃ lv', W'.heap[b]? = some (.cells #[c0, c1, c2, c3, lv', bv] 64 (0, 0)) ∧ W'.ownsRow 0 33 3 lv' k (xs.take (k * 3)) ∧ lv'.ownBlock = lv.ownBlock ∧ Chg (fun j => j = b ∨ lv.ownBlock = some j) (fun j => j = b ∨ lv.ownBlock = some j) W W' := by
  obtain ⟨g, cap, cur, rfl, h0, hg, hkc, hcm, hsz, hx⟩ := row_form hr
  have hgb : g ≠ b := fun e => by
    rw [e, hc] at hg; injection hg with hg; injection hg with _ hg; exact absurd hg (by decide)
  have hw : wrap64 (k : Int) = (k : Int) := by unfold wrap64; omega
  have hki : (k : Int) < (k : Int) + 1 := by omega
  have d4 := cell_of hc 4
  simp only [List.getElem?_toArray, List.getElem?_cons_zero, List.getElem?_cons_succ] at d4
  have f4 := free_of hc 4
  have g0 := cell_of hg (k * 3)
  have g1 := cell_of hg (k * 3 + 1)
  have g2 := cell_of hg (k * 3 + 2)
  have e0 := free_of hg (k * 3)
  have e1 := free_of hg (k * 3 + 1)
  have e2 := free_of hg (k * 3 + 2)
  have hs : k * 3 + 2 < cur.size := by omega
  rw [Array.getElem?_eq_getElem (by omega)] at g0 g1 g2
  generalize cur[k * 3] = v0 at g0
  generalize cur[k * 3 + 1] = v1 at g1
  generalize cur[k * 3 + 2] = v2 at g2
  have HH := Lib.hid (And.intro hc (And.intro hg (And.intro hkc (And.intro hcm (And.intro hsz (And.intro hx (And.intro hgb hs)))))))
  unfold ptr at *
  clear hc hr hg hkc hcm hsz hx hgb hs hk h0
  go_enter Try.func46, Try.ntmps46
  go_upto_region 2 with fail
  obtain ⟨hc, hg, hkc, hcm, hsz, hx, hgb, hs⟩ := HH.out
  have hcap : (k : Int) ≤ (cap : Int) := by omega
  obtain ⟨c1', k1⟩ := set3_keep g (k * 3) (.string ⟨#[]⟩) (.slice none 0 0) (.string ⟨#[]⟩) hg
  obtain ⟨cur', k2, k3, k4⟩ := k1
  have k5 := (c1'.block b (lt_of hc) (Ne.symm hgb)).trans hc
  clear d4 f4 g0 g1 g2 e0 e1 e2 hki
  generalize World.setCell _ _ _ = V1 at c1' k2 k5 ⊢
  have d4 := cell_of k5 4
  have f4 := free_of k5 4
  simp only [List.getElem?_toArray, List.getElem?_cons_zero, List.getElem?_cons_succ] at d4
  have HK := Lib.hid (And.intro c1' (And.intro k2 (And.intro k3 (And.intro k4 k5))))
  clear c1' k2 k3 k4 k5 hc hg hkc hcm hsz hx hgb hs
  go_wp2_with fail
  go_end0
  obtain ⟨hc, hg, hkc, hcm, hsz, hx, hgb, hs⟩ := HH.out
  obtain ⟨c1', k2, k3, k4, k5⟩ := HK.out
  refine ⟨rfl, .slice (some ⟨g, 0, none⟩) k cap, ?_, ?_, rfl, ?_⟩
  · have h2 := heap_setCell_same _ _ 4 _ _ (.slice (some ⟨g, 0, none⟩) k cap) k5
    simpa using h2
  · exact row_less (Nat.zero_le _) hx (Nat.le_succ k) hkc hcm hsz k3 k4 ((heap_setCell_other _ _ _ _ (by simpa using hgb)).trans k2)
  · exact chg_set (c1'.mono (G := fun j => j = b ∨ (Value.slice (some ⟨g, 0, none⟩) (k + 1) cap).ownBlock = some j) (G' := fun j => j = b ∨ (Value.slice (some ⟨g, 0, none⟩) (k + 1) cap).ownBlock = some j) (fun j hj => Or.inr (by rw [hj]; rfl)) (fun j hj => Or.inr hj)) (Or.inl (Or.inl rfl)) 4 _
end Go.Proofs.Ytginibphicmmmaa
