/- The reference's Back. -/
import Derived.Test.YtginibphicmmmaaJzg
namespace Go.Proofs.Ytginibphicmmmaa
open Go.RowKit Go.Maps Go.Shelf Mp
section
variable {e : Nat} {rv : Value} {ts : List Value} {fx : List (Nat × Obj)} {M : List Cg} {W : World}
theorem RAt.cut {ra : Option Addr} {n rc m : Nat} (h : RAt e (.slice ra n rc) ts fx M W) (hm : m ≤ M.length) :
    RAt e (.slice ra m rc) (ts.take m) fx (M.take m) (W.setCell ⟨e, 0, none⟩ (.slice ra m rc)) ∧ Chg (rF e (.slice ra n rc) fx) (rF e (.slice ra m rc) fx) W (W.setCell ⟨e, 0, none⟩ (.slice ra m rc)) := by
  have hl : (M.take m).length = m := by rw [List.length_take]; omega
  have ho : (Value.slice ra m rc).ownBlock = (Value.slice ra n rc).ownBlock := by cases ra <;> rfl
  have hrow : W.ownsRow 0 71 10 (.slice ra m rc) (M.take m).length (chCells (M.take m) (ts.take m)) := by
    rw [hl, ← chCells_take h.tops.len hm]
    rcases h.row.2 with ⟨e1, e2⟩ | ⟨g, cap, cur, e1, h0, hg, h1, h2, h3, h4⟩
    · injection e1 with e1 _ e3
      subst e1 e3
      obtain rfl : m = 0 := by omega
      exact ⟨by simp, Or.inl ⟨rfl, rfl⟩⟩
    · injection e1 with e1 _ e3
      subst e1 e3
      exact row_less h0 h4 hm h1 h2 h3 rfl (fun _ _ => rfl) hg
  refine ⟨⟨?_, own_keep hrow fun k hk => heap_setCell_other _ _ _ _ ?_, h.tops.take m, fun p hp => ⟨(heap_setCell_other _ _ _ _ (by simpa using (h.fix p hp).2.1)).trans (h.fix p hp).1, (h.fix p hp).2.1, by rw [ho]; exact (h.fix p hp).2.2⟩⟩, ?_⟩
  · have h2 := heap_setCell_same _ _ 0 _ _ (.slice ra m rc) h.cell
    simpa [setC] using h2
  · have hne : k ≠ e := fun e1 => h.row_ne (by rw [← ho, hk, e1])
    simpa using hne
  · have hC := chg_set (Chg.refl (rF e (.slice ra n rc) fx) W) (q := e) (Or.inl (Or.inl rfl)) 0 (.slice ra m rc)
    exact ⟨hC.os, hC.tape, hC.output, hC.size, hC.block, fun k hk => Or.inl (hk.elim Or.inl fun hk => Or.inr (hk.elim (fun hk => Or.inl (ho ▸ hk)) Or.inr))⟩
set_option maxRecDepth 100000 in
set_option maxHeartbeats 8000000 in
theorem rback_c (h : RAt e rv ts fx M W) (n : Int) : Calls Try.prog 37 #[ptr e, .int .i64 n] W fun r W' => ∃ m, (m = if 0 ≤ n ∧ n ≤ (M.length : Int) then true else false) ∧ r = .returned (.bool m) ∧ RStep e rv fx (if m then M.take n.toNat else M) W W' := by
  obtain ⟨ra, rc, hrv⟩ := own_any h.row
  obtain ⟨nM, hnM⟩ : ∃ nM, nM = M.length := ⟨_, rfl⟩
  rw [← hnM] at hrv ⊢
  subst hrv
  have hcap : nM ≤ rc := by
    rcases h.row.2 with ⟨e1, e2⟩ | ⟨g, cap, cur, e1, h0, hg, h1, h2, h3, h4⟩
    · omega
    · injection e1 with _ _ e3; omega
  have HH := Lib.hid (And.intro h hnM)
  have d0 := cell_of h.cell 0
  have f0 := free_of h.cell 0
  simp only [List.getElem?_toArray, List.getElem?_cons_zero] at d0
  obtain ⟨P, hP⟩ : ∃ P : Ending → World → Prop, P = fun r W' => ∃ m, (m = if 0 ≤ n ∧ n ≤ (nM : Int) then true else false) ∧ r = .returned (.bool m) ∧ RStep e (.slice ra nM rc) fx (if m then M.take n.toNat else M) W W' := ⟨_, rfl⟩
  rw [← hP]
  have HP := Lib.hid hP
  clear h hnM hP
  unfold ptr
  by_cases hneg : n < 0
  · have HX := Lib.hid hneg
    clear hcap f0
    go_enter Try.func37, Try.ntmps37
    go_wp2_with fail
    rw [HP.out]
    exact ⟨false, (if_neg fun hh => absurd HX.out (Int.not_lt.2 hh.1)).symm, rfl, _, _, _, HH.out.1, Chg.refl _ _⟩
  · by_cases hbig : (nM : Int) < n
    · have HX := Lib.hid hbig
      clear hcap f0
      go_enter Try.func37, Try.ntmps37
      go_wp2_with fail
      rw [HP.out]
      exact ⟨false, (if_neg fun hh => absurd HX.out (Int.not_lt.2 hh.2)).symm, rfl, _, _, _, HH.out.1, Chg.refl _ _⟩
    · obtain ⟨m, rfl⟩ : ∃ m : Nat, n = (m : Int) := ⟨n.toNat, by omega⟩
      have hm : m ≤ nM := by omega
      have HX := Lib.hid hm
      have hmi : (m : Int) ≤ (rc : Int) := by omega
      have hmn : (m : Int).toNat = m := rfl
      clear hneg
      have hneg : ¬ ((m : Int) < 0) := by omega
      clear hm hcap
      go_enter Try.func37, Try.ntmps37
      go_wp2_with fail
      rw [HP.out]
      have F := HH.out.1.cut (m := m) (by rw [← HH.out.2]; exact HX.out)
      exact ⟨true, (if_pos ⟨hneg, hbig⟩).symm, rfl, _, _, _, F.1, F.2⟩
end
end Go.Proofs.Ytginibphicmmmaa
