/- Merged: Ho. -/
import Derived.Test.YtekoaheiapddiaaGreatY13
section
namespace Go.Proofs.YtekoaheiapddiaaGreat.Dz.Wo
open Go.RowKit Go.Maps Mp

def Wd.new (z : Fz) : Wd := ⟨fun _ => none, [], z⟩
set_option maxRecDepth 100000 in
set_option maxHeartbeats 4000000 in
theorem fresh_c (W : World) : Calls Tryz.prog 66 #[] W fun e W' => e = .returned (.agg #[.map (some (W.heap.size + 1)), .slice none 0 0]) ∧ W' = (W.alloc (.cells #[.map (some (W.heap.size + 1)), .slice none 0 0] 147)).alloc (.map #[] 0) := by
  have hmm := @run_makeMap Tryz.prog
  go_enter Tryz.func66, Tryz.ntmps66
  go_wp2_with fail
  exact bodyPost_ret (results_cell_row Tryz.results66 _ _ _ _ _ _ _ rfl (((Below.refl _ (W.alloc (.cells #[.map (some (W.heap.size + 1)), .slice none 0 0] 147))).alloc (Nat.le_refl _) (.map #[] 0)).block W.heap.size (by simp) |>.trans (heap_alloc_new _ _)) Tryz.underlying147 rfl (by kernel_rfl)) rfl ⟨rfl, rfl⟩
def Sx.new (m : Nat) : Sx := ⟨⟨fun _ => none, fun _ _ => none⟩, [], [], [], m, .slice none 0 0⟩
set_option maxRecDepth 100000 in
set_option maxHeartbeats 4000000 in
theorem wnew_c {d bc N : Nat} {z : Fz} {ff : Nat → Prop} {W : World} (h : FarAt d bc N z ff W) :
    Calls Tryz.prog 26 #[fvOf z bc] W fun e W' => e = .returned (.pointer (some ⟨W.heap.size + 2, 0, none⟩)) ∧ Pw (Wd.new z) (W.heap.size + 2) d bc 0 N (Sx.new (W.heap.size + 1)) ff W' ∧ Chg ff (ftP (Sx.new (W.heap.size + 1)) (W.heap.size + 2) ff) W W' := by
  have M := ((An.start h.ob).alloc (.cells #[.map (some (W.heap.size + 1)), .slice none 0 0] 147)).alloc (.map #[] 0)
  have hm := MapFn.made kitO (W.alloc (.cells #[.map (some (W.heap.size + 1)), .slice none 0 0] 147))
  rw [alloc_size] at hm
  have M2 := M.alloc (worldO (W.heap.size + 1) (.slice none 0 0) (fvOf z bc))
  have hm2 := hm.keep (((Below.refl _ ((W.alloc (.cells #[.map (some (W.heap.size + 1)), .slice none 0 0] 147)).alloc (.map #[] 0))).alloc (Nat.le_refl _) (worldO (W.heap.size + 1) (.slice none 0 0) (fvOf z bc))).block _ hm.lt)
  simp only [alloc_size] at M2
  have HM := Lib.hid (And.intro M2 hm2)
  clear h M M2 hm hm2
  unfold worldO at HM
  unfold worldC at HM
  obtain ⟨fp, hfp⟩ : ∃ fp, fvOf z bc = .pointer fp := by cases z <;> exact ⟨_, rfl⟩
  rw [hfp] at HM ⊢
  have HF := Lib.hid hfp
  clear hfp
  go_enter Tryz.func26, Tryz.ntmps26
  go_wp2_with fail
  refine (fresh_c _).mono ?_
  rintro e V1 ⟨rfl, rfl⟩
  go_wp2_with fail
  go_ret
  obtain ⟨M, hm⟩ := HM.out
  refine ⟨by simp, ⟨⟨(by rw [show (Wd.new z).far = z from rfl, HF.out]; exact M.at (List.mem_cons_self ..)), hm, fun _ hm => (by cases hm), World.ownsRow_nil _ _ _ _, rfl, Nat.le_refl _, fun _ _ _ h1 => (by cases h1), fun m hl => ?_, fun hx => (by cases hx), fun _ hq => (by cases hq)⟩, ⟨rfl, fun _ _ _ _ _ h1 => (by cases h1), trivial⟩, M.ob.it, fun k hk hf => ?_⟩, ?_⟩
  · rcases hl with ⟨_, _, h1, _⟩ | ⟨_, h1, _⟩
    · cases h1
    · cases h1
  · have hlt : k < W.heap.size ∨ W.heap.size ≤ k := by omega
    rcases hk with e | e | e | e | ⟨_, e, _⟩
    · exact (M.box (W.heap.size + 2, _) (List.mem_cons_self ..)).2.2 (by rw [← show k = W.heap.size + 2 from e]; exact hf)
    · exact (M.box (W.heap.size + 1, _) (List.mem_cons_of_mem _ (List.mem_cons_self ..))).2.2 (by rw [← show k = W.heap.size + 1 from e]; exact hf)
    · cases e
    · cases e
    · cases e
  · have c := M.chg
    refine ⟨c.os, c.tape, c.output, c.size, c.block, fun k hk => ?_⟩
    rcases hk with (e | e | e | e | ⟨_, e, _⟩) | e
    · exact Or.inr (by omega)
    · exact Or.inr (by rw [show k = W.heap.size + 1 from e]; omega)
    · cases e
    · cases e
    · cases e
    · exact Or.inl e
end Go.Proofs.YtekoaheiapddiaaGreat.Dz.Wo
end
