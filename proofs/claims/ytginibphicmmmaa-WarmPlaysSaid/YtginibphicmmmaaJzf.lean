/- The reference's Addr, Slot, Made, Gone, HasAddr, HasSlot, Mark. -/
import Derived.Test.YtginibphicmmmaaJze
namespace Go.Proofs.Ytginibphicmmmaa
open Go.RowKit Go.Maps Go.Shelf Mp
section
variable {e : Nat} {rv : Value} {ts : List Value} {fx : List (Nat × Obj)} {M : List Cg} {W : World}
theorem RStep.from {V W' : World} {M' : List Cg} (b : Below W.heap.size W V) (h : RStep e rv fx M' V W') : RStep e rv fx M' W W' := by
  obtain ⟨v, s, f, h1, h2⟩ := h
  exact ⟨v, s, f, h1, (Chg.of_below b).trans h2⟩
set_option maxRecDepth 100000 in
set_option maxHeartbeats 8000000 in
theorem raddr_c (h : RAt e rv ts fx M W) (hM : M.length < 1000000) (a : Nm) :
    Calls Try.prog 30 #[ptr e, .string (str a)] W fun r W' => r = .returned (.bool (M.any (Cg.is 1 a Wq.zero))) ∧ RStep e rv fx (if M.any (Cg.is 1 a Wq.zero) then M else M ++ [.addr a]) W W' := by
  have CH := Lib.hid (ronce_c h hM 1 (by decide) a Wq.zero (.addr a) rfl rfl)
  clear h hM
  skip
  obtain ⟨N, hN⟩ : ∃ N, N = if M.any (Cg.is 1 a Wq.zero) then M else M ++ [.addr a] := ⟨_, rfl⟩
  rw [← hN] at CH ⊢
  clear hN
  unfold ptr wqC at *
  go_enter Try.func30, Try.ntmps30
  go_wp2_with fail
  refine CH.out.mono ?_
  rintro r V1 ⟨rfl, hs⟩
  have HS := Lib.hid hs
  clear hs CH
  go_wp2_with fail
  go_ret
  exact ⟨rfl, HS.out⟩
set_option maxRecDepth 100000 in
set_option maxHeartbeats 8000000 in
theorem rslot_c (h : RAt e rv ts fx M W) (hM : M.length < 1000000) (a : Nm) (k : Wq) :
    Calls Try.prog 32 #[ptr e, .string (str a), .agg (wqC k)] W fun r W' => r = .returned (.bool (M.any (Cg.is 2 a k))) ∧ RStep e rv fx (if M.any (Cg.is 2 a k) then M else M ++ [.slot a k]) W W' := by
  have hb0 := below_new W (.cells (wqC k) 46 (0, 0))
  have hW0 := heap_alloc_new W (.cells (wqC k) 46 (0, 0))
  have y0 := cell_of hW0 0
  have y1 := cell_of hW0 1
  have y2 := cell_of hW0 2
  have y3 := cell_of hW0 3
  unfold wqC at y0 y1 y2 y3
  simp only [List.getElem?_toArray, List.getElem?_cons_zero, List.getElem?_cons_succ] at y0 y1 y2 y3
  have HB := Lib.hid hb0
  have CH := Lib.hid (ronce_c (h.ob.below hb0).it hM 2 (by decide) a k (.slot a k) rfl rfl)
  clear h hM
  clear hb0 hW0
  obtain ⟨N, hN⟩ : ∃ N, N = if M.any (Cg.is 2 a k) then M else M ++ [.slot a k] := ⟨_, rfl⟩
  rw [← hN] at CH ⊢
  clear hN
  unfold ptr wqC at *
  go_enter Try.func32, Try.ntmps32
  go_wp2_with fail
  refine CH.out.mono ?_
  rintro r V1 ⟨rfl, hs⟩
  have HS := Lib.hid hs
  clear hs CH
  go_wp2_with fail
  go_ret
  exact ⟨rfl, RStep.from HB.out HS.out⟩
set_option maxRecDepth 100000 in
set_option maxHeartbeats 8000000 in
theorem rmade_c (h : RAt e rv ts fx M W) (hM : M.length < 1000000) (a : Nm) :
    Calls Try.prog 33 #[ptr e, .string (str a)] W fun r W' => r = .returned (.bool (M.any (Cg.is 3 a Wq.zero))) ∧ RStep e rv fx (if M.any (Cg.is 3 a Wq.zero) then M else M ++ [.made a]) W W' := by
  have CH := Lib.hid (ronce_c h hM 3 (by decide) a Wq.zero (.made a) rfl rfl)
  clear h hM
  skip
  obtain ⟨N, hN⟩ : ∃ N, N = if M.any (Cg.is 3 a Wq.zero) then M else M ++ [.made a] := ⟨_, rfl⟩
  rw [← hN] at CH ⊢
  clear hN
  unfold ptr wqC at *
  go_enter Try.func33, Try.ntmps33
  go_wp2_with fail
  refine CH.out.mono ?_
  rintro r V1 ⟨rfl, hs⟩
  have HS := Lib.hid hs
  clear hs CH
  go_wp2_with fail
  go_ret
  exact ⟨rfl, HS.out⟩
set_option maxRecDepth 100000 in
set_option maxHeartbeats 8000000 in
theorem rgone_c (h : RAt e rv ts fx M W) (hM : M.length < 1000000) (a : Nm) :
    Calls Try.prog 36 #[ptr e, .string (str a)] W fun r W' => r = .returned (.tuple #[]) ∧ RStep e rv fx (if M.any (Cg.is 6 a Wq.zero) then M else M ++ [.gone a]) W W' := by
  have CH := Lib.hid (ronce_c h hM 6 (by decide) a Wq.zero (.gone a) rfl rfl)
  clear h hM
  skip
  obtain ⟨N, hN⟩ : ∃ N, N = if M.any (Cg.is 6 a Wq.zero) then M else M ++ [.gone a] := ⟨_, rfl⟩
  rw [← hN] at CH ⊢
  clear hN
  unfold ptr wqC at *
  go_enter Try.func36, Try.ntmps36
  go_wp2_with fail
  refine CH.out.mono ?_
  rintro r V1 ⟨rfl, hs⟩
  have HS := Lib.hid hs
  clear hs CH
  go_wp2_with fail
  go_end0
  exact ⟨rfl, HS.out⟩
set_option maxRecDepth 100000 in
set_option maxHeartbeats 8000000 in
theorem rhasaddr_c (h : RAt e rv ts fx M W) (hM : M.length < 1000000) (a : Nm) :
    Calls Try.prog 29 #[ptr e, .string (str a)] W fun r W' => r = .returned (.bool (M.any (Cg.is 1 a Wq.zero))) ∧ Below W.heap.size W W' := by
  have CH := Lib.hid (rhas_c h hM 1 (by decide) a Wq.zero)
  clear h hM
  skip
  unfold ptr wqC at *
  go_enter Try.func29, Try.ntmps29
  go_wp2_with fail
  refine CH.out.mono ?_
  rintro r V1 ⟨rfl, hs⟩
  have HS := Lib.hid hs
  clear hs CH
  go_wp2_with fail
  go_ret
  exact ⟨rfl, HS.out⟩
set_option maxRecDepth 100000 in
set_option maxHeartbeats 8000000 in
theorem rhasslot_c (h : RAt e rv ts fx M W) (hM : M.length < 1000000) (a : Nm) (k : Wq) :
    Calls Try.prog 31 #[ptr e, .string (str a), .agg (wqC k)] W fun r W' => r = .returned (.bool (M.any (Cg.is 2 a k))) ∧ Below W.heap.size W W' := by
  have hb0 := below_new W (.cells (wqC k) 46 (0, 0))
  have hW0 := heap_alloc_new W (.cells (wqC k) 46 (0, 0))
  have y0 := cell_of hW0 0
  have y1 := cell_of hW0 1
  have y2 := cell_of hW0 2
  have y3 := cell_of hW0 3
  unfold wqC at y0 y1 y2 y3
  simp only [List.getElem?_toArray, List.getElem?_cons_zero, List.getElem?_cons_succ] at y0 y1 y2 y3
  have HB := Lib.hid hb0
  have CH := Lib.hid (rhas_c (h.ob.below hb0).it hM 2 (by decide) a k)
  clear h hM
  clear hb0 hW0
  unfold ptr wqC at *
  go_enter Try.func31, Try.ntmps31
  go_wp2_with fail
  refine CH.out.mono ?_
  rintro r V1 ⟨rfl, hs⟩
  have HS := Lib.hid hs
  clear hs CH
  go_wp2_with fail
  go_ret
  exact ⟨rfl, HB.out.trans (HS.out.mono HB.out.size)⟩
set_option maxRecDepth 100000 in
theorem rmark_c (h : RAt e rv ts fx M W) : Calls Try.prog 19 #[ptr e] W fun r W' => r = .returned (.int .i64 (M.length : Nat)) ∧ W' = W := by
  obtain ⟨ra, rc, hrv⟩ := own_any h.row
  subst hrv
  have d0 := cell_of h.cell 0
  simp only [List.getElem?_toArray, List.getElem?_cons_zero] at d0
  clear h
  unfold ptr
  go_enter Try.func19, Try.ntmps19
  go_wp2_with fail
  go_ret
  exact ⟨rfl, rfl⟩
end
end Go.Proofs.Ytginibphicmmmaa
