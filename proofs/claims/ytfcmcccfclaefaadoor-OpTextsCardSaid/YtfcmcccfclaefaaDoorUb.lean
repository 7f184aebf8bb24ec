/- The tables of package op, and who lays them (written by genUb.py). -/
import Derived.Test.YtfcmcccfclaefaaDoorUa
import Derived.Carry
namespace Go.Proofs.YtfcmcccfclaefaaDoor
open Go.RowKit Go.Maps Mp

theorem Mt.made (W : World) : Mt W W.heap.size 0 (tab []) (W.alloc (.map #[] 0)) := ⟨(Below.refl _ W).alloc (Nat.le_refl _) _, Nat.le_refl _, MapFn.made kitB W⟩
def tReck : List (Nat × Inf) := [(11, ⟨[83, 73, 71, 78, 69, 88, 84, 69, 78, 68], 5, 2, 1⟩),
  (10, ⟨[69, 88, 80], 10, 2, 1⟩),
  (9, ⟨[77, 85, 76, 77, 79, 68], 8, 3, 1⟩),
  (8, ⟨[65, 68, 68, 77, 79, 68], 8, 3, 1⟩),
  (7, ⟨[83, 77, 79, 68], 5, 2, 1⟩),
  (6, ⟨[77, 79, 68], 5, 2, 1⟩),
  (5, ⟨[83, 68, 73, 86], 5, 2, 1⟩),
  (4, ⟨[68, 73, 86], 5, 2, 1⟩),
  (3, ⟨[83, 85, 66], 3, 2, 1⟩),
  (2, ⟨[77, 85, 76], 5, 2, 1⟩),
  (1, ⟨[65, 68, 68], 3, 2, 1⟩),
  (0, ⟨[83, 84, 79, 80], 0, 0, 0⟩)]
def tComp : List (Nat × Inf) := [(29, ⟨[83, 65, 82], 3, 2, 1⟩),
  (28, ⟨[83, 72, 82], 3, 2, 1⟩),
  (27, ⟨[83, 72, 76], 3, 2, 1⟩),
  (26, ⟨[66, 89, 84, 69], 3, 2, 1⟩),
  (25, ⟨[78, 79, 84], 3, 1, 1⟩),
  (24, ⟨[88, 79, 82], 3, 2, 1⟩),
  (23, ⟨[79, 82], 3, 2, 1⟩),
  (22, ⟨[65, 78, 68], 3, 2, 1⟩),
  (21, ⟨[73, 83, 90, 69, 82, 79], 3, 1, 1⟩),
  (20, ⟨[69, 81], 3, 2, 1⟩),
  (19, ⟨[83, 71, 84], 3, 2, 1⟩),
  (18, ⟨[83, 76, 84], 3, 2, 1⟩),
  (17, ⟨[71, 84], 3, 2, 1⟩),
  (16, ⟨[76, 84], 3, 2, 1⟩)]
def tSurr : List (Nat × Inf) := [(63, ⟨[69, 88, 84, 67, 79, 68, 69, 72, 65, 83, 72], 0, 1, 1⟩),
  (62, ⟨[82, 69, 84, 85, 82, 78, 68, 65, 84, 65, 67, 79, 80, 89], 3, 3, 0⟩),
  (61, ⟨[82, 69, 84, 85, 82, 78, 68, 65, 84, 65, 83, 73, 90, 69], 2, 0, 1⟩),
  (60, ⟨[69, 88, 84, 67, 79, 68, 69, 67, 79, 80, 89], 0, 4, 0⟩),
  (59, ⟨[69, 88, 84, 67, 79, 68, 69, 83, 73, 90, 69], 0, 1, 1⟩),
  (58, ⟨[71, 65, 83, 80, 82, 73, 67, 69], 2, 0, 1⟩),
  (57, ⟨[67, 79, 68, 69, 67, 79, 80, 89], 3, 3, 0⟩),
  (56, ⟨[67, 79, 68, 69, 83, 73, 90, 69], 2, 0, 1⟩),
  (55, ⟨[67, 65, 76, 76, 68, 65, 84, 65, 67, 79, 80, 89], 3, 3, 0⟩),
  (54, ⟨[67, 65, 76, 76, 68, 65, 84, 65, 83, 73, 90, 69], 2, 0, 1⟩),
  (53, ⟨[67, 65, 76, 76, 68, 65, 84, 65, 76, 79, 65, 68], 3, 1, 1⟩),
  (52, ⟨[67, 65, 76, 76, 86, 65, 76, 85, 69], 2, 0, 1⟩),
  (51, ⟨[67, 65, 76, 76, 69, 82], 2, 0, 1⟩),
  (50, ⟨[79, 82, 73, 71, 73, 78], 2, 0, 1⟩),
  (49, ⟨[66, 65, 76, 65, 78, 67, 69], 0, 1, 1⟩),
  (48, ⟨[65, 68, 68, 82, 69, 83, 83], 2, 0, 1⟩)]
def tBloc : List (Nat × Inf) := [(72, ⟨[66, 65, 83, 69, 70, 69, 69], 2, 0, 1⟩),
  (71, ⟨[83, 69, 76, 70, 66, 65, 76, 65, 78, 67, 69], 5, 0, 1⟩),
  (70, ⟨[67, 72, 65, 73, 78, 73, 68], 2, 0, 1⟩),
  (69, ⟨[71, 65, 83, 76, 73, 77, 73, 84], 2, 0, 1⟩),
  (68, ⟨[80, 82, 69, 86, 82, 65, 78, 68, 65, 79], 2, 0, 1⟩),
  (67, ⟨[78, 85, 77, 66, 69, 82], 2, 0, 1⟩),
  (66, ⟨[84, 73, 77, 69, 83, 84, 65, 77, 80], 2, 0, 1⟩),
  (65, ⟨[67, 79, 73, 78, 66, 65, 83, 69], 2, 0, 1⟩),
  (64, ⟨[66, 76, 79, 67, 75, 72, 65, 83, 72], 20, 1, 1⟩)]
def tPlac : List (Nat × Inf) := [(95, ⟨[80, 85, 83, 72, 48], 2, 0, 1⟩),
  (91, ⟨[74, 85, 77, 80, 68, 69, 83, 84], 1, 0, 0⟩),
  (90, ⟨[71, 65, 83], 2, 0, 1⟩),
  (89, ⟨[77, 83, 73, 90, 69], 2, 0, 1⟩),
  (88, ⟨[80, 67], 2, 0, 1⟩),
  (87, ⟨[74, 85, 77, 80, 73], 10, 2, 0⟩),
  (86, ⟨[74, 85, 77, 80], 8, 1, 0⟩),
  (85, ⟨[83, 83, 84, 79, 82, 69], 0, 2, 0⟩),
  (84, ⟨[83, 76, 79, 65, 68], 0, 1, 1⟩),
  (83, ⟨[77, 83, 84, 79, 82, 69, 56], 3, 2, 0⟩),
  (82, ⟨[77, 83, 84, 79, 82, 69], 3, 2, 0⟩),
  (81, ⟨[77, 76, 79, 65, 68], 3, 1, 1⟩),
  (80, ⟨[80, 79, 80], 2, 1, 0⟩)]
def tCall : List (Nat × Inf) := [(255, ⟨[83, 69, 76, 70, 68, 69, 83, 84, 82, 85, 67, 84], 5000, 1, 0⟩),
  (254, ⟨[73, 78, 86, 65, 76, 73, 68], 0, 0, 0⟩),
  (253, ⟨[82, 69, 86, 69, 82, 84], 0, 2, 0⟩),
  (250, ⟨[83, 84, 65, 84, 73, 67, 67, 65, 76, 76], 0, 6, 1⟩),
  (245, ⟨[67, 82, 69, 65, 84, 69, 50], 32000, 4, 1⟩),
  (244, ⟨[68, 69, 76, 69, 71, 65, 84, 69, 67, 65, 76, 76], 0, 6, 1⟩),
  (243, ⟨[82, 69, 84, 85, 82, 78], 0, 2, 0⟩),
  (242, ⟨[67, 65, 76, 76, 67, 79, 68, 69], 0, 7, 1⟩),
  (241, ⟨[67, 65, 76, 76], 0, 7, 1⟩),
  (240, ⟨[67, 82, 69, 65, 84, 69], 32000, 3, 1⟩)]
set_option maxRecDepth 100000 in
set_option maxHeartbeats 4000000 in
theorem reckoning_c (W : World) : Calls Tryd.prog 27 #[] W fun e W' => ∃ m, e = .returned (.map (some m)) ∧ Mt W m 12 (tab tReck) W' := by
  have H := Lib.hid (Mt.made W)
  have hmm := @run_makeMap Tryd.prog
  go_enter Tryd.func27, Tryd.ntmps27
  go_wp2_with (refine wpList_insert_tab H.out (by rfl) _ _ _ (by rfl) (by rfl) (by rfl) (by rfl) (by rfl) (by decide) ?_; clear H; intro V H0; have H := Lib.hid H0; clear H0)
  go_ret
  exact ⟨_, rfl, H.out⟩
set_option maxRecDepth 100000 in
set_option maxHeartbeats 4000000 in
theorem comparing_c (W : World) : Calls Tryd.prog 28 #[] W fun e W' => ∃ m, e = .returned (.map (some m)) ∧ Mt W m 14 (tab tComp) W' := by
  have H := Lib.hid (Mt.made W)
  have hmm := @run_makeMap Tryd.prog
  go_enter Tryd.func28, Tryd.ntmps28
  go_wp2_with (refine wpList_insert_tab H.out (by rfl) _ _ _ (by rfl) (by rfl) (by rfl) (by rfl) (by rfl) (by decide) ?_; clear H; intro V H0; have H := Lib.hid H0; clear H0)
  go_ret
  exact ⟨_, rfl, H.out⟩
set_option maxRecDepth 100000 in
set_option maxHeartbeats 4000000 in
theorem surroundings_c (W : World) : Calls Tryd.prog 29 #[] W fun e W' => ∃ m, e = .returned (.map (some m)) ∧ Mt W m 16 (tab tSurr) W' := by
  have H := Lib.hid (Mt.made W)
  have hmm := @run_makeMap Tryd.prog
  go_enter Tryd.func29, Tryd.ntmps29
  go_wp2_with (refine wpList_insert_tab H.out (by rfl) _ _ _ (by rfl) (by rfl) (by rfl) (by rfl) (by rfl) (by decide) ?_; clear H; intro V H0; have H := Lib.hid H0; clear H0)
  go_ret
  exact ⟨_, rfl, H.out⟩
set_option maxRecDepth 100000 in
set_option maxHeartbeats 4000000 in
theorem blocks_c (W : World) : Calls Tryd.prog 30 #[] W fun e W' => ∃ m, e = .returned (.map (some m)) ∧ Mt W m 9 (tab tBloc) W' := by
  have H := Lib.hid (Mt.made W)
  have hmm := @run_makeMap Tryd.prog
  go_enter Tryd.func30, Tryd.ntmps30
  go_wp2_with (refine wpList_insert_tab H.out (by rfl) _ _ _ (by rfl) (by rfl) (by rfl) (by rfl) (by rfl) (by decide) ?_; clear H; intro V H0; have H := Lib.hid H0; clear H0)
  go_ret
  exact ⟨_, rfl, H.out⟩
set_option maxRecDepth 100000 in
set_option maxHeartbeats 4000000 in
theorem places_c (W : World) : Calls Tryd.prog 31 #[] W fun e W' => ∃ m, e = .returned (.map (some m)) ∧ Mt W m 13 (tab tPlac) W' := by
  have H := Lib.hid (Mt.made W)
  have hmm := @run_makeMap Tryd.prog
  go_enter Tryd.func31, Tryd.ntmps31
  go_wp2_with (refine wpList_insert_tab H.out (by rfl) _ _ _ (by rfl) (by rfl) (by rfl) (by rfl) (by rfl) (by decide) ?_; clear H; intro V H0; have H := Lib.hid H0; clear H0)
  go_ret
  exact ⟨_, rfl, H.out⟩
set_option maxRecDepth 100000 in
set_option maxHeartbeats 4000000 in
theorem calling_c (W : World) : Calls Tryd.prog 38 #[] W fun e W' => ∃ m, e = .returned (.map (some m)) ∧ Mt W m 10 (tab tCall) W' := by
  have H := Lib.hid (Mt.made W)
  have hmm := @run_makeMap Tryd.prog
  go_enter Tryd.func38, Tryd.ntmps38
  go_wp2_with (refine wpList_insert_tab H.out (by rfl) _ _ _ (by rfl) (by rfl) (by rfl) (by rfl) (by rfl) (by decide) ?_; clear H; intro V H0; have H := Lib.hid H0; clear H0)
  go_ret
  exact ⟨_, rfl, H.out⟩
end Go.Proofs.YtfcmcccfclaefaaDoor
