/- CrcParts: a text may be summed in two parts. -/
import Derived.Test.YtldnjjaadbdbeaaCf
namespace Go.Proofs.Ytldnjjaadbdbeaa
open Go.RowKit

theorem sum_parts {s : ByteArray} {k : Nat} (hk : k ≤ s.size) : moreN (sumN (s.extract 0 k)) (byteAt (s.extract k s.size)) (s.extract k s.size).size = sumN s := by
  have e1 : (s.extract 0 k).size = k := by rw [ByteArray.size_extract]; omega
  have e2 : (s.extract k s.size).size = s.size - k := by rw [ByteArray.size_extract]; omega
  unfold sumN
  rw [e1, e2]
  have h1 : moreN 0 (byteAt (s.extract 0 k)) k = moreN 0 (byteAt s) k := by
    unfold moreN
    rw [cf_congr fun j hj => by rw [byteAt_extract _ _ _ _ (by omega), Nat.zero_add]]
  have h2 : ∀ x, moreN x (byteAt (s.extract k s.size)) (s.size - k) = moreN x (fun j => byteAt s (k + j)) (s.size - k) := fun x => by
    unfold moreN
    rw [cf_congr fun j hj => byteAt_extract _ _ _ _ (by omega)]
  rw [h1, h2, moreN_add, show k + (s.size - k) = s.size by omega]
theorem sum_more_nil (s : ByteArray) : moreN (sumN s) (byteAt ⟨#[]⟩) (ByteArray.size ⟨#[]⟩) = sumN s := moreN_zero _ _

/-- Where a text is parted. -/
theorem place {s : ByteArray} (hs : s.size ≤ maxLen) {a : Nat} (ha : a < 65536) : ∃ (m : Int) (k : Nat), wrap64 ((s.size : Int) + 1) = m ∧ k ≤ s.size ∧ (a : Int) % m = (k : Int) ∧ ¬ m = 0 := by
  unfold maxLen at hs
  unfold wrap64
  by_cases h : s.size = 9223372036854775807
  · refine ⟨-9223372036854775808, a, by rw [h]; decide, by omega, ?_, by decide⟩
    rw [Int.emod_neg]
    exact Int.emod_eq_of_lt (by omega) (by omega)
  · refine ⟨(s.size : Int) + 1, a % (s.size + 1), by omega, ?_, by simp, by omega⟩
    have := Nat.mod_lt a (show 0 < s.size + 1 by omega); omega

set_option maxRecDepth 100000 in
set_option maxHeartbeats 4000000 in
theorem crcParts_c {s : ByteArray} (hs : s.size ≤ maxLen) {a : Nat} (ha : a < 65536) (w : World) :
    Calls Try.prog 4 #[.string s, .int .u16 a] w fun e w' => e = .returned (.bool true) ∧ Below w.heap.size w w' := by
  obtain ⟨m, k, hmw, hk, ht, hm0⟩ := place hs ha
  have hwa : IntKind.i64.wrap (a : Int) = (a : Int) := IntWalk.i64_in _ (by omega)
  have C1 := Lib.hid (fun W => sum_c hs W)
  have C2 := Lib.hid (fun W => sum_c (s := s.extract 0 k) (by rw [ByteArray.size_extract]; omega) W)
  have C3 := Lib.hid (fun W => more_c (sumN_lt (s.extract 0 k)) (s := s.extract k s.size) (by rw [ByteArray.size_extract]; omega) W)
  have C4 := Lib.hid (fun W => more_c (sumN_lt s) (s := ⟨#[]⟩) (by decide) W)
  rw [sum_parts hk] at C3
  rw [sum_more_nil] at C4
  generalize sumN (s.extract 0 k) = x2 at *
  generalize sumN s = x1 at *
  have hki : (0 : Int) ≤ (k : Int) ∧ (k : Int) ≤ (s.size : Int) := by omega
  clear hs ha
  go_enter Try.func4, Try.ntmps4
  go_wp2_with fail
  go_at_call 8
  refine (head_c _).mono ?_
  rintro e w1 ⟨rfl, h1⟩
  have H1 := Lib.hid h1; clear h1
  go_wp2_with fail
  have H0 := (show Fr w w.heap.size w.heap.size [] w1 from ⟨H1.out, Nat.le_refl _, H1.out.size, by simp⟩).drew
  have HS := Lib.hid (fun (V : World) (_ : Fr w w.heap.size w.heap.size [] V) => trivial)
  try simp only [put_none]
  refine Drawn.start (Fr w w.heap.size w.heap.size []) (fun _ => false) (by kernel_rfl) ?_
  refine Drawn.take 0 (some 16) (v := ?_) rfl rfl (by kernel_rfl) (by kernel_rfl) (by kernel_rfl) (by kernel_rfl) (by kernel_rfl) rfl (fun _ _ _ h => h) (Or.inl ⟨rfl, ?_⟩) H0 ?_
  rotate_left
  · intro W hW; have hW := HS.out W hW; go_simp; try with_reducible rfl
  simp only [put_list, List.set]
  refine Drawn.take 1 (some 17) (v := ?_) rfl rfl (by kernel_rfl) (by kernel_rfl) (by kernel_rfl) (by kernel_rfl) (by kernel_rfl) rfl (fun _ _ _ h => h) (Or.inl ⟨rfl, ?_⟩) H0 ?_
  rotate_left
  · intro W hW; have hW := HS.out W hW; go_simp; try with_reducible rfl
  simp only [put_list, List.set]
  refine Drawn.take 2 (some 18) (v := ?_) rfl rfl (by kernel_rfl) (by kernel_rfl) (by kernel_rfl) (by kernel_rfl) (by kernel_rfl) rfl (fun _ _ _ h => h) (Or.inl ⟨rfl, ?_⟩) H0 ?_
  rotate_left
  · intro W hW; have hW := HS.out W hW; go_simp; try with_reducible rfl
  simp only [put_list, List.set]
  refine Drawn.take 3 (some 19) (v := ?_) rfl rfl (by kernel_rfl) (by kernel_rfl) (by kernel_rfl) (by kernel_rfl) (by kernel_rfl) rfl (fun _ _ _ h => h) (Or.inl ⟨rfl, ?_⟩) H0 ?_
  rotate_left
  · intro W hW; have hW := HS.out W hW; go_simp; try with_reducible rfl
  simp only [put_list, List.set]
  refine Drawn.take 4 (some 20) (v := ?_) rfl rfl (by kernel_rfl) (by kernel_rfl) (by kernel_rfl) (by kernel_rfl) (by kernel_rfl) rfl (fun _ _ _ h => h) (Or.inl ⟨rfl, ?_⟩) H0 ?_
  rotate_left
  · intro W hW; have hW := HS.out W hW; go_simp; try with_reducible rfl
  simp only [put_list, List.set]
  refine Drawn.take 6 (some 22) (v := ?_) rfl rfl (by kernel_rfl) (by kernel_rfl) (by kernel_rfl) (by kernel_rfl) (by kernel_rfl) rfl (fun _ _ _ h => h) (Or.inl ⟨rfl, ?_⟩) H0 ?_
  rotate_left
  · intro W hW; have hW := HS.out W hW; go_simp; try with_reducible rfl
  simp only [put_list, List.set]
  refine Drawn.take 7 (some 23) (v := ?_) rfl rfl (by kernel_rfl) (by kernel_rfl) (by kernel_rfl) (by kernel_rfl) (by kernel_rfl) rfl (fun _ _ _ h => h) (Or.inl ⟨rfl, ?_⟩) H0 ?_
  rotate_left
  · intro W hW; have hW := HS.out W hW; go_simp; try with_reducible rfl
  simp only [put_list, List.set]
  refine Drawn.take 8 (some 24) (v := ?_) rfl rfl (by kernel_rfl) (by kernel_rfl) (by kernel_rfl) (by kernel_rfl) (by kernel_rfl) rfl (fun _ _ _ h => h) (Or.inl ⟨rfl, ?_⟩) H0 ?_
  rotate_left
  · intro W hW; have hW := HS.out W hW; go_simp; try with_reducible rfl
  simp only [put_list, List.set]
  refine Drawn.take 10 (some 26) (v := ?_) rfl rfl (by kernel_rfl) (by kernel_rfl) (by kernel_rfl) (by kernel_rfl) (by kernel_rfl) rfl (fun _ _ _ h => h) (Or.inl ⟨rfl, ?_⟩) H0 ?_
  rotate_left
  · intro W hW; have hW := HS.out W hW; go_simp; try with_reducible rfl
  simp only [put_list, List.set]
  refine Drawn.only 5 (by kernel_rfl) rfl rfl (fun K hK => ?_)
  go_simp
  refine (C2.out _).mono ?_
  rintro e w9 ⟨rfl, hb⟩
  refine hK _ _ (fun _ _ => H0.call hb) ?_
  replace H0 := H0.call hb
  clear hK K hb
  try simp only [put_list, List.set]
  refine Drawn.only 9 (by kernel_rfl) rfl rfl (fun K hK => ?_)
  go_simp
  refine (C3.out _).mono ?_
  rintro e w9 ⟨rfl, hb⟩
  refine hK _ _ (fun _ _ => H0.call hb) ?_
  replace H0 := H0.call hb
  clear hK K hb
  try simp only [put_list, List.set]
  refine Drawn.only 11 (by kernel_rfl) rfl rfl (fun K hK => ?_)
  go_simp
  refine (C1.out _).mono ?_
  rintro e w9 ⟨rfl, hb⟩
  refine hK _ _ (fun _ _ => H0.call hb) ?_
  replace H0 := H0.call hb
  clear hK K hb
  try simp only [put_list, List.set]
  refine Drawn.take 12 (some 28) (v := ?_) rfl rfl (by kernel_rfl) (by kernel_rfl) (by kernel_rfl) (by kernel_rfl) (by kernel_rfl) rfl (fun _ _ _ h => h) (Or.inl ⟨rfl, ?_⟩) H0 ?_
  rotate_left
  · intro W hW; have hW := HS.out W hW; go_simp; try with_reducible rfl
  simp only [put_list, List.set]
  refine Drawn.take 13 (some 29) (v := ?_) rfl rfl (by kernel_rfl) (by kernel_rfl) (by kernel_rfl) (by kernel_rfl) (by kernel_rfl) rfl (fun _ _ _ h => h) (Or.inl ⟨rfl, ?_⟩) H0 ?_
  rotate_left
  · intro W hW; have hW := HS.out W hW; go_simp; try with_reducible rfl
  simp only [put_list, List.set]
  refine Drawn.take 14 (some 30) (v := ?_) rfl rfl (by kernel_rfl) (by kernel_rfl) (by kernel_rfl) (by kernel_rfl) (by kernel_rfl) rfl (fun _ _ _ h => h) (Or.inl ⟨rfl, ?_⟩) H0 ?_
  rotate_left
  · intro W hW; have hW := HS.out W hW; go_simp; try with_reducible rfl
  simp only [put_list, List.set]
  refine Drawn.take 15 (some 31) (v := ?_) rfl rfl (by kernel_rfl) (by kernel_rfl) (by kernel_rfl) (by kernel_rfl) (by kernel_rfl) rfl (fun _ _ _ h => h) (Or.inl ⟨rfl, ?_⟩) H0 ?_
  rotate_left
  · intro W hW; have hW := HS.out W hW; go_simp; try with_reducible rfl
  simp only [put_list, List.set]
  refine Drawn.take 18 (some 34) (v := ?_) rfl rfl (by kernel_rfl) (by kernel_rfl) (by kernel_rfl) (by kernel_rfl) (by kernel_rfl) rfl (fun _ _ _ h => h) (Or.inl ⟨rfl, ?_⟩) H0 ?_
  rotate_left
  · intro W hW; have hW := HS.out W hW; go_simp; try with_reducible rfl
  simp only [put_list, List.set]
  refine Drawn.only 16 (by kernel_rfl) rfl rfl (fun K hK => ?_)
  go_simp
  refine (C1.out _).mono ?_
  rintro e w9 ⟨rfl, hb⟩
  refine hK _ _ (fun _ _ => H0.call hb) ?_
  replace H0 := H0.call hb
  clear hK K hb
  try simp only [put_list, List.set]
  refine Drawn.only 17 (by kernel_rfl) rfl rfl (fun K hK => ?_)
  go_simp
  refine (C4.out _).mono ?_
  rintro e w9 ⟨rfl, hb⟩
  refine hK _ _ (fun _ _ => H0.call hb) ?_
  replace H0 := H0.call hb
  clear hK K hb
  try simp only [put_list, List.set]
  refine Drawn.only 19 (by kernel_rfl) rfl rfl (fun K hK => ?_)
  go_simp
  refine (C1.out _).mono ?_
  rintro e w9 ⟨rfl, hb⟩
  refine hK _ _ (fun _ _ => H0.call hb) ?_
  replace H0 := H0.call hb
  clear hK K hb
  try simp only [put_list, List.set]
  refine Drawn.take 20 (some 36) (v := ?_) rfl rfl (by kernel_rfl) (by kernel_rfl) (by kernel_rfl) (by kernel_rfl) (by kernel_rfl) rfl (fun _ _ _ h => h) (Or.inl ⟨rfl, ?_⟩) H0 ?_
  rotate_left
  · intro W hW; have hW := HS.out W hW; go_simp; try with_reducible rfl
  simp only [put_list, List.set]
  refine Drawn.take 21 (some 37) (v := ?_) rfl rfl (by kernel_rfl) (by kernel_rfl) (by kernel_rfl) (by kernel_rfl) (by kernel_rfl) rfl (fun _ _ _ h => h) (Or.inl ⟨rfl, ?_⟩) H0 ?_
  rotate_left
  · intro W hW; have hW := HS.out W hW; go_simp; try with_reducible rfl
  simp only [put_list, List.set]
  refine Drawn.take 22 (some 4) (v := ?_) rfl rfl (by kernel_rfl) (by kernel_rfl) (by kernel_rfl) (by kernel_rfl) (by kernel_rfl) rfl (fun _ _ _ h => h) (Or.inl ⟨rfl, ?_⟩) H0 ?_
  rotate_left
  · intro W hW; have hW := HS.out W hW; go_simp; try with_reducible rfl
  simp only [put_list, List.set]
  refine Drawn.done (by kernel_rfl) ?_ _
  go_wp2_with fail
  go_ret
  exact ⟨rfl, H0.below⟩
end Go.Proofs.Ytldnjjaadbdbeaa
