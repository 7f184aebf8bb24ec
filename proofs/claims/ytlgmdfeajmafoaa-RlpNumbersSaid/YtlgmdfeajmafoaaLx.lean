/- Numbers as texts, and back. -/
import Derived.Test.YtlgmdfeajmafoaaLw
import Derived.Test.YtlgmdfeajmafoaaDraw
namespace Go.Proofs.Ytlgmdfeajmafoaa
open Go.RowKit

theorem small_any_c (s : List UInt8) (v : Value) (h : s.length ≤ 8 → s.head? = some 0) (hn : s ≠ []) (w : World) : Calls Try.prog 12 #[.agg #[.bool false, .string (str s), v]] w fun e w' => e = .returned (.tuple #[.int .u64 0, .bool false]) ∧ Below w.heap.size w w' := by
  by_cases hl : s.length ≤ 8
  · have h0 := h hl
    obtain ⟨b, r, rfl⟩ := List.exists_cons_of_ne_nil hn
    obtain rfl : b = 0 := by simpa using h0
    exact small_zero_c _ _ (by rw [str_size]; exact hl) (by rw [str_size]; simp) (by rw [str_get]; rfl) w
  · exact small_long_c _ _ (by rw [str_size]; omega) w
theorem small_num_c (a : Nat) (ha : a < M64) (v : Value) (w : World) : Calls Try.prog 12 #[.agg #[.bool false, .string (str (num a)), v]] w fun e w' => e = .returned (.tuple #[.int .u64 a, .bool true]) ∧ Below w.heap.size w w' := by
  have h := small_ok_c (num a) v (num_length_le (n := a) 8 (by unfold M64 at ha; exact ha)) (fun e => by
    cases hn : num a with
    | nil => rw [hn] at e; cases e
    | cons b r => rw [hn] at e; exact num_head b r hn (by simpa using e)) w
  rwa [val_num] at h
theorem num_eq (x y : Nat) : (((str (num x)).toList == (str (num y)).toList) == ((x : Int) == (y : Int))) = true := by
  rw [ByteArray.toList_eq, ByteArray.toList_eq]
  by_cases h : x = y
  · subst h; simp
  · have h1 : num x ≠ num y := fun e => h (by rw [← val_num x, ← val_num y, e])
    have h2 : ((x : Int) == (y : Int)) = false := beq_eq_false_iff_ne.2 (fun e => h (by omega))
    have h3 : ((str (num x)).data.toList == (str (num y)).data.toList) = false := by simpa [str] using h1
    rw [h2, h3]; rfl
theorem numA_c (n : Nat) (hn : n < M64) (w : World) : Calls Try.prog 19 #[.int .u64 n] w fun e w' => e = .returned (.agg #[.bool false, .string (str (num n)), .slice none 0 0]) ∧ Below w.heap.size w w' := number_c n hn w
theorem list0_c (w : World) : Calls Try.prog 24 #[.slice none 0 0] w fun e w' => ∃ u, e = .returned (.agg #[.bool true, .string ⟨#[]⟩, u]) ∧ Below w.heap.size w w' := by
  refine (list_c (fun _ => False) .nil _ w (Or.inl ⟨rfl, rfl⟩) (fun _ h => h.elim) (by decide)).mono ?_
  rintro e w' ⟨_, rfl, ⟨u, rfl, _⟩, hb⟩
  exact ⟨u, rfl, hb⟩
set_option maxRecDepth 100000 in
set_option maxHeartbeats 4000000 in
theorem numbers_c (x y : Nat) (hx : x < M64) (hy : y < M64) (w : World) : Calls Try.prog 8 #[.int .u64 x, .int .u64 y] w fun e w' => e = .returned (.bool true) ∧ Below w.heap.size w w' := by
  have HX := Lib.hid (And.intro trivial hx)
  have HY := Lib.hid (And.intro trivial hy)
  clear hx hy
  go_enter Try.func8, Try.ntmps8
  go_wp2_with fail
  go_at_call 10
  refine (examples_c _).mono ?_
  rintro e W1 ⟨rfl, hb⟩
  have B1 := Lib.hid hb
  clear hb
  go_wp2_with fail
  go_at_call 19
  refine (numA_c x HX.out.2 _).mono ?_
  rintro e W2 ⟨rfl, hb⟩
  have B2 := Lib.hid (bel_then B1.out hb)
  clear hb B1
  go_wp2_with fail
  go_at_call 12
  refine (small_num_c x HX.out.2 _ _).mono ?_
  rintro e W3 ⟨rfl, hb⟩
  have hblk : W3.heap[W2.heap.size]? = some (.cells #[.bool false, .string (str (num x)), .slice none 0 0] 27 (0, 0)) := (hb.block _ (by simp)).trans (heap_alloc_new _ _)
  have hB := bel_then (bel_then B2.out (bel_al W2 _)) hb
  have B3 := Lib.hid hB
  have c3 := (cells3 hblk).1.2.1
  have K3 := Lib.hid hblk
  clear hb B2 hB hblk
  have hcat : ¬ 9223372036854775807 < 1 + (str (num x)).size := by
    have := num_length_le (n := x) 8 (by have := HX.out.2; unfold M64 at this; exact this)
    rw [str_size]; omega
  go_wp2_with fail
  go_at_call 23
  refine (textA_c _ _).mono ?_
  rintro e W4 ⟨rfl, hb⟩
  have K4 := Lib.hid ((hb.block _ (lt_of K3.out)).trans K3.out)
  have B4 := Lib.hid (bel_then B3.out hb)
  rw [show (⟨#[0]⟩ : ByteArray) ++ str (num x) = str (0 :: num x) from str_append [0] (num x)]
  clear hb B3 K3 hcat c3
  go_wp2_with fail
  go_at_call 12
  refine (small_any_c (0 :: num x) _ (fun _ => rfl) (by simp) _).mono ?_
  rintro e W5 ⟨rfl, hb⟩
  have K5 := Lib.hid ((hb.block _ (lt_of K4.out)).trans K4.out)
  have B5 := Lib.hid (bel_then B4.out hb)
  clear hb B4 K4
  go_wp2_with fail
  go_at_call 23
  refine (textA_c _ _).mono ?_
  rintro e W6 ⟨rfl, hb⟩
  have K6 := Lib.hid ((hb.block _ (lt_of K5.out)).trans K5.out)
  have B6 := Lib.hid (bel_then B5.out hb)
  clear hb B5 K5
  go_wp2_with fail
  go_at_call 12
  refine (small_any_c [49, 50, 51, 52, 53, 54, 55, 56, 57] _ (fun h => absurd h (by decide)) (by simp) _).mono ?_
  rintro e W7 ⟨rfl, hb⟩
  have K7 := Lib.hid ((hb.block _ (lt_of K6.out)).trans K6.out)
  have B7 := Lib.hid (bel_then B6.out hb)
  clear hb B6 K6
  go_wp2_with fail
  go_at_call 24
  refine (list0_c _).mono ?_
  rintro e W8 ⟨u, rfl, hb⟩
  have K8 := Lib.hid ((hb.block _ (lt_of K7.out)).trans K7.out)
  have B8 := Lib.hid (bel_then B7.out hb)
  clear hb B7 K7
  go_wp2_with fail
  go_at_call 12
  refine (small_list_c _ _ _).mono ?_
  rintro e W9 ⟨rfl, hb⟩
  have K9 := Lib.hid ((hb.block _ (lt_of K8.out)).trans K8.out)
  have B9 := Lib.hid (bel_then B8.out hb)
  clear hb B8 K8
  go_wp2_with fail
  have H0 := K9.out
  have hfld : ∀ (b s l : Value) (W : World), (Instr.field 27 (.agg #[b, s, l]) 1).run Try.prog W = .ok s W := fun _ _ _ _ => rfl
  have HS := Lib.hid (fun (V : World) (hV : V.heap[W2.heap.size]? = some (.cells #[.bool false, .string (str (num x)), .slice none 0 0] 27 (0, 0))) => (cell_of hV 1 : V.cell? ⟨W2.heap.size, 1, none⟩ = some (.string (str (num x)))))
  refine Drawn.start (fun V => V.heap[W2.heap.size]? = some (.cells #[.bool false, .string (str (num x)), .slice none 0 0] 27 (0, 0))) (fun _ => false) (by kernel_rfl) ?_
  refine Drawn.take 0 (some 43) (v := ?_) rfl rfl (by kernel_rfl) (by kernel_rfl) (by kernel_rfl) (by kernel_rfl) (by kernel_rfl) rfl (fun _ _ _ h => h) (Or.inl ⟨rfl, ?_⟩) H0 ?_
  rotate_left
  · intro W hW; have hW := HS.out W hW; go_simp; try with_reducible rfl
  simp only [put_list, List.set]
  refine Drawn.take 1 (some 44) (v := ?_) rfl rfl (by kernel_rfl) (by kernel_rfl) (by kernel_rfl) (by kernel_rfl) (by kernel_rfl) rfl (fun _ _ _ h => h) (Or.inl ⟨rfl, ?_⟩) H0 ?_
  rotate_left
  · intro W hW; have hW := HS.out W hW; go_simp; try with_reducible rfl
  simp only [put_list, List.set]
  refine Drawn.take 2 (some 45) (v := ?_) rfl rfl (by kernel_rfl) (by kernel_rfl) (by kernel_rfl) (by kernel_rfl) (by kernel_rfl) rfl (fun _ _ _ h => h) (Or.inl ⟨rfl, ?_⟩) H0 ?_
  rotate_left
  · intro W hW; have hW := HS.out W hW; go_simp; try with_reducible rfl
  simp only [put_list, List.set]
  refine Drawn.take 3 (some 46) (v := ?_) rfl rfl (by kernel_rfl) (by kernel_rfl) (by kernel_rfl) (by kernel_rfl) (by kernel_rfl) rfl (fun _ _ _ h => h) (Or.inl ⟨rfl, ?_⟩) H0 ?_
  rotate_left
  · intro W hW; have hW := HS.out W hW; go_simp; try with_reducible rfl
  simp only [put_list, List.set]
  refine Drawn.take 4 (some 47) (v := ?_) rfl rfl (by kernel_rfl) (by kernel_rfl) (by kernel_rfl) (by kernel_rfl) (by kernel_rfl) rfl (fun _ _ _ h => h) (Or.inl ⟨rfl, ?_⟩) H0 ?_
  rotate_left
  · intro W hW; have hW := HS.out W hW; go_simp; try with_reducible rfl
  simp only [put_list, List.set]
  refine Drawn.take 5 (some 48) (v := ?_) rfl rfl (by kernel_rfl) (by kernel_rfl) (by kernel_rfl) (by kernel_rfl) (by kernel_rfl) rfl (fun _ _ _ h => h) (Or.inl ⟨rfl, ?_⟩) H0 ?_
  rotate_left
  · intro W hW; have hW := HS.out W hW; go_simp; try with_reducible rfl
  simp only [put_list, List.set]
  refine Drawn.take 6 (some 49) (v := ?_) rfl rfl (by kernel_rfl) (by kernel_rfl) (by kernel_rfl) (by kernel_rfl) (by kernel_rfl) rfl (fun _ _ _ h => h) (Or.inl ⟨rfl, ?_⟩) H0 ?_
  rotate_left
  · intro W hW; have hW := HS.out W hW; go_simp; try with_reducible rfl
  simp only [put_list, List.set]
  refine Drawn.take 7 (some 50) (v := ?_) rfl rfl (by kernel_rfl) (by kernel_rfl) (by kernel_rfl) (by kernel_rfl) (by kernel_rfl) rfl (fun _ _ _ h => h) (Or.inl ⟨rfl, ?_⟩) H0 ?_
  rotate_left
  · intro W hW; have hW := HS.out W hW; go_simp; try with_reducible rfl
  simp only [put_list, List.set]
  refine Drawn.take 8 (some 51) (v := ?_) rfl rfl (by kernel_rfl) (by kernel_rfl) (by kernel_rfl) (by kernel_rfl) (by kernel_rfl) rfl (fun _ _ _ h => h) (Or.inl ⟨rfl, ?_⟩) H0 ?_
  rotate_left
  · intro W hW; have hW := HS.out W hW; go_simp; try with_reducible rfl
  simp only [put_list, List.set]
  refine Drawn.take 9 (some 52) (v := ?_) rfl rfl (by kernel_rfl) (by kernel_rfl) (by kernel_rfl) (by kernel_rfl) (by kernel_rfl) rfl (fun _ _ _ h => h) (Or.inl ⟨rfl, ?_⟩) H0 ?_
  rotate_left
  · intro W hW; have hW := HS.out W hW; go_simp; try with_reducible rfl
  simp only [put_list, List.set]
  refine Drawn.take 10 (some 53) (v := ?_) rfl rfl (by kernel_rfl) (by kernel_rfl) (by kernel_rfl) (by kernel_rfl) (by kernel_rfl) rfl (fun _ _ _ h => h) (Or.inl ⟨rfl, ?_⟩) H0 ?_
  rotate_left
  · intro W hW; have hW := HS.out W hW; go_simp; try with_reducible rfl
  simp only [put_list, List.set]
  refine Drawn.take 11 (some 54) (v := ?_) rfl rfl (by kernel_rfl) (by kernel_rfl) (by kernel_rfl) (by kernel_rfl) (by kernel_rfl) rfl (fun _ _ _ h => h) (Or.inl ⟨rfl, ?_⟩) H0 ?_
  rotate_left
  · intro W hW; have hW := HS.out W hW; go_simp; try with_reducible rfl
  simp only [put_list, List.set]
  refine Drawn.take 12 (some 55) (v := ?_) rfl rfl (by kernel_rfl) (by kernel_rfl) (by kernel_rfl) (by kernel_rfl) (by kernel_rfl) rfl (fun _ _ _ h => h) (Or.inl ⟨rfl, ?_⟩) H0 ?_
  rotate_left
  · intro W hW; have hW := HS.out W hW; go_simp; try with_reducible rfl
  simp only [put_list, List.set]
  refine Drawn.take 13 (some 56) (v := ?_) rfl rfl (by kernel_rfl) (by kernel_rfl) (by kernel_rfl) (by kernel_rfl) (by kernel_rfl) rfl (fun _ _ _ h => h) (Or.inl ⟨rfl, ?_⟩) H0 ?_
  rotate_left
  · intro W hW; have hW := HS.out W hW; go_simp; try with_reducible rfl
  simp only [put_list, List.set]
  refine Drawn.take 14 (some 57) (v := ?_) rfl rfl (by kernel_rfl) (by kernel_rfl) (by kernel_rfl) (by kernel_rfl) (by kernel_rfl) rfl (fun _ _ _ h => h) (Or.inl ⟨rfl, ?_⟩) H0 ?_
  rotate_left
  · intro W hW; have hW := HS.out W hW; go_simp; try with_reducible rfl
  simp only [put_list, List.set]
  refine Drawn.take 15 (some 58) (v := ?_) rfl rfl (by kernel_rfl) (by kernel_rfl) (by kernel_rfl) (by kernel_rfl) (by kernel_rfl) rfl (fun _ _ _ h => h) (Or.inl ⟨rfl, ?_⟩) H0 ?_
  rotate_left
  · intro W hW; have hW := HS.out W hW; go_simp; try with_reducible rfl
  simp only [put_list, List.set]
  refine Drawn.take 16 (some 59) (v := ?_) rfl rfl (by kernel_rfl) (by kernel_rfl) (by kernel_rfl) (by kernel_rfl) (by kernel_rfl) rfl (fun _ _ _ h => h) (Or.inl ⟨rfl, ?_⟩) H0 ?_
  rotate_left
  · intro W hW; have hW := HS.out W hW; go_simp; try with_reducible rfl
  simp only [put_list, List.set]
  refine Drawn.take 17 (some 60) (v := ?_) rfl rfl (by kernel_rfl) (by kernel_rfl) (by kernel_rfl) (by kernel_rfl) (by kernel_rfl) rfl (fun _ _ _ h => h) (Or.inl ⟨rfl, ?_⟩) H0 ?_
  rotate_left
  · intro W hW; have hW := HS.out W hW; go_simp; try with_reducible rfl
  simp only [put_list, List.set]
  refine Drawn.take 18 (some 61) (v := ?_) rfl rfl (by kernel_rfl) (by kernel_rfl) (by kernel_rfl) (by kernel_rfl) (by kernel_rfl) rfl (fun _ _ _ h => h) (Or.inl ⟨rfl, ?_⟩) H0 ?_
  rotate_left
  · intro W hW; have hW := HS.out W hW; go_simp; try with_reducible rfl
  simp only [put_list, List.set]
  refine Drawn.take 19 (some 62) (v := ?_) rfl rfl (by kernel_rfl) (by kernel_rfl) (by kernel_rfl) (by kernel_rfl) (by kernel_rfl) rfl (fun _ _ _ h => h) (Or.inl ⟨rfl, ?_⟩) H0 ?_
  rotate_left
  · intro W hW; have hW := HS.out W hW; go_simp; try with_reducible rfl
  simp only [put_list, List.set]
  refine Drawn.take 20 (some 63) (v := ?_) rfl rfl (by kernel_rfl) (by kernel_rfl) (by kernel_rfl) (by kernel_rfl) (by kernel_rfl) rfl (fun _ _ _ h => h) (Or.inl ⟨rfl, ?_⟩) H0 ?_
  rotate_left
  · intro W hW; have hW := HS.out W hW; go_simp; try with_reducible rfl
  simp only [put_list, List.set]
  refine Drawn.take 21 (some 64) (v := ?_) rfl rfl (by kernel_rfl) (by kernel_rfl) (by kernel_rfl) (by kernel_rfl) (by kernel_rfl) rfl (fun _ _ _ h => h) (Or.inl ⟨rfl, ?_⟩) H0 ?_
  rotate_left
  · intro W hW; have hW := HS.out W hW; go_simp; try with_reducible rfl
  simp only [put_list, List.set]
  refine Drawn.take 22 (some 65) (v := ?_) rfl rfl (by kernel_rfl) (by kernel_rfl) (by kernel_rfl) (by kernel_rfl) (by kernel_rfl) rfl (fun _ _ _ h => h) (Or.inl ⟨rfl, ?_⟩) H0 ?_
  rotate_left
  · intro W hW; have hW := HS.out W hW; go_simp; try with_reducible rfl
  simp only [put_list, List.set]
  refine Drawn.take 23 (some 66) (v := ?_) rfl rfl (by kernel_rfl) (by kernel_rfl) (by kernel_rfl) (by kernel_rfl) (by kernel_rfl) rfl (fun _ _ _ h => h) (Or.inl ⟨rfl, ?_⟩) H0 ?_
  rotate_left
  · intro W hW; have hW := HS.out W hW; go_simp; try with_reducible rfl
  simp only [put_list, List.set]
  refine Drawn.take 24 (some 67) (v := ?_) rfl rfl (by kernel_rfl) (by kernel_rfl) (by kernel_rfl) (by kernel_rfl) (by kernel_rfl) rfl (fun _ _ _ h => h) (Or.inl ⟨rfl, ?_⟩) H0 ?_
  rotate_left
  · intro W hW; have hW := HS.out W hW; go_simp; try with_reducible rfl
  simp only [put_list, List.set]
  refine Drawn.take 28 (some 71) (v := ?_) rfl rfl (by kernel_rfl) (by kernel_rfl) (by kernel_rfl) (by kernel_rfl) (by kernel_rfl) rfl (fun _ _ _ h => h) (Or.inl ⟨rfl, ?_⟩) H0 ?_
  rotate_left
  · intro W hW; have hW := HS.out W hW; go_simp; try with_reducible rfl
  simp only [put_list, List.set]
  refine Drawn.take 29 (some 72) (v := ?_) rfl rfl (by kernel_rfl) (by kernel_rfl) (by kernel_rfl) (by kernel_rfl) (by kernel_rfl) rfl (fun _ _ _ h => h) (Or.inl ⟨rfl, ?_⟩) H0 ?_
  rotate_left
  · intro W hW; have hW := HS.out W hW; go_simp; try with_reducible rfl
  simp only [put_list, List.set]
  refine Drawn.take 30 (some 73) (v := ?_) rfl rfl (by kernel_rfl) (by kernel_rfl) (by kernel_rfl) (by kernel_rfl) (by kernel_rfl) rfl (fun _ _ _ h => h) (Or.inl ⟨rfl, ?_⟩) H0 ?_
  rotate_left
  · intro W hW; have hW := HS.out W hW; go_simp; try with_reducible rfl
  simp only [put_list, List.set]
  refine Drawn.only 25 (by kernel_rfl) rfl rfl (fun K hK => ?_)
  go_simp
  refine (numA_c y HY.out.2 _).mono ?_
  rintro e W10 ⟨rfl, hb⟩
  have H0 := (hb.block _ (lt_of H0)).trans H0
  have B10 := Lib.hid (B9.out.drew.trans (hb.mono B9.out.drew.size))
  refine hK _ _ (fun _ _ => H0) ?_
  clear hK K hb B9
  try simp only [put_list, List.set]
  refine Drawn.take 26 (some 69) (v := .string (str (num y))) rfl rfl (by kernel_rfl) (by kernel_rfl) (by kernel_rfl) (by kernel_rfl) (by kernel_rfl) rfl (fun _ _ _ h => h) (Or.inl ⟨rfl, ?_⟩) H0 ?_
  · intro W hW; have hW := HS.out W hW; go_simp
  simp only [put_list, List.set]
  refine Drawn.take 27 (some 70) (v := ?_) rfl rfl (by kernel_rfl) (by kernel_rfl) (by kernel_rfl) (by kernel_rfl) (by kernel_rfl) rfl (fun _ _ _ h => h) (Or.inl ⟨rfl, ?_⟩) H0 ?_
  rotate_left
  · intro W hW; have hW := HS.out W hW; go_simp; try with_reducible rfl
  simp only [put_list, List.set]
  refine Drawn.take 31 (some 74) (v := ?_) rfl rfl (by kernel_rfl) (by kernel_rfl) (by kernel_rfl) (by kernel_rfl) (by kernel_rfl) rfl (fun _ _ _ h => h) (Or.inl ⟨rfl, ?_⟩) H0 ?_
  rotate_left
  · intro W hW; have hW := HS.out W hW; go_simp; try with_reducible rfl
  simp only [put_list, List.set]
  refine Drawn.take 32 (some 75) (v := ?_) rfl rfl (by kernel_rfl) (by kernel_rfl) (by kernel_rfl) (by kernel_rfl) (by kernel_rfl) rfl (fun _ _ _ h => h) (Or.inl ⟨rfl, ?_⟩) H0 ?_
  rotate_left
  · intro W hW; have hW := HS.out W hW; go_simp; try with_reducible rfl
  simp only [put_list, List.set]
  refine Drawn.take 33 (some 4) (v := ?_) rfl rfl (by kernel_rfl) (by kernel_rfl) (by kernel_rfl) (by kernel_rfl) (by kernel_rfl) rfl (fun _ _ _ h => h) (Or.inl ⟨rfl, ?_⟩) H0 ?_
  rotate_left
  · intro W hW; have hW := HS.out W hW; go_simp; try with_reducible rfl
  simp only [put_list, List.set]
  refine Drawn.done (by kernel_rfl) ?_ _
  clear HS hfld
  go_wp2_with fail
  go_ret
  have hq : (((str (num x)).toList == (str (num y)).toList) == ((x : Int) == (y : Int))) = true := num_eq x y
  exact ⟨congrArg (fun b => Ending.returned (Value.bool b)) hq, B10.out⟩
end Go.Proofs.Ytlgmdfeajmafoaa
