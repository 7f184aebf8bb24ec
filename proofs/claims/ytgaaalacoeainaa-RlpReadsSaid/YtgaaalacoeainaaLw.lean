/- What stands ahead of each statement. -/
import Derived.Test.YtgaaalacoeainaaLv
import Derived.Test.YtgaaalacoeainaaLs
import Derived.Test.YtgaaalacoeainaaLr
import Derived.Test.YtgaaalacoeainaaLg
namespace Go.Proofs.Ytgaaalacoeainaa
open Go.RowKit

theorem bel_then {A B C : World} (h1 : Below A.heap.size A B) (h2 : Below B.heap.size B C) : Below A.heap.size A C := h1.trans (h2.mono h1.size)
theorem bel_al (A : World) (o : Obj) : Below A.heap.size A (A.alloc o) := (Below.refl _ _).alloc (Nat.le_refl _) _
def cat : Fo := .text [99, 97, 116] (.text [100, 111, 103] .nil)
theorem dec_cat : decP [200, 131, 99, 97, 116, 131, 100, 111, 103] = some (.list cat .nil) := by kernel_rfl
theorem dec_five : decP [129, 5] = none := by kernel_rfl
theorem cat_enc : (It.list cat).enc = [200, 131, 99, 97, 116, 131, 100, 111, 103] := by kernel_rfl
theorem cat_sho : (It.list cat).sho = [91, 34, 54, 51, 54, 49, 55, 52, 34, 32, 34, 54, 52, 54, 102, 54, 55, 34, 93] := by kernel_rfl
theorem num_1024 : num 1024 = [4, 0] := by
  rw [num_pos (by decide), show 1024 / 256 = 4 from rfl, num_pos (by decide), show 4 / 256 = 0 from rfl, num_zero]
  rfl
theorem dec1_c (w : World) : Calls Try.prog 21 #[.string ⟨#[200, 131, 99, 97, 116, 131, 100, 111, 103]⟩] w fun e w' => ∃ b s a n c, e = .returned (.tuple #[.agg #[.bool b, .string s, .slice a n c], .int .i64 0]) ∧ ItV (fun k => w.heap.size ≤ k ∧ k < w'.heap.size) (.list cat) (.agg #[.bool b, .string s, .slice a n c]) w' ∧ Below w.heap.size w w' := by
  refine (decode_c [200, 131, 99, 97, 116, 131, 100, 111, 103] w).mono ?_
  rintro e w' ⟨hb, h⟩
  rw [if_neg (by decide), dec_cat] at h
  obtain ⟨x, v, hx, he, hv⟩ := h
  cases x with
  | text s => cases hx
  | list i =>
    have : i = cat := by injection hx with h _; exact h.symm
    subst this
    obtain ⟨b, s, a, n, c, rfl⟩ := hv.form
    exact ⟨b, s, a, n, c, he, hv, hb⟩
theorem dec2_c (w : World) : Calls Try.prog 21 #[.string ⟨#[129, 5]⟩] w fun e w' => e = .returned (.tuple #[.agg #[.bool false, .string ⟨#[]⟩, .slice none 0 0], .int .i64 2]) ∧ Below w.heap.size w w' := by
  refine (decode_c [129, 5] w).mono ?_
  rintro e w' ⟨hb, h⟩
  rw [if_neg (by decide), dec_five] at h
  exact ⟨h, hb⟩
theorem num1_c (w : World) : Calls Try.prog 19 #[.int .u64 1024] w fun e w' => e = .returned (.agg #[.bool false, .string (str [4, 0]), .slice none 0 0]) ∧ Below w.heap.size w w' := by
  have h := number_c 1024 (by decide) w
  rw [num_1024] at h
  exact h
theorem small1_c (w : World) : Calls Try.prog 12 #[.agg #[.bool false, .string (str [4, 0]), .slice none 0 0]] w fun e w' => e = .returned (.tuple #[.int .u64 1024, .bool true]) ∧ Below w.heap.size w w' :=
  small_ok_c [4, 0] _ (by decide) (by decide) w
theorem textA_c (s : ByteArray) (w : World) : Calls Try.prog 23 #[.string s] w fun e w' => e = .returned (.agg #[.bool false, .string s, .slice none 0 0]) ∧ Below w.heap.size w w' := text_c s w
set_option maxRecDepth 100000 in
set_option maxHeartbeats 4000000 in
theorem examples_c (w : World) : Calls Try.prog 10 #[] w fun e w' => e = .returned (.bool true) ∧ Below w.heap.size w w' := by
  have HD := Lib.hid (dec1_c w)
  go_enter Try.func10, Try.ntmps10
  go_wp2_with fail
  go_at_call 21
  refine HD.out.mono ?_
  rintro e W1 ⟨b, s, a, n, c, rfl, hv, hb⟩
  have H1 := Lib.hid (And.intro hv hb)
  clear hv hb HD
  go_wp2_with fail
  go_at_call 19
  refine (num1_c _).mono ?_
  rintro e W2 ⟨rfl, hb⟩
  have B2 := Lib.hid hb
  clear hb
  go_wp2_with fail
  go_at_call 12
  refine (small1_c _).mono ?_
  rintro e W3 ⟨rfl, hb⟩
  have B3 := Lib.hid hb
  clear hb
  go_wp2_with fail
  go_at_call 21
  refine (dec2_c _).mono ?_
  rintro e W4 ⟨rfl, hb⟩
  have B4 := Lib.hid hb
  clear hb
  go_wp2_with fail
  go_at_call 23
  refine (textA_c _ _).mono ?_
  rintro e W5 ⟨rfl, hb⟩
  have B5 := Lib.hid hb
  clear hb
  go_wp2_with fail
  go_at_call 23
  refine (textA_c _ _).mono ?_
  rintro e W6 ⟨rfl, hb⟩
  have B6 := Lib.hid hb
  clear hb
  go_wp2_with fail
  have B1 := Lib.hid (bel_then (bel_then (bel_then (bel_then (bel_then (bel_then B2.out B3.out) B4.out) (bel_al _ _)) B5.out) B6.out) (bel_al W6 (Obj.cells #[Value.bool false, Value.string ⟨#[99, 97, 116]⟩, Value.slice none 0 0, Value.bool false, Value.string ⟨#[100, 111, 103]⟩, Value.slice none 0 0] 27)))
  clear B2 B3 B4 B5 B6
  have HL := Lib.hid (list_c (fun k => k = W6.heap.size) cat (.slice (some ⟨W6.heap.size, 0, none⟩) 2 2) (W6.alloc (Obj.cells #[Value.bool false, Value.string ⟨#[99, 97, 116]⟩, Value.slice none 0 0, Value.bool false, Value.string ⟨#[100, 111, 103]⟩, Value.slice none 0 0] 27))
    (Or.inr ⟨W6.heap.size, 0, 2, rfl, rfl, Nat.le_refl _, by
      exact ⟨⟨cell_of (heap_alloc_new W6 _) 0, cell_of (heap_alloc_new W6 _) 1, cell_of (heap_alloc_new W6 _) 2⟩, ⟨cell_of (heap_alloc_new W6 _) 3, cell_of (heap_alloc_new W6 _) 4, cell_of (heap_alloc_new W6 _) 5⟩, trivial⟩⟩)
    (fun k hk => by simp only [alloc_size]; omega) (by decide))
  go_at_call 24
  refine HL.out.mono ?_
  rintro e W7 ⟨u, rfl, hu, hb⟩
  obtain ⟨b7, s7, a7, n7, c7, rfl⟩ := hu.form
  have H7 := Lib.hid (bel_then B1.out hb)
  have HE := Lib.hid (encode_c _ (.list cat) _ W7 (fun k hk => hk) hu (by decide) (by decide))
  clear hu hb HL B1
  go_wp2_with fail
  go_at_call 15
  refine HE.out.mono ?_
  rintro e W8 ⟨rfl, hb⟩
  rw [cat_enc]
  have ht : ((str [200, 131, 99, 97, 116, 131, 100, 111, 103]).toList == [200, 131, 99, 97, 116, 131, 100, 111, 103]) = true := by rw [ByteArray.toList_eq]; rfl
  have hW8 := (bel_then H7.out hb)
  have hblk : W8.heap[W1.heap.size]? = some (.cells #[.bool b, .string s, .slice a n c] 27 (0, 0)) := (hW8.block _ (by simp)).trans (heap_alloc_new _ _)
  obtain ⟨l0, l1, l2⟩ := (cells3 hblk).1
  have hcalm := bel_then (bel_al W1 _) hW8
  have HS := Lib.hid (show_c _ (.list cat) _ W8 (fun k hk => Nat.lt_of_lt_of_le hk.2 hcalm.size) (H1.out.1.kept fun k hk => hcalm.block k hk.2) (by decide) (by rw [cat_sho]; decide))
  have H8 := Lib.hid (Below.trans H1.out.2 (hcalm.mono H1.out.2.size))
  clear HE hb hW8 hblk hcalm H7 H1
  go_wp2_with fail
  go_at_call 17
  refine HS.out.mono ?_
  rintro e W9 ⟨rfl, hb⟩
  rw [cat_sho]
  have ht : ((str [91, 34, 54, 51, 54, 49, 55, 52, 34, 32, 34, 54, 52, 54, 102, 54, 55, 34, 93]).toList == [91, 34, 54, 51, 54, 49, 55, 52, 34, 32, 34, 54, 52, 54, 102, 54, 55, 34, 93]) = true := by rw [ByteArray.toList_eq]; rfl
  have H9 := Lib.hid (H8.out.trans (hb.mono H8.out.size))
  clear hb HS H8
  go_wp2_with fail
  go_ret
  exact ⟨rfl, H9.out⟩
end Go.Proofs.Ytgaaalacoeainaa
