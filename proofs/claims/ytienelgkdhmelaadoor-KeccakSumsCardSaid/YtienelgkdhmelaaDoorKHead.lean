/- The contract of examples. -/
import Derived.Test.YtienelgkdhmelaaDoorKExam
namespace Go.Proofs.YtienelgkdhmelaaDoor
open Go.RowKit

theorem Walk.later {w W : World} (h : Walk w) (hb : Below w.heap.size w W) : Walk W := by
  obtain ⟨t, fr, ht⟩ := h
  exact ⟨t, fr, (hb.block 0 (lt_of ht)).trans ht⟩

set_option maxRecDepth 100000 in
set_option maxHeartbeats 2000000 in
theorem head_c (w : World) (hT : Walk w) :
    Calls Tryd.prog 8 #[] w fun e w' => e = .returned (.bool true) ∧ Below w.heap.size w w' := by
  have H1 := Lib.hid (fun W (h : Walk W) => sum_c ⟨#[]⟩ W h)
  have H2 := Lib.hid (fun W (h : Walk W) => sum_c ⟨#[97, 98, 99]⟩ W h)
  have a1 : (sumN ⟨#[]⟩).extract 0 4 = ⟨#[197, 210, 70, 1]⟩ := by rw [nil_sum]; decide +kernel
  have a2 : (sumN ⟨#[]⟩).size = 32 := txt_size _ _
  have a3 : (sumN ⟨#[]⟩).extract 28 32 = ⟨#[93, 133, 164, 112]⟩ := by rw [nil_sum]; decide +kernel
  have b1 : (sumN ⟨#[97, 98, 99]⟩).extract 0 4 = ⟨#[78, 3, 101, 122]⟩ := by rw [abc_sum]; decide +kernel
  have b2 : (sumN ⟨#[97, 98, 99]⟩).size = 32 := txt_size _ _
  generalize sumN ⟨#[]⟩ = n0 at *
  generalize sumN ⟨#[97, 98, 99]⟩ = n1 at *
  have HT := Lib.hid hT; clear hT
  go_enter Tryd.func8, Tryd.ntmps8
  go_wp2_with (go_at_call 9; refine (H1.out _ HT.out).mono ?_)
  rintro e w1 ⟨rfl, h1⟩
  replace H1 := Lib.hid h1
  clear h1
  go_wp2_with (go_at_call 9; refine (H2.out _ (HT.out.later H1.out)).mono ?_)
  rintro e w2 ⟨rfl, h2⟩
  have HB := Lib.hid (H1.out.trans (h2.mono H1.out.size))
  clear h2
  go_wp2_with fail
  go_ret
  exact ⟨rfl, HB.out⟩
end Go.Proofs.YtienelgkdhmelaaDoor
