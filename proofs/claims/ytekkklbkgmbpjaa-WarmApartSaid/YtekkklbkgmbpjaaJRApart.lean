/- For every input the statement WarmApart is true: it hands back true, panics nowhere, and changes nothing that was there; no condition. -/
import Derived.Test.YtekkklbkgmbpjaaJPlain
import Derived.Test.YtekkklbkgmbpjaaJn
namespace Go.Proofs.Ytekkklbkgmbpjaa.warmApart
open Go.ChangeShapes Go.WideShapes Go.ChangeAt Go.RowKit

set_option maxRecDepth 100000 in
theorem lifted (os : Os) (started : os.Started) (H : Type) (enc : TypeId × Value → H) :
    ReturnsInHanded {} Try.checked os 7 .any (Rows.warmApartSpec.pre6 enc Try.prog Try.f7 Rows.warmApartRow.domain false) (Rows.warmApartSpec.post enc Try.prog Try.f7 false true false false) := by
  refine returnsInHanded_of_change_sized (C := Try.checked) ownKnob_none started (by kernel_rfl) Try.func7
    (ChangeSpec.witness6 (enc := enc) (C := Try.checked) false ⟨#[], #[.string ⟨#[]⟩, .string ⟨#[]⟩, .agg #[.int .u64 0, .int .u64 0, .int .u64 0, .int .u64 0], .agg #[.int .u64 0, .int .u64 0, .int .u64 0, .int .u64 0]], []⟩ 8 (by kernel_rfl) (by kernel_rfl) (by kernel_rfl) (by kernel_rfl)) ?_
  intro W base args ds gs before hval0 hW _ hsized _
  have hval : ∀ (j : Nat) t v, Try.f7.params[j]? = some t → args[j]? = some v → Value.okWide Try.prog W .any base t v := hval0
  have hW' := hW
  obtain ⟨p, q, hA0, hV, rfl, _, _⟩ := hW
  have hA : DataW.TrodAll enc Try.prog W 0 (fun _ => true) true Try.f7.params.toList args.toList ds p := hA0
  rw [Try.params7] at hA hval
  obtain ⟨v0, v1, v2, v3, d0, d1, d2, d3, p0, p1, p2, p3, rfl, rfl, rfl, h0, h1, h2, h3⟩ := trodAll_four hA
  obtain ⟨rfl, rfl⟩ := trodVars_none hV
  simp only [List.append_nil] at hW'
  have t0 : ∀ x ∈ p0, x.block < W.heap.size := fun x hx => by simpa using hW'.lt x (by simp [hx])
  have t1 : ∀ x ∈ p1, x.block < W.heap.size := fun x hx => by simpa using hW'.lt x (by simp [hx])
  have t2 : ∀ x ∈ p2, x.block < W.heap.size := fun x hx => by simpa using hW'.lt x (by simp [hx])
  have t3 : ∀ x ∈ p3, x.block < W.heap.size := fun x hx => by simpa using hW'.lt x (by simp [hx])
  obtain ⟨y0, rfl, e0, _, w0⟩ := Go.ChangeMaps.open_string Try.underlying9 (hval 0 9 v0 rfl rfl) h0
  subst e0
  have s0 : y0.data.toList.length ≤ 140737488351232 := Go.sized_string hsized (j := 0) (t := 9) (bytes := y0.data.toList) rfl rfl
  obtain ⟨x0, ex0⟩ : ∃ x, x = y0.data.toList := ⟨_, rfl⟩
  have ey0 : y0 = str x0 := by rw [ex0]; exact (str_of y0).symm
  rw [← ex0] at s0
  obtain ⟨y1, rfl, e1, _, w1⟩ := Go.ChangeMaps.open_string Try.underlying9 (hval 1 9 v1 rfl rfl) h1
  subst e1
  have s1 : y1.data.toList.length ≤ 140737488351232 := Go.sized_string hsized (j := 1) (t := 9) (bytes := y1.data.toList) rfl rfl
  obtain ⟨x1, ex1⟩ : ∃ x, x = y1.data.toList := ⟨_, rfl⟩
  have ey1 : y1 = str x1 := by rw [ex1]; exact (str_of y1).symm
  rw [← ex1] at s1
  obtain ⟨x2, rfl, w2⟩ := open_wq (hval 2 46 v2 rfl rfl) h2
  obtain ⟨x3, rfl, w3⟩ := open_wq (hval 3 46 v3 rfl rfl) h3
  clear hA0 hval0 hval
  have hall := apart_c (a := x0) (b := x1) (by unfold big; omega) (by unfold big; omega) w2 w3 W
  rw [← ey0] at hall
  rw [← ey1] at hall
  refine hall.mono fun e W' ⟨he, hb⟩ => ?_
  subst he
  exact ⟨_, rfl, _, _, _, [], _, [], hW', trodAll_mk1 (shut_bool Try.underlying4 _), trodAll_mk4 (Below.trod laidOutF (by kernel_rfl) (of_decide_eq_true (by kernel_rfl)) h0 hb t0) (Below.trod laidOutF (by kernel_rfl) (of_decide_eq_true (by kernel_rfl)) h1 hb t1) (Below.trod laidOutF (by kernel_rfl) (of_decide_eq_true (by kernel_rfl)) h2 hb t2) (Below.trod laidOutF (by kernel_rfl) (of_decide_eq_true (by kernel_rfl)) h3 hb t3), rfl, hb.frame _, fun h => by cases h⟩

theorem said : Rows.WarmApartSaid :=
  OpenClaim.holds_of_wide 7 Try.f7 rfl rfl rfl rfl rfl rfl rfl ⟨rfl, rfl, rfl, rfl, rfl⟩ rfl rfl rfl rfl rfl (by kernel_rfl) Try.func7 (by kernel_rfl)
    (of_decide_eq_true (by kernel_rfl)) (by unfold Func.isWrapper; first | (rw [if_pos (by decide +kernel)]; kernel_rfl) | (rw [if_neg (by decide +kernel)]; exact ⟨rfl, rfl⟩))
    (fun os started H enc _ => lifted os started H enc)
end Go.Proofs.Ytekkklbkgmbpjaa.warmApart
