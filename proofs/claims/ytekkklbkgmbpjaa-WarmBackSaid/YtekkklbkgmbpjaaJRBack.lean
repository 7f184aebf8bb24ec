/- For every input the statement WarmBack is true: it hands back true, panics nowhere, and changes nothing that was there; no condition. -/
import Derived.Test.YtekkklbkgmbpjaaJPlain3
import Derived.Test.YtekkklbkgmbpjaaJy
namespace Go.Proofs.Ytekkklbkgmbpjaa.warmBack
open Go.ChangeShapes Go.WideShapes Go.ChangeAt Go.RowKit

set_option maxRecDepth 100000 in
theorem lifted (os : Os) (started : os.Started) (H : Type) (enc : TypeId × Value → H) :
    ReturnsInHanded {} Try.checked os 4 .any (Rows.warmBackSpec.pre6 enc Try.prog Try.f4 Rows.warmBackRow.domain false) (Rows.warmBackSpec.post enc Try.prog Try.f4 false true false false) := by
  refine returnsInHanded_of_change_sized (C := Try.checked) ownKnob_none started (by kernel_rfl) Try.func4
    (ChangeSpec.witness6 (enc := enc) (C := Try.checked) false ⟨#[], #[.string ⟨#[]⟩, .agg #[.int .u64 0, .int .u64 0, .int .u64 0, .int .u64 0], .int .i64 0, .int .i64 0, .agg #[.string ⟨#[]⟩, .slice none 0 0, .string ⟨#[]⟩], .agg #[.string ⟨#[]⟩, .slice none 0 0, .string ⟨#[]⟩]], []⟩ 8 (by kernel_rfl) (by kernel_rfl) (by kernel_rfl) (by kernel_rfl)) ?_
  intro W base args ds gs before hval0 hW _ hsized _
  have hval : ∀ (j : Nat) t v, Try.f4.params[j]? = some t → args[j]? = some v → Value.okWide Try.prog W .any base t v := hval0
  have hW' := hW
  obtain ⟨p, q, hA0, hV, rfl, _, _⟩ := hW
  have hA : DataW.TrodAll enc Try.prog W 0 (fun _ => true) true Try.f4.params.toList args.toList ds p := hA0
  rw [Try.params4] at hA hval
  obtain ⟨v0, v1, v2, v3, v4, v5, d0, d1, d2, d3, d4, d5, p0, p1, p2, p3, p4, p5, rfl, rfl, rfl, h0, h1, h2, h3, h4, h5⟩ := trodAll_six hA
  obtain ⟨rfl, rfl⟩ := trodVars_none hV
  simp only [List.append_nil] at hW'
  have t0 : ∀ x ∈ p0, x.block < W.heap.size := fun x hx => by simpa using hW'.lt x (by simp [hx])
  have t1 : ∀ x ∈ p1, x.block < W.heap.size := fun x hx => by simpa using hW'.lt x (by simp [hx])
  have t2 : ∀ x ∈ p2, x.block < W.heap.size := fun x hx => by simpa using hW'.lt x (by simp [hx])
  have t3 : ∀ x ∈ p3, x.block < W.heap.size := fun x hx => by simpa using hW'.lt x (by simp [hx])
  have t4 : ∀ x ∈ p4, x.block < W.heap.size := fun x hx => by simpa using hW'.lt x (by simp [hx])
  have t5 : ∀ x ∈ p5, x.block < W.heap.size := fun x hx => by simpa using hW'.lt x (by simp [hx])
  obtain ⟨y0, rfl, e0, _, w0⟩ := Go.ChangeMaps.open_string Try.underlying9 (hval 0 9 v0 rfl rfl) h0
  subst e0
  have s0 : y0.data.toList.length ≤ 140737488351232 := Go.sized_string hsized (j := 0) (t := 9) (bytes := y0.data.toList) rfl rfl
  obtain ⟨x0, ex0⟩ : ∃ x, x = y0.data.toList := ⟨_, rfl⟩
  have ey0 : y0 = str x0 := by rw [ex0]; exact (str_of y0).symm
  rw [← ex0] at s0
  obtain ⟨x1, rfl, w1⟩ := open_wq (hval 1 46 v1 rfl rfl) h1
  obtain ⟨x2, rfl, _, _, w2⟩ := open_int Try.underlying2 (hval 2 2 v2 rfl rfl) h2
  have b2 := i64_of w2
  obtain ⟨x3, rfl, _, _, w3⟩ := open_int Try.underlying2 (hval 3 2 v3 rfl rfl) h3
  have b3 := i64_of w3
  obtain ⟨x4, g4, rfl, w4⟩ := open_log (hval 4 33 v4 rfl rfl) h4 (fun {_} hx => by simpa using List.all_eq_true.1 hsized _ (DataW.weights_mem_each (j := 4) (t := 33) rfl rfl _ hx))
  obtain ⟨x5, g5, rfl, w5⟩ := open_log (hval 5 33 v5 rfl rfl) h5 (fun {_} hx => by simpa using List.all_eq_true.1 hsized _ (DataW.weights_mem_each (j := 5) (t := 33) rfl rfl _ hx))
  clear hA0 hval0 hval
  have hall := wback_c (a := x0) (k := x1) (n := x2) (m := x3) (l := x4) (g := x5) s0 w1 b2 w4.words w5.words ⟨Nat.le_trans w4.addr (by decide), Nat.le_trans w4.data (by decide), Nat.le_trans w4.tops (by decide)⟩ ⟨Nat.le_trans w5.addr (by decide), Nat.le_trans w5.data (by decide), Nat.le_trans w5.tops (by decide)⟩
  rw [← ey0] at hall
  refine hall.mono fun e W' ⟨he, hb⟩ => ?_
  subst he
  exact ⟨_, rfl, _, _, _, [], _, [], hW', trodAll_mk1 (shut_bool Try.underlying4 _), trodAll_mk6 (Below.trod laidOutF (by kernel_rfl) (of_decide_eq_true (by kernel_rfl)) h0 hb t0) (Below.trod laidOutF (by kernel_rfl) (of_decide_eq_true (by kernel_rfl)) h1 hb t1) (Below.trod laidOutF (by kernel_rfl) (of_decide_eq_true (by kernel_rfl)) h2 hb t2) (Below.trod laidOutF (by kernel_rfl) (of_decide_eq_true (by kernel_rfl)) h3 hb t3) (Below.trod laidOutF (by kernel_rfl) (of_decide_eq_true (by kernel_rfl)) h4 hb t4) (Below.trod laidOutF (by kernel_rfl) (of_decide_eq_true (by kernel_rfl)) h5 hb t5), rfl, hb.frame _, fun h => by cases h⟩

theorem said : Rows.WarmBackSaid :=
  OpenClaim.holds_of_wide 4 Try.f4 rfl rfl rfl rfl rfl rfl rfl ⟨rfl, rfl, rfl, rfl, rfl⟩ rfl rfl rfl rfl rfl (by kernel_rfl) Try.func4 (by kernel_rfl)
    (of_decide_eq_true (by kernel_rfl)) (by unfold Func.isWrapper; first | (rw [if_pos (by decide +kernel)]; kernel_rfl) | (rw [if_neg (by decide +kernel)]; exact ⟨rfl, rfl⟩))
    (fun os started H enc _ => lifted os started H enc)
end Go.Proofs.Ytekkklbkgmbpjaa.warmBack
