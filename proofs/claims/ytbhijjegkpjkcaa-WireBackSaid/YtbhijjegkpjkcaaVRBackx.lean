/- For every input the statement WireBack is true: it hands back true, panics nowhere, and changes nothing that was there; no condition. -/
import Derived.Test.YtbhijjegkpjkcaaW01
import Derived.Test.YtbhijjegkpjkcaaW14
namespace Go.Proofs.Ytbhijjegkpjkcaa.wireBack
open Go.ChangeShapes Go.WideShapes Go.ChangeAt Go.RowKit

set_option maxRecDepth 100000 in
theorem lifted (os : Os) (started : os.Started) (H : Type) (enc : TypeId × Value → H) :
    ReturnsInHanded {} Try.checked os 5 .any (Rows.wireBackSpec.pre6 enc Try.prog Try.f5 Rows.wireBackRow.domain false) (Rows.wireBackSpec.post enc Try.prog Try.f5 false true false false) := by
  refine returnsInHanded_of_change (C := Try.checked) ownKnob_none started (by kernel_rfl) Try.func5
    (ChangeSpec.witness6 (enc := enc) (C := Try.checked) false ⟨#[], #[.int .u64 0, .agg #[.int .u64 0, .int .u64 0, .int .u64 0, .int .u64 0], .agg #[.int .u64 0, .int .u64 0, .int .u64 0, .int .u64 0, .int .u64 0, .string ⟨#[]⟩], .agg #[.int .u64 0, .int .u64 0, .int .u64 0, .int .u64 0], .int .u32 0], []⟩ 8 (by kernel_rfl) (by kernel_rfl) (by kernel_rfl) (by kernel_rfl)) ?_
  intro W base args ds gs before hval0 hW _ _
  have hval : ∀ (j : Nat) t v, Try.f5.params[j]? = some t → args[j]? = some v → Value.okWide Try.prog W .any base t v := hval0
  have hW' := hW
  obtain ⟨p, q, hA0, hV, rfl, _, _⟩ := hW
  have hA : DataW.TrodAll enc Try.prog W 0 (fun _ => true) true Try.f5.params.toList args.toList ds p := hA0
  rw [Try.params5] at hA hval
  obtain ⟨v0, v1, v2, v3, v4, d0, d1, d2, d3, d4, p0, p1, p2, p3, p4, rfl, rfl, rfl, h0, h1, h2, h3, h4⟩ := trodAll_five hA
  obtain ⟨rfl, rfl⟩ := trodVars_none hV
  obtain ⟨x0, rfl, rfl, rfl, w0⟩ := open_int Try.underlying22 (hval 0 22 v0 rfl rfl) h0
  obtain ⟨x1, a1, b1, c1, e1, rfl, rfl, rfl, w1⟩ := open_word (hval 1 24 v1 rfl rfl) h1
  obtain ⟨rfl, rfl, rfl, rfl⟩ := dig_eq w1
  obtain ⟨x2k, x2, a2, b2, c2, e2, x2s, rfl, rfl, rfl, w2k, w2, w2s⟩ := open_account (hval 2 40 v2 rfl rfl) h2
  obtain ⟨rfl, rfl, rfl, rfl⟩ := dig_eq w2
  obtain ⟨x3, a3, b3, c3, e3, rfl, rfl, rfl, w3⟩ := open_word (hval 3 24 v3 rfl rfl) h3
  obtain ⟨rfl, rfl, rfl, rfl⟩ := dig_eq w3
  obtain ⟨x4, rfl, rfl, rfl, w4⟩ := open_int Try.underlying52 (hval 4 52 v4 rfl rfl) h4
  clear hA0 hval0
  simp only [List.append_nil] at hW'
  obtain ⟨x0, rfl, b0⟩ := u64_of w0
  obtain ⟨x4, rfl, b4⟩ := u32_of w4
  refine (backA_c x0 b0 x1 w1.lt x2k w2k x2 w2.lt x2s x3 w3.lt x4 b4 W).mono fun e W' ⟨he, hb⟩ => ?_
  subst he
  exact ⟨_, rfl, _, _, _, [], [], [], hW', trodAll_mk1 (shut_bool Try.underlying4 _), trodAll_mk5 (shut_int Try.underlying22 w0) (shut_word w1) (shut_account w2k w2 w2s) (shut_word w3) (shut_int Try.underlying52 w4), rfl, hb.frame _, fun h => by cases h⟩

theorem said : Rows.WireBackSaid :=
  OpenClaim.holds_of_wide 5 Try.f5 rfl rfl rfl rfl rfl rfl rfl ⟨rfl, rfl, rfl, rfl, rfl⟩ rfl rfl rfl rfl rfl (by kernel_rfl) Try.func5 (by kernel_rfl)
    (of_decide_eq_true (by kernel_rfl)) (by unfold Func.isWrapper; first | (rw [if_pos (by decide +kernel)]; kernel_rfl) | (rw [if_neg (by decide +kernel)]; exact ⟨rfl, rfl⟩))
    (fun os started H enc _ => lifted os started H enc)
end Go.Proofs.Ytbhijjegkpjkcaa.wireBack
