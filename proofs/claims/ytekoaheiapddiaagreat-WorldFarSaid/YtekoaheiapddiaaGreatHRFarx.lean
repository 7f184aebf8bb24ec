/- For every input the statement WorldFar is true: it hands back true, panics nowhere, and changes nothing that was there; no condition. -/
import Derived.Test.YtekoaheiapddiaaGreatU08
import Derived.Test.YtekoaheiapddiaaGreatU37
import Derived.Test.YtekoaheiapddiaaGreatU16
namespace Go.Proofs.YtekoaheiapddiaaGreat.worldFar
open Go.ChangeShapes Go.WideShapes Go.ChangeAt Go.RowKit

set_option maxRecDepth 100000 in
theorem lifted (os : Os) (started : os.Started) (H : Type) (enc : TypeId × Value → H) :
    ReturnsInHanded {} Tryz.checked os 10 .any (Rows.worldFarSpec.pre6 enc Tryz.prog Tryz.f10 Rows.worldFarRow.domain false) (Rows.worldFarSpec.post enc Tryz.prog Tryz.f10 false true false false) := by
  refine returnsInHanded_of_change (C := Tryz.checked) ownKnob_none started (by kernel_rfl) Tryz.func10
    (ChangeSpec.witness6 (enc := enc) (C := Tryz.checked) false ⟨#[], #[.agg #[.int .u64 0, .int .u64 0, .int .u64 0, .int .u64 0, .int .u64 0, .string ⟨#[]⟩], .agg #[.int .u64 0, .int .u64 0, .int .u64 0, .int .u64 0], .int .u64 0], []⟩ 8 (by kernel_rfl) (by kernel_rfl) (by kernel_rfl) (by kernel_rfl)) ?_
  intro W base args ds gs before hval0 hW _ _
  have hval : ∀ (j : Nat) t v, Tryz.f10.params[j]? = some t → args[j]? = some v → Value.okWide Tryz.prog W .any base t v := hval0
  have hW' := hW
  obtain ⟨p, q, hA0, hV, rfl, _, _⟩ := hW
  have hA : DataW.TrodAll enc Tryz.prog W 0 (fun _ => true) true Tryz.f10.params.toList args.toList ds p := hA0
  rw [Tryz.params10] at hA hval
  obtain ⟨v0, v1, v2, d0, d1, d2, p0, p1, p2, rfl, rfl, rfl, h0, h1, h2⟩ := trodAll_three hA
  obtain ⟨rfl, rfl⟩ := trodVars_none hV
  obtain ⟨x0k, x0, a0, b0, c0, e0, x0s, rfl, rfl, rfl, w0k, w0, w0s⟩ := open_account (hval 0 82 v0 rfl rfl) h0
  obtain ⟨rfl, rfl, rfl, rfl⟩ := dig_eq w0
  obtain ⟨x1, a1, b1, c1, e1, rfl, rfl, rfl, w1⟩ := open_word (hval 1 61 v1 rfl rfl) h1
  obtain ⟨rfl, rfl, rfl, rfl⟩ := dig_eq w1
  obtain ⟨x2, rfl, rfl, rfl, w2⟩ := open_int Tryz.underlying41 (hval 2 41 v2 rfl rfl) h2
  clear hA0 hval0
  simp only [List.append_nil] at hW'
  obtain ⟨x2, rfl, b2⟩ := u64_of w2
  refine (Dz.Wo.farA_c x0k x0 x1 x2 x0s w0k w0.lt w1.lt W).mono fun e W' ⟨he, hb⟩ => ?_
  subst he
  exact ⟨_, rfl, _, _, _, [], [], [], hW', trodAll_mk1 (shut_bool Tryz.underlying4 _), trodAll_mk3 (shut_account w0k w0 w0s) (shut_word w1) (shut_int Tryz.underlying41 w2), rfl, hb.frame _, fun h => by cases h⟩

theorem said : Rows.WorldFarSaid :=
  OpenClaim.holds_of_wide 10 Tryz.f10 rfl rfl rfl rfl rfl rfl rfl ⟨rfl, rfl, rfl, rfl, rfl⟩ rfl rfl rfl rfl rfl (by kernel_rfl) Tryz.func10 (by kernel_rfl)
    (of_decide_eq_true (by kernel_rfl)) (by unfold Func.isWrapper; first | (rw [if_pos (by decide +kernel)]; kernel_rfl) | (rw [if_neg (by decide +kernel)]; exact ⟨rfl, rfl⟩))
    (fun os started H enc _ => lifted os started H enc)
end Go.Proofs.YtekoaheiapddiaaGreat.worldFar
