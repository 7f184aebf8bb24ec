/- For every input the statement ForkFull is true: it hands back true, panics nowhere, and changes nothing that was there; no condition. -/
import Derived.Test.YtceagpnonkmfdaaGreatM08
import Derived.Test.YtceagpnonkmfdaaGreatM28
import Derived.Test.YtceagpnonkmfdaaGreatM14
namespace Go.Proofs.YtceagpnonkmfdaaGreat.forkFull
open Go.ChangeShapes Go.WideShapes Go.ChangeAt Go.RowKit

set_option maxRecDepth 100000 in
theorem lifted (os : Os) (started : os.Started) (H : Type) (enc : TypeId × Value → H) :
    ReturnsInHanded {} Tryz.checked os 6 .any (Rows.forkFullSpec.pre6 enc Tryz.prog Tryz.f6 Rows.forkFullRow.domain false) (Rows.forkFullSpec.post enc Tryz.prog Tryz.f6 false true false false) := by
  refine returnsInHanded_of_change (C := Tryz.checked) ownKnob_none started (by kernel_rfl) Tryz.func6
    (ChangeSpec.witness6 (enc := enc) (C := Tryz.checked) false ⟨#[], #[.int .u16 0, .agg #[.int .u64 0, .int .u64 0, .int .u64 0, .int .u64 0, .int .u64 0, .string ⟨#[]⟩], .agg #[.int .u64 0, .int .u64 0, .int .u64 0, .int .u64 0, .int .u64 0, .string ⟨#[]⟩]], []⟩ 8 (by kernel_rfl) (by kernel_rfl) (by kernel_rfl) (by kernel_rfl)) ?_
  intro W base args ds gs before hval0 hW _ _
  have hval : ∀ (j : Nat) t v, Tryz.f6.params[j]? = some t → args[j]? = some v → Value.okWide Tryz.prog W .any base t v := hval0
  have hW' := hW
  obtain ⟨p, q, hA0, hV, rfl, _, _⟩ := hW
  have hA : DataW.TrodAll enc Tryz.prog W 0 (fun _ => true) true Tryz.f6.params.toList args.toList ds p := hA0
  rw [Tryz.params6] at hA hval
  obtain ⟨v0, v1, v2, d0, d1, d2, p0, p1, p2, rfl, rfl, rfl, h0, h1, h2⟩ := trodAll_three hA
  obtain ⟨rfl, rfl⟩ := trodVars_none hV
  obtain ⟨x0, rfl, rfl, rfl, w0⟩ := open_int Tryz.underlying22 (hval 0 22 v0 rfl rfl) h0
  obtain ⟨x1k, x1, a1, b1, c1, e1, x1s, rfl, rfl, rfl, w1k, w1, w1s⟩ := open_account (hval 1 53 v1 rfl rfl) h1
  obtain ⟨rfl, rfl, rfl, rfl⟩ := dig_eq w1
  obtain ⟨x2k, x2, a2, b2, c2, e2, x2s, rfl, rfl, rfl, w2k, w2, w2s⟩ := open_account (hval 2 53 v2 rfl rfl) h2
  obtain ⟨rfl, rfl, rfl, rfl⟩ := dig_eq w2
  clear hA0 hval0
  simp only [List.append_nil] at hW'
  obtain ⟨x0, rfl, b0⟩ := u16_of w0
  refine (Dz.full_c x0 x1k x1 x2k x2 x1s x2s b0 w1k w1.lt w2k w2.lt W).mono fun e W' ⟨he, hb⟩ => ?_
  subst he
  exact ⟨_, rfl, _, _, _, [], [], [], hW', trodAll_mk1 (shut_bool Tryz.underlying4 _), trodAll_mk3 (shut_int Tryz.underlying22 w0) (shut_account w1k w1 w1s) (shut_account w2k w2 w2s), rfl, hb.frame _, fun h => by cases h⟩

theorem said : Rows.ForkFullSaid :=
  OpenClaim.holds_of_wide 6 Tryz.f6 rfl rfl rfl rfl rfl rfl rfl ⟨rfl, rfl, rfl, rfl, rfl⟩ rfl rfl rfl rfl rfl (by kernel_rfl) Tryz.func6 (by kernel_rfl)
    (of_decide_eq_true (by kernel_rfl)) (by unfold Func.isWrapper; first | (rw [if_pos (by decide +kernel)]; kernel_rfl) | (rw [if_neg (by decide +kernel)]; exact ⟨rfl, rfl⟩))
    (fun os started H enc _ => lifted os started H enc)
end Go.Proofs.YtceagpnonkmfdaaGreat.forkFull
