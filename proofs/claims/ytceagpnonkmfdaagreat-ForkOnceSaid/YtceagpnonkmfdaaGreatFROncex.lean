/- For every input the statement ForkOnce is true: it hands back true, panics nowhere, and changes nothing that was there; no condition. -/
import Derived.Test.YtceagpnonkmfdaaGreatM08
import Derived.Test.YtceagpnonkmfdaaGreatM29
import Derived.Test.YtceagpnonkmfdaaGreatM14
namespace Go.Proofs.YtceagpnonkmfdaaGreat.forkOnce
open Go.ChangeShapes Go.WideShapes Go.ChangeAt Go.RowKit

set_option maxRecDepth 100000 in
theorem lifted (os : Os) (started : os.Started) (H : Type) (enc : TypeId × Value → H) :
    ReturnsInHanded {} Tryz.checked os 4 .any (Rows.forkOnceSpec.pre6 enc Tryz.prog Tryz.f4 Rows.forkOnceRow.domain false) (Rows.forkOnceSpec.post enc Tryz.prog Tryz.f4 false true false false) := by
  refine returnsInHanded_of_change (C := Tryz.checked) ownKnob_none started (by kernel_rfl) Tryz.func4
    (ChangeSpec.witness6 (enc := enc) (C := Tryz.checked) false ⟨#[], #[.agg #[.int .u64 0, .int .u64 0, .int .u64 0, .int .u64 0, .int .u64 0, .string ⟨#[]⟩], .agg #[.int .u64 0, .int .u64 0, .int .u64 0, .int .u64 0], .agg #[.int .u64 0, .int .u64 0, .int .u64 0, .int .u64 0], .int .u8 0], []⟩ 8 (by kernel_rfl) (by kernel_rfl) (by kernel_rfl) (by kernel_rfl)) ?_
  intro W base args ds gs before hval0 hW _ _
  have hval : ∀ (j : Nat) t v, Tryz.f4.params[j]? = some t → args[j]? = some v → Value.okWide Tryz.prog W .any base t v := hval0
  have hW' := hW
  obtain ⟨p, q, hA0, hV, rfl, _, _⟩ := hW
  have hA : DataW.TrodAll enc Tryz.prog W 0 (fun _ => true) true Tryz.f4.params.toList args.toList ds p := hA0
  rw [Tryz.params4] at hA hval
  obtain ⟨v0, v1, v2, v3, d0, d1, d2, d3, p0, p1, p2, p3, rfl, rfl, rfl, h0, h1, h2, h3⟩ := trodAll_four hA
  obtain ⟨rfl, rfl⟩ := trodVars_none hV
  obtain ⟨x0k, x0, a0, b0, c0, e0, x0s, rfl, rfl, rfl, w0k, w0, w0s⟩ := open_account (hval 0 53 v0 rfl rfl) h0
  obtain ⟨rfl, rfl, rfl, rfl⟩ := dig_eq w0
  obtain ⟨x1, a1, b1, c1, e1, rfl, rfl, rfl, w1⟩ := open_word (hval 1 51 v1 rfl rfl) h1
  obtain ⟨rfl, rfl, rfl, rfl⟩ := dig_eq w1
  obtain ⟨x2, a2, b2, c2, e2, rfl, rfl, rfl, w2⟩ := open_word (hval 2 51 v2 rfl rfl) h2
  obtain ⟨rfl, rfl, rfl, rfl⟩ := dig_eq w2
  obtain ⟨x3, rfl, rfl, rfl, w3⟩ := open_int Tryz.underlying5 (hval 3 5 v3 rfl rfl) h3
  clear hA0 hval0
  simp only [List.append_nil] at hW'
  obtain ⟨x3, rfl, b3⟩ := u8_of w3
  refine (Dz.onceA_c x0k x0 x1 x2 x3 x0s b3 w0k w0.lt w1.lt w2.lt W).mono fun e W' ⟨he, hb⟩ => ?_
  subst he
  exact ⟨_, rfl, _, _, _, [], [], [], hW', trodAll_mk1 (shut_bool Tryz.underlying4 _), trodAll_mk4 (shut_account w0k w0 w0s) (shut_word w1) (shut_word w2) (shut_int Tryz.underlying5 w3), rfl, hb.frame _, fun h => by cases h⟩

theorem said : Rows.ForkOnceSaid :=
  OpenClaim.holds_of_wide 4 Tryz.f4 rfl rfl rfl rfl rfl rfl rfl ⟨rfl, rfl, rfl, rfl, rfl⟩ rfl rfl rfl rfl rfl (by kernel_rfl) Tryz.func4 (by kernel_rfl)
    (of_decide_eq_true (by kernel_rfl)) (by unfold Func.isWrapper; first | (rw [if_pos (by decide +kernel)]; kernel_rfl) | (rw [if_neg (by decide +kernel)]; exact ⟨rfl, rfl⟩))
    (fun os started H enc _ => lifted os started H enc)
end Go.Proofs.YtceagpnonkmfdaaGreat.forkOnce
