/- Opening and shutting numbers and texts among a law's arguments. -/
import Derived.Test.YtgaaalacoeainaaRows
import Derived.ProofKit
import Derived.OpenShut
import Derived.WalkKit
import Derived.Lib.SmallJoins
import Derived.ChangeMaps5
import Derived.ShutString
namespace Go.Proofs.Ytgaaalacoeainaa
open Go.ChangeShapes Go.WideShapes Go.ChangeAt Go.RowKit

theorem u64_of {n : Int} (h : (Lit.int .u64 n).wf = true) : ∃ k : Nat, n = (k : Int) ∧ k < 18446744073709551616 := by
  have h' : 0 ≤ n ∧ n ≤ 18446744073709551615 := by simpa [Lit.wf, IntKind.min, IntKind.max, IntKind.signed, IntKind.bits] using h
  exact ⟨n.toNat, by omega, by omega⟩
theorem ownKnob_none : ownKnob Try.prog.godebug = none := by kernel_rfl
end Go.Proofs.Ytgaaalacoeainaa
