/- Opening and shutting a word among a law's arguments. -/
import Derived.Test.YthbfhfgmanafpaaRows
import Derived.Test.YthbfhfgmanafpaaNum
import Derived.ProofKit
import Derived.OpenShut
import Derived.WalkKit
import Derived.Lib.SmallJoins
namespace Go.Proofs.Ythbfhfgmanafpaa
open Go.ChangeShapes Go.WideShapes Go.ChangeAt Go.RowKit

/-- The datum of the word with the digits d3, d2, d1, d0. -/
def wordD {H : Type} (d3 d2 d1 d0 : Nat) : DataW H := .agg [.lit (.int .u64 d3), .lit (.int .u64 d2), .lit (.int .u64 d1), .lit (.int .u64 d0)]

theorem u64_of {n : Int} (h : (Lit.int .u64 n).wf = true) : ∃ k : Nat, n = (k : Int) ∧ k < M64 := by
  have h' : 0 ≤ n ∧ n ≤ 18446744073709551615 := by simpa [Lit.wf, IntKind.min, IntKind.max, IntKind.signed, IntKind.bits] using h
  exact ⟨n.toNat, by omega, by unfold M64; omega⟩
theorem wf_of {k : Nat} (h : k < M64) : (Lit.int .u64 (k : Int)).wf = true := by
  unfold M64 at h
  simp [Lit.wf, IntKind.min, IntKind.max, IntKind.signed, IntKind.bits]; omega

theorem cellsWord : Try.prog.cellsOf 24 = 4 := by kernel_rfl

theorem open_word {H : Type} {enc : TypeId × Value → H} {w : World} {base : Nat} {spare : Nat → Bool} {held : Bool} {r : Reach} {b0 : Nat} {v : Value} {d : DataW H} {p : List MemPlace}
    (hv : Value.okWide Try.prog w r b0 24 v) (h : DataW.Trod enc Try.prog w base spare held 24 v d p) :
    ∃ n d3 d2 d1 d0 : Nat, v = .agg #[.int .u64 d3, .int .u64 d2, .int .u64 d1, .int .u64 d0] ∧ d = wordD d3 d2 d1 d0 ∧ p = [] ∧ Dig n d0 d1 d2 d3 := by
  obtain ⟨v0, v1, v2, v3, y0, y1, y2, y3, n, rfl, rfl, rfl, h0, h1, h2, h3⟩ := Go.Joins.open_agg4 Try.underlying24 (by kernel_rfl) cellsWord hv h
  obtain ⟨n3, e0, rfl, w3⟩ := DataW.trod_int Try.underlying22 h0
  obtain ⟨n2, e1, rfl, w2⟩ := DataW.trod_int Try.underlying22 h1
  obtain ⟨n1, e2, rfl, w1⟩ := DataW.trod_int Try.underlying22 h2
  obtain ⟨n0, e3, rfl, w0⟩ := DataW.trod_int Try.underlying22 h3
  obtain ⟨k3, rfl, l3⟩ := u64_of w3
  obtain ⟨k2, rfl, l2⟩ := u64_of w2
  obtain ⟨k1, rfl, l1⟩ := u64_of w1
  obtain ⟨k0, rfl, l0⟩ := u64_of w0
  cases e0; cases e1; cases e2; cases e3
  exact ⟨_, k3, k2, k1, k0, rfl, rfl, rfl, ⟨l0, l1, l2, l3, rfl⟩⟩

theorem shut_word {H : Type} {enc : TypeId × Value → H} {w : World} {base : Nat} {spare : Nat → Bool} {held : Bool} {n d3 d2 d1 d0 : Nat} (h : Dig n d0 d1 d2 d3) :
    DataW.Trod enc Try.prog w base spare held 24 (.agg #[.int .u64 d3, .int .u64 d2, .int .u64 d1, .int .u64 d0]) (wordD d3 d2 d1 d0) [] :=
  Go.Joins.shut_agg4 Try.underlying24 (by kernel_rfl) cellsWord (y0 := (_, [])) (y1 := (_, [])) (y2 := (_, [])) (y3 := (_, []))
    ⟨1, trod_int_mk 0 Try.underlying22 (wf_of h.h3)⟩ ⟨1, trod_int_mk 0 Try.underlying22 (wf_of h.h2)⟩
    ⟨1, trod_int_mk 0 Try.underlying22 (wf_of h.h1)⟩ ⟨1, trod_int_mk 0 Try.underlying22 (wf_of h.h0)⟩

theorem ownKnob_none : ownKnob Try.prog.godebug = none := by kernel_rfl
end Go.Proofs.Ythbfhfgmanafpaa
