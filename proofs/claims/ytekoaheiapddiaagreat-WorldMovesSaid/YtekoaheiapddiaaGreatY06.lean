/- Merged: Qi, Qj, Qk, Ql, Qm, Qo. -/
import Derived.Test.YtekoaheiapddiaaGreatY03
import Derived.Test.YtekoaheiapddiaaGreatY05
import Derived.SliceStrings
import Derived.Carry
import Derived.ProofKit
import Derived.OpenShut
import Derived.ChangeMaps5
section
namespace Go.Proofs.YtekoaheiapddiaaGreat.Dz
open Go.RowKit

/-- The other name: .new behind it. -/
def fresh (s : Nm) : Nm := s ++ [46, 110, 101, 119]
end Go.Proofs.YtekoaheiapddiaaGreat.Dz
end
section
namespace Go.Proofs.YtekoaheiapddiaaGreat.Dz
open Go.RowKit

def runP (p : Pd) : List (Pd → Int × Pd) → Int × Pd
  | [] => (0, p)
  | f :: r => if (f p).1 = 0 then runP (f p).2 r else f p
section
variable {p : Pd} {d N : Nat} {F : Nat → Prop} {W : World} {s xs : Nm}
theorem On.mono (h : On p d N F W) {M : Nat} (hM : N ≤ M) : On p d M F W := by
  obtain ⟨hp, x, h1, h2, h3, h4, h5⟩ := h
  exact ⟨hp, x, h1, h2, h3, by omega, h5⟩
end
end Go.Proofs.YtekoaheiapddiaaGreat.Dz
end
section
namespace Go.Proofs.YtekoaheiapddiaaGreat.Dz
open Go.RowKit

section
variable {p : Pd} {d N : Nat} {F : Nat → Prop} {W : World} {s xs name : Nm}
theorem On.lt (h : On p d N F W) {k : Nat} (hk : F k) : k < W.heap.size := by
  obtain ⟨hp, x, rfl, rfl, h1, h2, h3⟩ := h
  exact h1.lt hk
theorem On.kept (h : On p d N F W) {W' : World} (hk : ∀ k, F k → W'.heap[k]? = W.heap[k]?) : On p d N F W' := by
  obtain ⟨hp, x, rfl, rfl, h1, h2, h3⟩ := h
  exact ⟨hp, x, rfl, rfl, h1.kept hk, h2, h3⟩
def Pd.add (p : Pd) (name s : Nm) : Int × Pd := if s.length ≤ 65536 then runP p [(·.append name (fr s)), (·.sync name)] else (3, p)
end
end Go.Proofs.YtekoaheiapddiaaGreat.Dz
end
section
namespace Go.Proofs.YtekoaheiapddiaaGreat.Dz
open Go.RowKit

/-- A disk that runs. -/
structure Hl (p : Pd) : Prop where
  dead : p.dead = false
  after : p.after = -1
end Go.Proofs.YtekoaheiapddiaaGreat.Dz
end
