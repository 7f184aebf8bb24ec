/- Merged: Qa, Qb, Qc, Qd. -/
import Derived.Test.YtekoaheiapddiaaGreatY04
import Derived.Test.YtekoaheiapddiaaGreatY02
import Derived.Maps.AppendAt
import Derived.BigQuiet
section
namespace Go.Proofs.YtekoaheiapddiaaGreat.Dz
open Go.RowKit

/-- A number's be4 bytes, the highest first; what bytes are as a number. -/
def be4 (n : Nat) : List UInt8 := [UInt8.ofNat (n / 16777216), UInt8.ofNat (n / 65536), UInt8.ofNat (n / 256), UInt8.ofNat n]
/-- The frame of a text. -/
def fr (t : List UInt8) : List UInt8 := be4 t.length ++ (be4 (sumN (str (be4 t.length ++ t))) ++ t)
end Go.Proofs.YtekoaheiapddiaaGreat.Dz
end
section
namespace Go.Proofs.YtekoaheiapddiaaGreat.Dz
open Go.RowKit
abbrev encS (t : List UInt8) : Value := .string (str t)
/-- A slice of texts, made from block B on. -/
def OwnS (B : Nat) (l : List (List UInt8)) (v : Value) (W : World) : Prop := W.ownsRow B 9 1 v l.length (l.map encS)
theorem OwnS.lt {B : Nat} {l : List (List UInt8)} {v : Value} {W : World} (h : OwnS B l v W) {k : Nat} (hk : v.ownBlock = some k) : B ≤ k ∧ k < W.heap.size := World.ownsRow.lt h k hk
end Go.Proofs.YtekoaheiapddiaaGreat.Dz
end
