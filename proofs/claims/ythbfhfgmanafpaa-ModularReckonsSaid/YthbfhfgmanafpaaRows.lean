/-
  No cell of these rows narrows 'for every input' (looked for: loops, veiled, ifaces, maps, wideKeys, modest, calm, conditions, laid).
  DERIVED. THE GIVEN ROWS OF THIS SEAT. 5 by the template 'for every input the law returns true; each argument reads behind the call as it read before'; 0 by the template 'total and deterministic' (their statements: YthbfhfgmanafpaaTotals.lean).
  GIVEN WITH THE SEED: the statements are not yours to turn. If you find one false, say at which input.
  Laid BY PROGRAM, IN A SANDBOX (cutbox-rows.mjs): the forced cells as the released guide's own fill.sh prints them over the translation 046373a4c35ce12a… (all of the seat's roots in one cut). By AI agents, Wed Nov 11 2026. No macro, syntax, notation, axiom, sorry.
-/
import Derived.Test.YthbfhfgmanafpaaChecked
import GoSem.Claim
import GoSem.ClaimJoined
import GoSem.ClaimMapViews
import Derived.JoinedTies
import Derived.KernelRfl
namespace Go.Proofs.Ythbfhfgmanafpaa
/- THE CELL 'sum', in the pinned program and in every row, IS THE sha256 OF THE DUMP (.gsa) THAT YthbfhfgmanafpaaProg.lean LOADS. Nothing in Lean hashes anything: it is a label: what it is worth is what the hold of that sum in a sandbox is worth. -/
noncomputable def Try.pinned : Pinned := { name := "ythbfhfgmanafpaa", sum := "046373a4c35ce12af2786114fb08bf2712f8e2279ffc591d7875f1ec2baaba16", checked := Try.checked }
namespace Rows
def none {H : Type} : Left H := { results := [], args := [] }

/-- 'stithylaw02.ModularReckons': WHATEVER THE INPUT: true; the input reads as it did. -/
def modularReckonsSpec : ChangeSpec := { name := "modularReckons", fn := fun _ => fun
  | [d1, d2, d3, d4, d5] => { results := [.lit (.bool true)], args := [d1, d2, d3, d4, d5] }
  | _ => none }
def modularReckonsRow : OpenClaim := { program := "ythbfhfgmanafpaa", sum := "046373a4c35ce12af2786114fb08bf2712f8e2279ffc591d7875f1ec2baaba16", func := "stithy/stithylaw02.ModularReckons", spec := "modularReckons", inPlace := ["math/bits.Sub64", "math/bits.Add64"], unfollowed := true, recurses := true, named := ["math/bits.divideError", "math/bits.overflowError"], apart := false }
def ModularReckonsSaid : Prop := modularReckonsRow.holds Try.pinned (OpenSpec.ofChange modularReckonsSpec)

/-- ITS FALSE NEIGHBOUR: 'it returns false'. Refute it at one input. -/
def modularReckonsWrong : ChangeSpec := { name := "modularReckons", fn := fun _ => fun
  | [d1, d2, d3, d4, d5] => { results := [.lit (.bool false)], args := [d1, d2, d3, d4, d5] }
  | _ => none }
def ModularReckonsWrongFalsely : Prop := modularReckonsRow.holds Try.pinned (OpenSpec.ofChange modularReckonsWrong)

/-- 'stithylaw02.ModularDivides': WHATEVER THE INPUT: true; the input reads as it did. -/
def modularDividesSpec : ChangeSpec := { name := "modularDivides", fn := fun _ => fun
  | [d1, d2] => { results := [.lit (.bool true)], args := [d1, d2] }
  | _ => none }
def modularDividesRow : OpenClaim := { program := "ythbfhfgmanafpaa", sum := "046373a4c35ce12af2786114fb08bf2712f8e2279ffc591d7875f1ec2baaba16", func := "stithy/stithylaw02.ModularDivides", spec := "modularDivides", inPlace := ["math/bits.Sub64", "math/bits.Add64"], unfollowed := true, recurses := true, named := ["math/bits.divideError", "math/bits.overflowError"], apart := false }
def ModularDividesSaid : Prop := modularDividesRow.holds Try.pinned (OpenSpec.ofChange modularDividesSpec)

/-- ITS FALSE NEIGHBOUR: 'it returns false'. Refute it at one input. -/
def modularDividesWrong : ChangeSpec := { name := "modularDivides", fn := fun _ => fun
  | [d1, d2] => { results := [.lit (.bool false)], args := [d1, d2] }
  | _ => none }
def ModularDividesWrongFalsely : Prop := modularDividesRow.holds Try.pinned (OpenSpec.ofChange modularDividesWrong)

/-- 'stithylaw02.ModularRests': WHATEVER THE INPUT: true; the input reads as it did. -/
def modularRestsSpec : ChangeSpec := { name := "modularRests", fn := fun _ => fun
  | [d1, d2, d3] => { results := [.lit (.bool true)], args := [d1, d2, d3] }
  | _ => none }
def modularRestsRow : OpenClaim := { program := "ythbfhfgmanafpaa", sum := "046373a4c35ce12af2786114fb08bf2712f8e2279ffc591d7875f1ec2baaba16", func := "stithy/stithylaw02.ModularRests", spec := "modularRests", inPlace := ["math/bits.Sub64", "math/bits.Add64"], unfollowed := true, recurses := true, named := ["math/bits.divideError", "math/bits.overflowError"], apart := false }
def ModularRestsSaid : Prop := modularRestsRow.holds Try.pinned (OpenSpec.ofChange modularRestsSpec)

/-- ITS FALSE NEIGHBOUR: 'it returns false'. Refute it at one input. -/
def modularRestsWrong : ChangeSpec := { name := "modularRests", fn := fun _ => fun
  | [d1, d2, d3] => { results := [.lit (.bool false)], args := [d1, d2, d3] }
  | _ => none }
def ModularRestsWrongFalsely : Prop := modularRestsRow.holds Try.pinned (OpenSpec.ofChange modularRestsWrong)

/-- 'stithylaw02.ModularSigns': WHATEVER THE INPUT: true; the input reads as it did. -/
def modularSignsSpec : ChangeSpec := { name := "modularSigns", fn := fun _ => fun
  | [d1, d2] => { results := [.lit (.bool true)], args := [d1, d2] }
  | _ => none }
def modularSignsRow : OpenClaim := { program := "ythbfhfgmanafpaa", sum := "046373a4c35ce12af2786114fb08bf2712f8e2279ffc591d7875f1ec2baaba16", func := "stithy/stithylaw02.ModularSigns", spec := "modularSigns", inPlace := ["math/bits.Sub64", "math/bits.Add64"], unfollowed := true, recurses := true, named := ["math/bits.divideError", "math/bits.overflowError"], apart := false }
def ModularSignsSaid : Prop := modularSignsRow.holds Try.pinned (OpenSpec.ofChange modularSignsSpec)

/-- ITS FALSE NEIGHBOUR: 'it returns false'. Refute it at one input. -/
def modularSignsWrong : ChangeSpec := { name := "modularSigns", fn := fun _ => fun
  | [d1, d2] => { results := [.lit (.bool false)], args := [d1, d2] }
  | _ => none }
def ModularSignsWrongFalsely : Prop := modularSignsRow.holds Try.pinned (OpenSpec.ofChange modularSignsWrong)

/-- 'stithylaw02.ModularSize': WHATEVER THE INPUT: true; the input reads as it did. -/
def modularSizeSpec : ChangeSpec := { name := "modularSize", fn := fun _ => fun
  | [d1, d2] => { results := [.lit (.bool true)], args := [d1, d2] }
  | _ => none }
def modularSizeRow : OpenClaim := { program := "ythbfhfgmanafpaa", sum := "046373a4c35ce12af2786114fb08bf2712f8e2279ffc591d7875f1ec2baaba16", func := "stithy/stithylaw02.ModularSize", spec := "modularSize", inPlace := ["math/bits.Sub64", "math/bits.Add64"], unfollowed := true, recurses := true, named := ["math/bits.divideError", "math/bits.overflowError"], apart := false }
def ModularSizeSaid : Prop := modularSizeRow.holds Try.pinned (OpenSpec.ofChange modularSizeSpec)

/-- ITS FALSE NEIGHBOUR: 'it returns false'. Refute it at one input. -/
def modularSizeWrong : ChangeSpec := { name := "modularSize", fn := fun _ => fun
  | [d1, d2] => { results := [.lit (.bool false)], args := [d1, d2] }
  | _ => none }
def ModularSizeWrongFalsely : Prop := modularSizeRow.holds Try.pinned (OpenSpec.ofChange modularSizeWrong)

/- THE SECOND FORM. 'bulk': how many values and letters a reading holds, each counted each time it is reached (what is shared counts as often as it is met; a slice's spare places count too). A statement '..UptoSaid' is the law's where the arguments, and the package variables that the reading takes, are together of bulk at most 1048576: NARROWER than '..Said'. Prove '..Said' where nothing that the law and all that it calls make is longer than what came in: it says more and counts as full. Else prove '..UptoSaid'. A law counts once. -/
mutual
def uptoBulk {H : Type} : DataW H → Nat
  | .lit (.string bytes) => bytes.length + 1
  | .lit _ => 1
  | .nil => 1
  | .ptr d => uptoBulk d + 1
  | .slice elems spare => uptoBulkAll elems + uptoBulkAll spare + 1
  | .agg parts => uptoBulkAll parts + 1
  | .iface _ d => uptoBulk d + 1
  | .map entries => uptoBulkEntries entries + 1
  | .held _ => 1
def uptoBulkAll {H : Type} : List (DataW H) → Nat
  | [] => 0
  | d :: r => uptoBulk d + uptoBulkAll r
def uptoBulkEntries {H : Type} : List (Lit × DataW H) → Nat
  | [] => 0
  | x :: r => uptoBulkEntry x + uptoBulkEntries r
def uptoBulkEntry {H : Type} : Lit × DataW H → Nat
  | (.string bytes, d) => bytes.length + uptoBulk d + 1
  | (_, d) => uptoBulk d + 1
 end
def uptoSmall : (H : Type) → List (DataW H) → Bool := fun _ ds => decide (uptoBulkAll ds ≤ 1048576)
def OpenSpec.upto (s : _root_.Go.ChangeSpec) : _root_.Go.OpenSpec := { _root_.Go.OpenSpec.ofChange s with cond := some uptoSmall }

/-- 'stithylaw02.ModularReckons', WHERE WHAT IT READS IS OF BULK AT MOST 1048576: true; the input reads as it did. -/
def modularReckonsUptoRow : OpenClaim := { program := "ythbfhfgmanafpaa", sum := "046373a4c35ce12af2786114fb08bf2712f8e2279ffc591d7875f1ec2baaba16", func := "stithy/stithylaw02.ModularReckons", spec := "modularReckons", inPlace := ["math/bits.Sub64", "math/bits.Add64"], unfollowed := true, recurses := true, named := ["math/bits.divideError", "math/bits.overflowError"], apart := false, narrowed := true }
def ModularReckonsUptoSaid : Prop := modularReckonsUptoRow.holds Try.pinned (OpenSpec.upto modularReckonsSpec)

/-- 'stithylaw02.ModularDivides', WHERE WHAT IT READS IS OF BULK AT MOST 1048576: true; the input reads as it did. -/
def modularDividesUptoRow : OpenClaim := { program := "ythbfhfgmanafpaa", sum := "046373a4c35ce12af2786114fb08bf2712f8e2279ffc591d7875f1ec2baaba16", func := "stithy/stithylaw02.ModularDivides", spec := "modularDivides", inPlace := ["math/bits.Sub64", "math/bits.Add64"], unfollowed := true, recurses := true, named := ["math/bits.divideError", "math/bits.overflowError"], apart := false, narrowed := true }
def ModularDividesUptoSaid : Prop := modularDividesUptoRow.holds Try.pinned (OpenSpec.upto modularDividesSpec)

/-- 'stithylaw02.ModularRests', WHERE WHAT IT READS IS OF BULK AT MOST 1048576: true; the input reads as it did. -/
def modularRestsUptoRow : OpenClaim := { program := "ythbfhfgmanafpaa", sum := "046373a4c35ce12af2786114fb08bf2712f8e2279ffc591d7875f1ec2baaba16", func := "stithy/stithylaw02.ModularRests", spec := "modularRests", inPlace := ["math/bits.Sub64", "math/bits.Add64"], unfollowed := true, recurses := true, named := ["math/bits.divideError", "math/bits.overflowError"], apart := false, narrowed := true }
def ModularRestsUptoSaid : Prop := modularRestsUptoRow.holds Try.pinned (OpenSpec.upto modularRestsSpec)

/-- 'stithylaw02.ModularSigns', WHERE WHAT IT READS IS OF BULK AT MOST 1048576: true; the input reads as it did. -/
def modularSignsUptoRow : OpenClaim := { program := "ythbfhfgmanafpaa", sum := "046373a4c35ce12af2786114fb08bf2712f8e2279ffc591d7875f1ec2baaba16", func := "stithy/stithylaw02.ModularSigns", spec := "modularSigns", inPlace := ["math/bits.Sub64", "math/bits.Add64"], unfollowed := true, recurses := true, named := ["math/bits.divideError", "math/bits.overflowError"], apart := false, narrowed := true }
def ModularSignsUptoSaid : Prop := modularSignsUptoRow.holds Try.pinned (OpenSpec.upto modularSignsSpec)

/-- 'stithylaw02.ModularSize', WHERE WHAT IT READS IS OF BULK AT MOST 1048576: true; the input reads as it did. -/
def modularSizeUptoRow : OpenClaim := { program := "ythbfhfgmanafpaa", sum := "046373a4c35ce12af2786114fb08bf2712f8e2279ffc591d7875f1ec2baaba16", func := "stithy/stithylaw02.ModularSize", spec := "modularSize", inPlace := ["math/bits.Sub64", "math/bits.Add64"], unfollowed := true, recurses := true, named := ["math/bits.divideError", "math/bits.overflowError"], apart := false, narrowed := true }
def ModularSizeUptoSaid : Prop := modularSizeUptoRow.holds Try.pinned (OpenSpec.upto modularSizeSpec)

end Rows
end Go.Proofs.Ythbfhfgmanafpaa
