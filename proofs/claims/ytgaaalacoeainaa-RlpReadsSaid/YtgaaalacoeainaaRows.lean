/-
  No cell of these rows narrows 'for every input' (looked for: loops, veiled, ifaces, maps, wideKeys, modest, calm, conditions, laid).
  DERIVED. THE GIVEN ROWS OF THIS SEAT. 7 by the template 'for every input the law returns true; each argument reads behind the call as it read before'; 0 by the template 'total and deterministic' (their statements: YtgaaalacoeainaaTotals.lean).
  GIVEN WITH THE SEED: the statements are not yours to turn. If you find one false, say at which input.
  Laid BY PROGRAM, IN A SANDBOX (cutbox-rows.mjs): the forced cells as the released guide's own fill.sh prints them over the translation 310c04654f970b93… (all of the seat's roots in one cut). By AI agents, Wed Nov 11 2026. No macro, syntax, notation, axiom, sorry.
-/
import Derived.Test.YtgaaalacoeainaaChecked
import GoSem.Claim
import GoSem.ClaimJoined
import GoSem.ClaimMapViews
import Derived.JoinedTies
import Derived.KernelRfl
namespace Go.Proofs.Ytgaaalacoeainaa
/- THE CELL 'sum', in the pinned program and in every row, IS THE sha256 OF THE DUMP (.gsa) THAT YtgaaalacoeainaaProg.lean LOADS. Nothing in Lean hashes anything: it is a label: what it is worth is what the hold of that sum in a sandbox is worth. -/
noncomputable def Try.pinned : Pinned := { name := "ytgaaalacoeainaa", sum := "310c04654f970b93bb84c4e4c9293e27ca0ec29eb36b650a18600a54c9293ff7", checked := Try.checked }
namespace Rows
def none {H : Type} : Left H := { results := [], args := [] }

/-- 'stithylaw04.RlpWrites': WHATEVER THE INPUT: true; the input reads as it did. -/
def rlpWritesSpec : ChangeSpec := { name := "rlpWrites", fn := fun _ => fun
  | [d1, d2] => { results := [.lit (.bool true)], args := [d1, d2] }
  | _ => none }
def rlpWritesRow : OpenClaim := { program := "ytgaaalacoeainaa", sum := "310c04654f970b93bb84c4e4c9293e27ca0ec29eb36b650a18600a54c9293ff7", func := "stithy/stithylaw04.RlpWrites", spec := "rlpWrites", inPlace := ["internal/abi.NoEscape", "internal/bytealg.MakeNoZero"], unfollowed := true, recurses := true, apart := false }
def RlpWritesSaid : Prop := rlpWritesRow.holds Try.pinned (OpenSpec.ofChange rlpWritesSpec)

/-- ITS FALSE NEIGHBOUR: 'it returns false'. Refute it at one input. -/
def rlpWritesWrong : ChangeSpec := { name := "rlpWrites", fn := fun _ => fun
  | [d1, d2] => { results := [.lit (.bool false)], args := [d1, d2] }
  | _ => none }
def RlpWritesWrongFalsely : Prop := rlpWritesRow.holds Try.pinned (OpenSpec.ofChange rlpWritesWrong)

/-- 'stithylaw04.RlpReads': WHATEVER THE INPUT: true; the input reads as it did. -/
def rlpReadsSpec : ChangeSpec := { name := "rlpReads", fn := fun _ => fun
  | [d1, d2, d3, d4, d5, d6] => { results := [.lit (.bool true)], args := [d1, d2, d3, d4, d5, d6] }
  | _ => none }
def rlpReadsRow : OpenClaim := { program := "ytgaaalacoeainaa", sum := "310c04654f970b93bb84c4e4c9293e27ca0ec29eb36b650a18600a54c9293ff7", func := "stithy/stithylaw04.RlpReads", spec := "rlpReads", inPlace := ["internal/abi.NoEscape", "internal/bytealg.MakeNoZero"], unfollowed := true, recurses := true, apart := false }
def RlpReadsSaid : Prop := rlpReadsRow.holds Try.pinned (OpenSpec.ofChange rlpReadsSpec)

/-- ITS FALSE NEIGHBOUR: 'it returns false'. Refute it at one input. -/
def rlpReadsWrong : ChangeSpec := { name := "rlpReads", fn := fun _ => fun
  | [d1, d2, d3, d4, d5, d6] => { results := [.lit (.bool false)], args := [d1, d2, d3, d4, d5, d6] }
  | _ => none }
def RlpReadsWrongFalsely : Prop := rlpReadsRow.holds Try.pinned (OpenSpec.ofChange rlpReadsWrong)

/-- 'stithylaw04.RlpBack': WHATEVER THE INPUT: true; the input reads as it did. -/
def rlpBackSpec : ChangeSpec := { name := "rlpBack", fn := fun _ => fun
  | [d1, d2] => { results := [.lit (.bool true)], args := [d1, d2] }
  | _ => none }
def rlpBackRow : OpenClaim := { program := "ytgaaalacoeainaa", sum := "310c04654f970b93bb84c4e4c9293e27ca0ec29eb36b650a18600a54c9293ff7", func := "stithy/stithylaw04.RlpBack", spec := "rlpBack", inPlace := ["internal/abi.NoEscape", "internal/bytealg.MakeNoZero"], unfollowed := true, recurses := true, apart := false }
def RlpBackSaid : Prop := rlpBackRow.holds Try.pinned (OpenSpec.ofChange rlpBackSpec)

/-- ITS FALSE NEIGHBOUR: 'it returns false'. Refute it at one input. -/
def rlpBackWrong : ChangeSpec := { name := "rlpBack", fn := fun _ => fun
  | [d1, d2] => { results := [.lit (.bool false)], args := [d1, d2] }
  | _ => none }
def RlpBackWrongFalsely : Prop := rlpBackRow.holds Try.pinned (OpenSpec.ofChange rlpBackWrong)

/-- 'stithylaw04.RlpAgain': WHATEVER THE INPUT: true; the input reads as it did. -/
def rlpAgainSpec : ChangeSpec := { name := "rlpAgain", fn := fun _ => fun
  | [d] => { results := [.lit (.bool true)], args := [d] }
  | _ => none }
def rlpAgainRow : OpenClaim := { program := "ytgaaalacoeainaa", sum := "310c04654f970b93bb84c4e4c9293e27ca0ec29eb36b650a18600a54c9293ff7", func := "stithy/stithylaw04.RlpAgain", spec := "rlpAgain", inPlace := ["internal/abi.NoEscape", "internal/bytealg.MakeNoZero"], unfollowed := true, recurses := true, apart := false }
def RlpAgainSaid : Prop := rlpAgainRow.holds Try.pinned (OpenSpec.ofChange rlpAgainSpec)

/-- ITS FALSE NEIGHBOUR: 'it returns false'. Refute it at one input. -/
def rlpAgainWrong : ChangeSpec := { name := "rlpAgain", fn := fun _ => fun
  | [d] => { results := [.lit (.bool false)], args := [d] }
  | _ => none }
def RlpAgainWrongFalsely : Prop := rlpAgainRow.holds Try.pinned (OpenSpec.ofChange rlpAgainWrong)

/-- 'stithylaw04.RlpDeep': WHATEVER THE INPUT: true; the input reads as it did. -/
def rlpDeepSpec : ChangeSpec := { name := "rlpDeep", fn := fun _ => fun
  | [d] => { results := [.lit (.bool true)], args := [d] }
  | _ => none }
def rlpDeepRow : OpenClaim := { program := "ytgaaalacoeainaa", sum := "310c04654f970b93bb84c4e4c9293e27ca0ec29eb36b650a18600a54c9293ff7", func := "stithy/stithylaw04.RlpDeep", spec := "rlpDeep", inPlace := ["internal/abi.NoEscape", "internal/bytealg.MakeNoZero"], unfollowed := true, recurses := true, apart := false }
def RlpDeepSaid : Prop := rlpDeepRow.holds Try.pinned (OpenSpec.ofChange rlpDeepSpec)

/-- ITS FALSE NEIGHBOUR: 'it returns false'. Refute it at one input. -/
def rlpDeepWrong : ChangeSpec := { name := "rlpDeep", fn := fun _ => fun
  | [d] => { results := [.lit (.bool false)], args := [d] }
  | _ => none }
def RlpDeepWrongFalsely : Prop := rlpDeepRow.holds Try.pinned (OpenSpec.ofChange rlpDeepWrong)

/-- 'stithylaw04.RlpNumbers': WHATEVER THE INPUT: true; the input reads as it did. -/
def rlpNumbersSpec : ChangeSpec := { name := "rlpNumbers", fn := fun _ => fun
  | [d1, d2] => { results := [.lit (.bool true)], args := [d1, d2] }
  | _ => none }
def rlpNumbersRow : OpenClaim := { program := "ytgaaalacoeainaa", sum := "310c04654f970b93bb84c4e4c9293e27ca0ec29eb36b650a18600a54c9293ff7", func := "stithy/stithylaw04.RlpNumbers", spec := "rlpNumbers", inPlace := ["internal/abi.NoEscape", "internal/bytealg.MakeNoZero"], unfollowed := true, recurses := true, apart := false }
def RlpNumbersSaid : Prop := rlpNumbersRow.holds Try.pinned (OpenSpec.ofChange rlpNumbersSpec)

/-- ITS FALSE NEIGHBOUR: 'it returns false'. Refute it at one input. -/
def rlpNumbersWrong : ChangeSpec := { name := "rlpNumbers", fn := fun _ => fun
  | [d1, d2] => { results := [.lit (.bool false)], args := [d1, d2] }
  | _ => none }
def RlpNumbersWrongFalsely : Prop := rlpNumbersRow.holds Try.pinned (OpenSpec.ofChange rlpNumbersWrong)

/-- 'stithylaw04.RlpShort': WHATEVER THE INPUT: true; the input reads as it did. -/
def rlpShortSpec : ChangeSpec := { name := "rlpShort", fn := fun _ => fun
  | [d] => { results := [.lit (.bool true)], args := [d] }
  | _ => none }
def rlpShortRow : OpenClaim := { program := "ytgaaalacoeainaa", sum := "310c04654f970b93bb84c4e4c9293e27ca0ec29eb36b650a18600a54c9293ff7", func := "stithy/stithylaw04.RlpShort", spec := "rlpShort", inPlace := ["internal/abi.NoEscape", "internal/bytealg.MakeNoZero"], unfollowed := true, recurses := true, apart := false }
def RlpShortSaid : Prop := rlpShortRow.holds Try.pinned (OpenSpec.ofChange rlpShortSpec)

/-- ITS FALSE NEIGHBOUR: 'it returns false'. Refute it at one input. -/
def rlpShortWrong : ChangeSpec := { name := "rlpShort", fn := fun _ => fun
  | [d] => { results := [.lit (.bool false)], args := [d] }
  | _ => none }
def RlpShortWrongFalsely : Prop := rlpShortRow.holds Try.pinned (OpenSpec.ofChange rlpShortWrong)

/- THE SECOND FORM. 'bulk': how many values and letters a reading holds, each counted each time it is reached (what is shared counts as often as it is met; a slice's spare places count too). A statement '..UptoSaid' is the law's where the arguments, and the package variables that the reading takes, are together of bulk at most 1048576: NARROWER than '..Said'. Prove '..Said' where nothing that the law and all that it calls make is longer than what came in: it says more and counts as full. Else prove '..UptoSaid'. A law counts once. -/
mutual
def uptoBulk {H : Type} : DataW H → Nat
  | .lit (.string bytes) => bytes.length + 1
  | .lit _ => 1
  | .nil => 1
  | .ptr d => uptoBulk d + 1
  | .slice elems spare => uptoBulkAll elems + uptoBulkAll spare + 1
  | .agg parts => uptoBulkAll parts + 1
  | .iface _ d => uptoBulk d + 1
  | .map entries => uptoBulkEntries entries + 1
  | .held _ => 1
def uptoBulkAll {H : Type} : List (DataW H) → Nat
  | [] => 0
  | d :: r => uptoBulk d + uptoBulkAll r
def uptoBulkEntries {H : Type} : List (Lit × DataW H) → Nat
  | [] => 0
  | x :: r => uptoBulkEntry x + uptoBulkEntries r
def uptoBulkEntry {H : Type} : Lit × DataW H → Nat
  | (.string bytes, d) => bytes.length + uptoBulk d + 1
  | (_, d) => uptoBulk d + 1
 end
def uptoSmall : (H : Type) → List (DataW H) → Bool := fun _ ds => decide (uptoBulkAll ds ≤ 1048576)
def OpenSpec.upto (s : _root_.Go.ChangeSpec) : _root_.Go.OpenSpec := { _root_.Go.OpenSpec.ofChange s with cond := some uptoSmall }

/-- 'stithylaw04.RlpWrites', WHERE WHAT IT READS IS OF BULK AT MOST 1048576: true; the input reads as it did. -/
def rlpWritesUptoRow : OpenClaim := { program := "ytgaaalacoeainaa", sum := "310c04654f970b93bb84c4e4c9293e27ca0ec29eb36b650a18600a54c9293ff7", func := "stithy/stithylaw04.RlpWrites", spec := "rlpWrites", inPlace := ["internal/abi.NoEscape", "internal/bytealg.MakeNoZero"], unfollowed := true, recurses := true, apart := false, narrowed := true }
def RlpWritesUptoSaid : Prop := rlpWritesUptoRow.holds Try.pinned (OpenSpec.upto rlpWritesSpec)

/-- 'stithylaw04.RlpReads', WHERE WHAT IT READS IS OF BULK AT MOST 1048576: true; the input reads as it did. -/
def rlpReadsUptoRow : OpenClaim := { program := "ytgaaalacoeainaa", sum := "310c04654f970b93bb84c4e4c9293e27ca0ec29eb36b650a18600a54c9293ff7", func := "stithy/stithylaw04.RlpReads", spec := "rlpReads", inPlace := ["internal/abi.NoEscape", "internal/bytealg.MakeNoZero"], unfollowed := true, recurses := true, apart := false, narrowed := true }
def RlpReadsUptoSaid : Prop := rlpReadsUptoRow.holds Try.pinned (OpenSpec.upto rlpReadsSpec)

/-- 'stithylaw04.RlpBack', WHERE WHAT IT READS IS OF BULK AT MOST 1048576: true; the input reads as it did. -/
def rlpBackUptoRow : OpenClaim := { program := "ytgaaalacoeainaa", sum := "310c04654f970b93bb84c4e4c9293e27ca0ec29eb36b650a18600a54c9293ff7", func := "stithy/stithylaw04.RlpBack", spec := "rlpBack", inPlace := ["internal/abi.NoEscape", "internal/bytealg.MakeNoZero"], unfollowed := true, recurses := true, apart := false, narrowed := true }
def RlpBackUptoSaid : Prop := rlpBackUptoRow.holds Try.pinned (OpenSpec.upto rlpBackSpec)

/-- 'stithylaw04.RlpAgain', WHERE WHAT IT READS IS OF BULK AT MOST 1048576: true; the input reads as it did. -/
def rlpAgainUptoRow : OpenClaim := { program := "ytgaaalacoeainaa", sum := "310c04654f970b93bb84c4e4c9293e27ca0ec29eb36b650a18600a54c9293ff7", func := "stithy/stithylaw04.RlpAgain", spec := "rlpAgain", inPlace := ["internal/abi.NoEscape", "internal/bytealg.MakeNoZero"], unfollowed := true, recurses := true, apart := false, narrowed := true }
def RlpAgainUptoSaid : Prop := rlpAgainUptoRow.holds Try.pinned (OpenSpec.upto rlpAgainSpec)

/-- 'stithylaw04.RlpDeep', WHERE WHAT IT READS IS OF BULK AT MOST 1048576: true; the input reads as it did. -/
def rlpDeepUptoRow : OpenClaim := { program := "ytgaaalacoeainaa", sum := "310c04654f970b93bb84c4e4c9293e27ca0ec29eb36b650a18600a54c9293ff7", func := "stithy/stithylaw04.RlpDeep", spec := "rlpDeep", inPlace := ["internal/abi.NoEscape", "internal/bytealg.MakeNoZero"], unfollowed := true, recurses := true, apart := false, narrowed := true }
def RlpDeepUptoSaid : Prop := rlpDeepUptoRow.holds Try.pinned (OpenSpec.upto rlpDeepSpec)

/-- 'stithylaw04.RlpNumbers', WHERE WHAT IT READS IS OF BULK AT MOST 1048576: true; the input reads as it did. -/
def rlpNumbersUptoRow : OpenClaim := { program := "ytgaaalacoeainaa", sum := "310c04654f970b93bb84c4e4c9293e27ca0ec29eb36b650a18600a54c9293ff7", func := "stithy/stithylaw04.RlpNumbers", spec := "rlpNumbers", inPlace := ["internal/abi.NoEscape", "internal/bytealg.MakeNoZero"], unfollowed := true, recurses := true, apart := false, narrowed := true }
def RlpNumbersUptoSaid : Prop := rlpNumbersUptoRow.holds Try.pinned (OpenSpec.upto rlpNumbersSpec)

/-- 'stithylaw04.RlpShort', WHERE WHAT IT READS IS OF BULK AT MOST 1048576: true; the input reads as it did. -/
def rlpShortUptoRow : OpenClaim := { program := "ytgaaalacoeainaa", sum := "310c04654f970b93bb84c4e4c9293e27ca0ec29eb36b650a18600a54c9293ff7", func := "stithy/stithylaw04.RlpShort", spec := "rlpShort", inPlace := ["internal/abi.NoEscape", "internal/bytealg.MakeNoZero"], unfollowed := true, recurses := true, apart := false, narrowed := true }
def RlpShortUptoSaid : Prop := rlpShortUptoRow.holds Try.pinned (OpenSpec.upto rlpShortSpec)

end Rows
end Go.Proofs.Ytgaaalacoeainaa
