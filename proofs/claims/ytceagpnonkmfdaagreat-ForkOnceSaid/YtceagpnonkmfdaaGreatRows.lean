/-
  No cell of these rows narrows 'for every input' (looked for: loops, veiled, ifaces, maps, wideKeys, modest, calm, conditions, laid).
  DERIVED. THE GIVEN ROWS OF THIS SEAT. 4 by the template 'for every input the law returns true; each argument reads behind the call as it read before'; 0 by the template 'total and deterministic' (their statements: YtceagpnonkmfdaaGreatTotals.lean).
  GIVEN WITH THE SEED: the statements are not yours to turn. If you find one false, say at which input.
  Laid BY PROGRAM, IN A SANDBOX (cutbox-rows.mjs): the forced cells as the released guide's own fill.sh prints them over the translation e1188ccde8a432b5… (all of the seat's roots in one cut). By AI agents, Wed Nov 11 2026. No macro, syntax, notation, axiom, sorry.
-/
import Derived.Test.YtceagpnonkmfdaaGreatChecked
import GoSem.Claim
import GoSem.ClaimJoined
import GoSem.ClaimMapViews
import Derived.JoinedTies
import Derived.KernelRfl
namespace Go.Proofs.YtceagpnonkmfdaaGreat
/- THE CELL 'sum', in the pinned program and in every row, IS THE sha256 OF THE DUMP (.gsa) THAT YtceagpnonkmfdaaGreatProg.lean LOADS. Nothing in Lean hashes anything: it is a label: what it is worth is what the hold of that sum in a sandbox is worth. -/
noncomputable def Tryz.pinned : Pinned := { name := "ytceagpnonkmfdaagreat", sum := "e1188ccde8a432b5e0781c973d5700be50b0ce071e056296f4b7e88b0a852bfa", checked := Tryz.checked }
namespace Rows
def none {H : Type} : Left H := { results := [], args := [] }

/-- 'stithylaw09.ForkPlays': WHATEVER THE INPUT: true; the input reads as it did. -/
def forkPlaysSpec : ChangeSpec := { name := "forkPlays", fn := fun _ => fun
  | [d1, d2, d3, d4] => { results := [.lit (.bool true)], args := [d1, d2, d3, d4] }
  | _ => none }
def forkPlaysRow : OpenClaim := { program := "ytceagpnonkmfdaagreat", sum := "e1188ccde8a432b5e0781c973d5700be50b0ce071e056296f4b7e88b0a852bfa", func := "stithy/stithylaw09.ForkPlays", spec := "forkPlays", inPlace := ["internal/abi.NoEscape", "internal/bytealg.MakeNoZero"], unfollowed := true, recurses := true, plainKeys := false, apart := false }
def ForkPlaysSaid : Prop := forkPlaysRow.holds Tryz.pinned (OpenSpec.ofChange forkPlaysSpec)

/-- ITS FALSE NEIGHBOUR: 'it returns false'. Refute it at one input. -/
def forkPlaysWrong : ChangeSpec := { name := "forkPlays", fn := fun _ => fun
  | [d1, d2, d3, d4] => { results := [.lit (.bool false)], args := [d1, d2, d3, d4] }
  | _ => none }
def ForkPlaysWrongFalsely : Prop := forkPlaysRow.holds Tryz.pinned (OpenSpec.ofChange forkPlaysWrong)

/-- 'stithylaw09.ForkOnce': WHATEVER THE INPUT: true; the input reads as it did. -/
def forkOnceSpec : ChangeSpec := { name := "forkOnce", fn := fun _ => fun
  | [d1, d2, d3, d4] => { results := [.lit (.bool true)], args := [d1, d2, d3, d4] }
  | _ => none }
def forkOnceRow : OpenClaim := { program := "ytceagpnonkmfdaagreat", sum := "e1188ccde8a432b5e0781c973d5700be50b0ce071e056296f4b7e88b0a852bfa", func := "stithy/stithylaw09.ForkOnce", spec := "forkOnce", inPlace := ["internal/abi.NoEscape", "internal/bytealg.MakeNoZero"], unfollowed := true, recurses := true, plainKeys := false, apart := false }
def ForkOnceSaid : Prop := forkOnceRow.holds Tryz.pinned (OpenSpec.ofChange forkOnceSpec)

/-- ITS FALSE NEIGHBOUR: 'it returns false'. Refute it at one input. -/
def forkOnceWrong : ChangeSpec := { name := "forkOnce", fn := fun _ => fun
  | [d1, d2, d3, d4] => { results := [.lit (.bool false)], args := [d1, d2, d3, d4] }
  | _ => none }
def ForkOnceWrongFalsely : Prop := forkOnceRow.holds Tryz.pinned (OpenSpec.ofChange forkOnceWrong)

/-- 'stithylaw09.ForkNumbers': WHATEVER THE INPUT: true; the input reads as it did. -/
def forkNumbersSpec : ChangeSpec := { name := "forkNumbers", fn := fun _ => fun
  | [d1, d2] => { results := [.lit (.bool true)], args := [d1, d2] }
  | _ => none }
def forkNumbersRow : OpenClaim := { program := "ytceagpnonkmfdaagreat", sum := "e1188ccde8a432b5e0781c973d5700be50b0ce071e056296f4b7e88b0a852bfa", func := "stithy/stithylaw09.ForkNumbers", spec := "forkNumbers", inPlace := ["internal/abi.NoEscape", "internal/bytealg.MakeNoZero"], unfollowed := true, recurses := true, plainKeys := false, apart := false }
def ForkNumbersSaid : Prop := forkNumbersRow.holds Tryz.pinned (OpenSpec.ofChange forkNumbersSpec)

/-- ITS FALSE NEIGHBOUR: 'it returns false'. Refute it at one input. -/
def forkNumbersWrong : ChangeSpec := { name := "forkNumbers", fn := fun _ => fun
  | [d1, d2] => { results := [.lit (.bool false)], args := [d1, d2] }
  | _ => none }
def ForkNumbersWrongFalsely : Prop := forkNumbersRow.holds Tryz.pinned (OpenSpec.ofChange forkNumbersWrong)

/-- 'stithylaw09.ForkFull': WHATEVER THE INPUT: true; the input reads as it did. -/
def forkFullSpec : ChangeSpec := { name := "forkFull", fn := fun _ => fun
  | [d1, d2, d3] => { results := [.lit (.bool true)], args := [d1, d2, d3] }
  | _ => none }
def forkFullRow : OpenClaim := { program := "ytceagpnonkmfdaagreat", sum := "e1188ccde8a432b5e0781c973d5700be50b0ce071e056296f4b7e88b0a852bfa", func := "stithy/stithylaw09.ForkFull", spec := "forkFull", inPlace := ["internal/abi.NoEscape", "internal/bytealg.MakeNoZero"], unfollowed := true, recurses := true, plainKeys := false, apart := false }
def ForkFullSaid : Prop := forkFullRow.holds Tryz.pinned (OpenSpec.ofChange forkFullSpec)

/-- ITS FALSE NEIGHBOUR: 'it returns false'. Refute it at one input. -/
def forkFullWrong : ChangeSpec := { name := "forkFull", fn := fun _ => fun
  | [d1, d2, d3] => { results := [.lit (.bool false)], args := [d1, d2, d3] }
  | _ => none }
def ForkFullWrongFalsely : Prop := forkFullRow.holds Tryz.pinned (OpenSpec.ofChange forkFullWrong)

/- THE SECOND FORM. 'bulk': how many values and letters a reading holds, each counted each time it is reached (what is shared counts as often as it is met; a slice's spare places count too). A statement '..UptoSaid' is the law's where the arguments, and the package variables that the reading takes, are together of bulk at most 1048576: NARROWER than '..Said'. Prove '..Said' where nothing that the law and all that it calls make is longer than what came in: it says more and counts as full. Else prove '..UptoSaid'. A law counts once. -/
mutual
def uptoBulk {H : Type} : DataW H → Nat
  | .lit (.string bytes) => bytes.length + 1
  | .lit _ => 1
  | .nil => 1
  | .ptr d => uptoBulk d + 1
  | .slice elems spare => uptoBulkAll elems + uptoBulkAll spare + 1
  | .agg parts => uptoBulkAll parts + 1
  | .iface _ d => uptoBulk d + 1
  | .map entries => uptoBulkEntries entries + 1
  | .held _ => 1
def uptoBulkAll {H : Type} : List (DataW H) → Nat
  | [] => 0
  | d :: r => uptoBulk d + uptoBulkAll r
def uptoBulkEntries {H : Type} : List (Lit × DataW H) → Nat
  | [] => 0
  | x :: r => uptoBulkEntry x + uptoBulkEntries r
def uptoBulkEntry {H : Type} : Lit × DataW H → Nat
  | (.string bytes, d) => bytes.length + uptoBulk d + 1
  | (_, d) => uptoBulk d + 1
 end
def uptoSmall : (H : Type) → List (DataW H) → Bool := fun _ ds => decide (uptoBulkAll ds ≤ 1048576)
def OpenSpec.upto (s : _root_.Go.ChangeSpec) : _root_.Go.OpenSpec := { _root_.Go.OpenSpec.ofChange s with cond := some uptoSmall }

/-- 'stithylaw09.ForkPlays', WHERE WHAT IT READS IS OF BULK AT MOST 1048576: true; the input reads as it did. -/
def forkPlaysUptoRow : OpenClaim := { program := "ytceagpnonkmfdaagreat", sum := "e1188ccde8a432b5e0781c973d5700be50b0ce071e056296f4b7e88b0a852bfa", func := "stithy/stithylaw09.ForkPlays", spec := "forkPlays", inPlace := ["internal/abi.NoEscape", "internal/bytealg.MakeNoZero"], unfollowed := true, recurses := true, plainKeys := false, apart := false, narrowed := true }
def ForkPlaysUptoSaid : Prop := forkPlaysUptoRow.holds Tryz.pinned (OpenSpec.upto forkPlaysSpec)

/-- 'stithylaw09.ForkOnce', WHERE WHAT IT READS IS OF BULK AT MOST 1048576: true; the input reads as it did. -/
def forkOnceUptoRow : OpenClaim := { program := "ytceagpnonkmfdaagreat", sum := "e1188ccde8a432b5e0781c973d5700be50b0ce071e056296f4b7e88b0a852bfa", func := "stithy/stithylaw09.ForkOnce", spec := "forkOnce", inPlace := ["internal/abi.NoEscape", "internal/bytealg.MakeNoZero"], unfollowed := true, recurses := true, plainKeys := false, apart := false, narrowed := true }
def ForkOnceUptoSaid : Prop := forkOnceUptoRow.holds Tryz.pinned (OpenSpec.upto forkOnceSpec)

/-- 'stithylaw09.ForkNumbers', WHERE WHAT IT READS IS OF BULK AT MOST 1048576: true; the input reads as it did. -/
def forkNumbersUptoRow : OpenClaim := { program := "ytceagpnonkmfdaagreat", sum := "e1188ccde8a432b5e0781c973d5700be50b0ce071e056296f4b7e88b0a852bfa", func := "stithy/stithylaw09.ForkNumbers", spec := "forkNumbers", inPlace := ["internal/abi.NoEscape", "internal/bytealg.MakeNoZero"], unfollowed := true, recurses := true, plainKeys := false, apart := false, narrowed := true }
def ForkNumbersUptoSaid : Prop := forkNumbersUptoRow.holds Tryz.pinned (OpenSpec.upto forkNumbersSpec)

/-- 'stithylaw09.ForkFull', WHERE WHAT IT READS IS OF BULK AT MOST 1048576: true; the input reads as it did. -/
def forkFullUptoRow : OpenClaim := { program := "ytceagpnonkmfdaagreat", sum := "e1188ccde8a432b5e0781c973d5700be50b0ce071e056296f4b7e88b0a852bfa", func := "stithy/stithylaw09.ForkFull", spec := "forkFull", inPlace := ["internal/abi.NoEscape", "internal/bytealg.MakeNoZero"], unfollowed := true, recurses := true, plainKeys := false, apart := false, narrowed := true }
def ForkFullUptoSaid : Prop := forkFullUptoRow.holds Tryz.pinned (OpenSpec.upto forkFullSpec)

end Rows
end Go.Proofs.YtceagpnonkmfdaaGreat
