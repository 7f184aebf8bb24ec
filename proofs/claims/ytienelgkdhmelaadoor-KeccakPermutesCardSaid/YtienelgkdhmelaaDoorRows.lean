/-
  NARROWER THAN 'FOR EVERY INPUT', by the rows' own cells (each row's printed sentence says how): KeccakSums: laid · KeccakPermutes: laid · KeccakApart: laid · KeccakSame: laid · KeccakPads: laid.
  DERIVED. THE GIVEN ROWS OF THIS SEAT. 5 by the template 'for every input the law returns true; each argument reads behind the call as it read before'; 0 by the template 'total and deterministic' (their statements: YtienelgkdhmelaaDoorTotals.lean).
  GIVEN WITH THE SEED: the statements are not yours to turn. If you find one false, say at which input.
  Laid BY PROGRAM, IN A SANDBOX (cutbox-rows.mjs): the forced cells as the released guide's own fill.sh prints them over the translation eb92c56d0e28a2c9… (all of the seat's roots in one cut). By AI agents, Wed Nov 11 2026. No macro, syntax, notation, axiom, sorry.
-/
import Derived.Test.YtienelgkdhmelaaDoorChecked
import GoSem.Claim
import GoSem.ClaimJoined
import GoSem.ClaimMapViews
import Derived.JoinedTies
import Derived.KernelRfl
namespace Go.Proofs.YtienelgkdhmelaaDoor
/- THE CELL 'sum', in the pinned program and in every row, IS THE sha256 OF THE DUMP (.gsa) THAT YtienelgkdhmelaaDoorProg.lean LOADS. Nothing in Lean hashes anything: it is a label: what it is worth is what the hold of that sum in a sandbox is worth. -/
noncomputable def Tryd.pinned : Pinned := { name := "ytienelgkdhmelaadoor", sum := "eb92c56d0e28a2c966f087c263447f0a6e46e53d6996a36518e49e3f9728941b", checked := Tryd.checked }
namespace Rows
def none {H : Type} : Left H := { results := [], args := [] }

/- WHAT THE LISTED PACKAGE-LEVEL VARIABLES READ AS WHEN THE CALL BEGINS. Each datum BY PROGRAM (the guide's laid-datum.mjs) off the statement by which the dump's own 'gosem.cut.vars' lays the variable. In a bare row this is a premise. The card (YtienelgkdhmelaaDoorCards.lean) ties it to the program's text. -/
def laid_stithy_keccak_walk {H : Type} : DataW H := .agg [.lit (.int .i64 10), .lit (.int .i64 7), .lit (.int .i64 11), .lit (.int .i64 17), .lit (.int .i64 18), .lit (.int .i64 3), .lit (.int .i64 5), .lit (.int .i64 16), .lit (.int .i64 8), .lit (.int .i64 21), .lit (.int .i64 24), .lit (.int .i64 4), .lit (.int .i64 15), .lit (.int .i64 23), .lit (.int .i64 19), .lit (.int .i64 13), .lit (.int .i64 12), .lit (.int .i64 2), .lit (.int .i64 20), .lit (.int .i64 14), .lit (.int .i64 22), .lit (.int .i64 9), .lit (.int .i64 6), .lit (.int .i64 1)]

/-- 'stithylaw03.KeccakSums': WHATEVER THE INPUT: true; the input reads as it did. -/
def keccakSumsSpec : ChangeSpec := { name := "keccakSums", fn := fun _ => fun
  | [d] => { results := [.lit (.bool true)], args := [d] }
  | _ => none }
def keccakSumsRow : OpenClaim := { program := "ytienelgkdhmelaadoor", sum := "eb92c56d0e28a2c966f087c263447f0a6e46e53d6996a36518e49e3f9728941b", func := "stithy/stithylaw03.KeccakSums", spec := "keccakSums", unfollowed := true, recurses := true, named := ["stithy/keccak.walk"], apart := false, laid := [("stithy/keccak.walk", laid_stithy_keccak_walk)] }
def KeccakSumsSaid : Prop := keccakSumsRow.holds Tryd.pinned (OpenSpec.ofChange keccakSumsSpec)

/-- ITS FALSE NEIGHBOUR: 'it returns false'. Refute it at one input. -/
def keccakSumsWrong : ChangeSpec := { name := "keccakSums", fn := fun _ => fun
  | [d] => { results := [.lit (.bool false)], args := [d] }
  | _ => none }
def KeccakSumsWrongFalsely : Prop := keccakSumsRow.holds Tryd.pinned (OpenSpec.ofChange keccakSumsWrong)

/-- 'stithylaw03.KeccakPermutes': WHATEVER THE INPUT: true; the input reads as it did. -/
def keccakPermutesSpec : ChangeSpec := { name := "keccakPermutes", fn := fun _ => fun
  | [d] => { results := [.lit (.bool true)], args := [d] }
  | _ => none }
def keccakPermutesRow : OpenClaim := { program := "ytienelgkdhmelaadoor", sum := "eb92c56d0e28a2c966f087c263447f0a6e46e53d6996a36518e49e3f9728941b", func := "stithy/stithylaw03.KeccakPermutes", spec := "keccakPermutes", unfollowed := true, recurses := true, named := ["stithy/keccak.walk"], apart := false, laid := [("stithy/keccak.walk", laid_stithy_keccak_walk)] }
def KeccakPermutesSaid : Prop := keccakPermutesRow.holds Tryd.pinned (OpenSpec.ofChange keccakPermutesSpec)

/-- ITS FALSE NEIGHBOUR: 'it returns false'. Refute it at one input. -/
def keccakPermutesWrong : ChangeSpec := { name := "keccakPermutes", fn := fun _ => fun
  | [d] => { results := [.lit (.bool false)], args := [d] }
  | _ => none }
def KeccakPermutesWrongFalsely : Prop := keccakPermutesRow.holds Tryd.pinned (OpenSpec.ofChange keccakPermutesWrong)

/-- 'stithylaw03.KeccakApart': WHATEVER THE INPUT: true; the input reads as it did. -/
def keccakApartSpec : ChangeSpec := { name := "keccakApart", fn := fun _ => fun
  | [d1, d2, d3] => { results := [.lit (.bool true)], args := [d1, d2, d3] }
  | _ => none }
def keccakApartRow : OpenClaim := { program := "ytienelgkdhmelaadoor", sum := "eb92c56d0e28a2c966f087c263447f0a6e46e53d6996a36518e49e3f9728941b", func := "stithy/stithylaw03.KeccakApart", spec := "keccakApart", unfollowed := true, recurses := true, named := ["stithy/keccak.walk"], apart := false, laid := [("stithy/keccak.walk", laid_stithy_keccak_walk)] }
def KeccakApartSaid : Prop := keccakApartRow.holds Tryd.pinned (OpenSpec.ofChange keccakApartSpec)

/-- ITS FALSE NEIGHBOUR: 'it returns false'. Refute it at one input. -/
def keccakApartWrong : ChangeSpec := { name := "keccakApart", fn := fun _ => fun
  | [d1, d2, d3] => { results := [.lit (.bool false)], args := [d1, d2, d3] }
  | _ => none }
def KeccakApartWrongFalsely : Prop := keccakApartRow.holds Tryd.pinned (OpenSpec.ofChange keccakApartWrong)

/-- 'stithylaw03.KeccakSame': WHATEVER THE INPUT: true; the input reads as it did. -/
def keccakSameSpec : ChangeSpec := { name := "keccakSame", fn := fun _ => fun
  | [d] => { results := [.lit (.bool true)], args := [d] }
  | _ => none }
def keccakSameRow : OpenClaim := { program := "ytienelgkdhmelaadoor", sum := "eb92c56d0e28a2c966f087c263447f0a6e46e53d6996a36518e49e3f9728941b", func := "stithy/stithylaw03.KeccakSame", spec := "keccakSame", unfollowed := true, recurses := true, named := ["stithy/keccak.walk"], apart := false, laid := [("stithy/keccak.walk", laid_stithy_keccak_walk)] }
def KeccakSameSaid : Prop := keccakSameRow.holds Tryd.pinned (OpenSpec.ofChange keccakSameSpec)

/-- ITS FALSE NEIGHBOUR: 'it returns false'. Refute it at one input. -/
def keccakSameWrong : ChangeSpec := { name := "keccakSame", fn := fun _ => fun
  | [d] => { results := [.lit (.bool false)], args := [d] }
  | _ => none }
def KeccakSameWrongFalsely : Prop := keccakSameRow.holds Tryd.pinned (OpenSpec.ofChange keccakSameWrong)

/-- 'stithylaw03.KeccakPads': WHATEVER THE INPUT: true; the input reads as it did. -/
def keccakPadsSpec : ChangeSpec := { name := "keccakPads", fn := fun _ => fun
  | [d1, d2] => { results := [.lit (.bool true)], args := [d1, d2] }
  | _ => none }
def keccakPadsRow : OpenClaim := { program := "ytienelgkdhmelaadoor", sum := "eb92c56d0e28a2c966f087c263447f0a6e46e53d6996a36518e49e3f9728941b", func := "stithy/stithylaw03.KeccakPads", spec := "keccakPads", unfollowed := true, recurses := true, named := ["stithy/keccak.walk"], apart := false, laid := [("stithy/keccak.walk", laid_stithy_keccak_walk)] }
def KeccakPadsSaid : Prop := keccakPadsRow.holds Tryd.pinned (OpenSpec.ofChange keccakPadsSpec)

/-- ITS FALSE NEIGHBOUR: 'it returns false'. Refute it at one input. -/
def keccakPadsWrong : ChangeSpec := { name := "keccakPads", fn := fun _ => fun
  | [d1, d2] => { results := [.lit (.bool false)], args := [d1, d2] }
  | _ => none }
def KeccakPadsWrongFalsely : Prop := keccakPadsRow.holds Tryd.pinned (OpenSpec.ofChange keccakPadsWrong)

/- THE SECOND FORM. 'bulk': how many values and letters a reading holds, each counted each time it is reached (what is shared counts as often as it is met; a slice's spare places count too). A statement '..UptoSaid' is the law's where the arguments, and the package variables that the reading takes, are together of bulk at most 1048576: NARROWER than '..Said'. Prove '..Said' where nothing that the law and all that it calls make is longer than what came in: it says more and counts as full. Else prove '..UptoSaid'. A law counts once. -/
mutual
def uptoBulk {H : Type} : DataW H → Nat
  | .lit (.string bytes) => bytes.length + 1
  | .lit _ => 1
  | .nil => 1
  | .ptr d => uptoBulk d + 1
  | .slice elems spare => uptoBulkAll elems + uptoBulkAll spare + 1
  | .agg parts => uptoBulkAll parts + 1
  | .iface _ d => uptoBulk d + 1
  | .map entries => uptoBulkEntries entries + 1
  | .held _ => 1
def uptoBulkAll {H : Type} : List (DataW H) → Nat
  | [] => 0
  | d :: r => uptoBulk d + uptoBulkAll r
def uptoBulkEntries {H : Type} : List (Lit × DataW H) → Nat
  | [] => 0
  | x :: r => uptoBulkEntry x + uptoBulkEntries r
def uptoBulkEntry {H : Type} : Lit × DataW H → Nat
  | (.string bytes, d) => bytes.length + uptoBulk d + 1
  | (_, d) => uptoBulk d + 1
 end
def uptoSmall : (H : Type) → List (DataW H) → Bool := fun _ ds => decide (uptoBulkAll ds ≤ 1048576)
def OpenSpec.upto (s : _root_.Go.ChangeSpec) : _root_.Go.OpenSpec := { _root_.Go.OpenSpec.ofChange s with cond := some uptoSmall }

/-- 'stithylaw03.KeccakSums', WHERE WHAT IT READS IS OF BULK AT MOST 1048576: true; the input reads as it did. -/
def keccakSumsUptoRow : OpenClaim := { program := "ytienelgkdhmelaadoor", sum := "eb92c56d0e28a2c966f087c263447f0a6e46e53d6996a36518e49e3f9728941b", func := "stithy/stithylaw03.KeccakSums", spec := "keccakSums", unfollowed := true, recurses := true, named := ["stithy/keccak.walk"], apart := false, laid := [("stithy/keccak.walk", laid_stithy_keccak_walk)], narrowed := true }
def KeccakSumsUptoSaid : Prop := keccakSumsUptoRow.holds Tryd.pinned (OpenSpec.upto keccakSumsSpec)

/-- 'stithylaw03.KeccakPermutes', WHERE WHAT IT READS IS OF BULK AT MOST 1048576: true; the input reads as it did. -/
def keccakPermutesUptoRow : OpenClaim := { program := "ytienelgkdhmelaadoor", sum := "eb92c56d0e28a2c966f087c263447f0a6e46e53d6996a36518e49e3f9728941b", func := "stithy/stithylaw03.KeccakPermutes", spec := "keccakPermutes", unfollowed := true, recurses := true, named := ["stithy/keccak.walk"], apart := false, laid := [("stithy/keccak.walk", laid_stithy_keccak_walk)], narrowed := true }
def KeccakPermutesUptoSaid : Prop := keccakPermutesUptoRow.holds Tryd.pinned (OpenSpec.upto keccakPermutesSpec)

/-- 'stithylaw03.KeccakApart', WHERE WHAT IT READS IS OF BULK AT MOST 1048576: true; the input reads as it did. -/
def keccakApartUptoRow : OpenClaim := { program := "ytienelgkdhmelaadoor", sum := "eb92c56d0e28a2c966f087c263447f0a6e46e53d6996a36518e49e3f9728941b", func := "stithy/stithylaw03.KeccakApart", spec := "keccakApart", unfollowed := true, recurses := true, named := ["stithy/keccak.walk"], apart := false, laid := [("stithy/keccak.walk", laid_stithy_keccak_walk)], narrowed := true }
def KeccakApartUptoSaid : Prop := keccakApartUptoRow.holds Tryd.pinned (OpenSpec.upto keccakApartSpec)

/-- 'stithylaw03.KeccakSame', WHERE WHAT IT READS IS OF BULK AT MOST 1048576: true; the input reads as it did. -/
def keccakSameUptoRow : OpenClaim := { program := "ytienelgkdhmelaadoor", sum := "eb92c56d0e28a2c966f087c263447f0a6e46e53d6996a36518e49e3f9728941b", func := "stithy/stithylaw03.KeccakSame", spec := "keccakSame", unfollowed := true, recurses := true, named := ["stithy/keccak.walk"], apart := false, laid := [("stithy/keccak.walk", laid_stithy_keccak_walk)], narrowed := true }
def KeccakSameUptoSaid : Prop := keccakSameUptoRow.holds Tryd.pinned (OpenSpec.upto keccakSameSpec)

/-- 'stithylaw03.KeccakPads', WHERE WHAT IT READS IS OF BULK AT MOST 1048576: true; the input reads as it did. -/
def keccakPadsUptoRow : OpenClaim := { program := "ytienelgkdhmelaadoor", sum := "eb92c56d0e28a2c966f087c263447f0a6e46e53d6996a36518e49e3f9728941b", func := "stithy/stithylaw03.KeccakPads", spec := "keccakPads", unfollowed := true, recurses := true, named := ["stithy/keccak.walk"], apart := false, laid := [("stithy/keccak.walk", laid_stithy_keccak_walk)], narrowed := true }
def KeccakPadsUptoSaid : Prop := keccakPadsUptoRow.holds Tryd.pinned (OpenSpec.upto keccakPadsSpec)

end Rows
end Go.Proofs.YtienelgkdhmelaaDoor
