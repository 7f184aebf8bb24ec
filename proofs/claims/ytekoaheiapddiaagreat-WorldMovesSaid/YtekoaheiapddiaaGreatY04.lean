/- Merged: KNum, KText, Ca, Cb, Cc, Cd, Ce. -/
import Derived.Test.YtekoaheiapddiaaGreatY01
import Derived.Deep.WholeRow
import Derived.Laws.Bits64
import Derived.Laws.Bits64b
import Derived.Test.YtekoaheiapddiaaGreatRows
import Derived.Lib.SlBytesRow
import Derived.Lib.BufferWrite
import Derived.Laws.BitsAllLaws
import Derived.RegionTactic
import Derived.StillTailTactics
section
namespace Go.Proofs.YtekoaheiapddiaaGreat
open Go.RowKit

def byteAtK (s : ByteArray) (j : Nat) : Nat := if h : j < s.size then (s[j]'h).toNat else 0
end Go.Proofs.YtekoaheiapddiaaGreat
end
section
namespace Go.Proofs.YtekoaheiapddiaaGreat
open Go.RowKit

/-- What is xored in; a sum of 32 bits moved by one bit 0, by k of them. -/
def P32 : Nat := 3988292384
def mv (s : Nat) : Nat := s / 2 ^^^ (s % 2) * P32
def mvk : Nat → Nat → Nat
  | 0, s => s
  | k + 1, s => mv (mvk k s)

/-- The sum i moved on by n bytes. -/
def cf (i : Nat) (g : Nat → Nat) : Nat → Nat
  | 0 => i
  | n + 1 => mvk 8 (cf i g n ^^^ g n)
/-- A sum gone on with. -/
def F32 : Nat := 4294967295
def moreN (sum : Nat) (g : Nat → Nat) (n : Nat) : Nat := F32 ^^^ cf (F32 ^^^ sum) g n
end Go.Proofs.YtekoaheiapddiaaGreat
end
section
namespace Go.Proofs.YtekoaheiapddiaaGreat
open Go.RowKit

/-- The sum of a text. -/
def sumN (s : ByteArray) : Nat := moreN 0 (byteAtK s) s.size
end Go.Proofs.YtekoaheiapddiaaGreat
end
