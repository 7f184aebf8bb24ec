/- Merged: Qs, Dkl, Qe, Qf, Qg, Qh. -/
import Derived.Test.YtekoaheiapddiaaGreatY02
import Derived.Sort.KeysCollected
section
namespace Go.Proofs.YtekoaheiapddiaaGreat.Dz
open Go.RowKit

/-- A file: its name, its bytes, how many are synced. -/
structure Ent where
  name : Nm
  bs : Nm
  syn : Nat
def getE : List Ent → Nm → Option Ent
  | [], _ => none
  | x :: r, s => if x.name = s then some x else getE r s
def putE : List Ent → Ent → List Ent
  | [], e => [e]
  | x :: r, e => if e.name < x.name then e :: x :: r else if x.name = e.name then e :: r else x :: putE r e
def usedE : List Ent → Nat
  | [] => 0
  | x :: r => x.bs.length + usedE r
/-- Rising. -/
def Up : List Ent → Prop
  | [] => True
  | x :: r => (∀ y ∈ r, x.name < y.name) ∧ Up r
end Go.Proofs.YtekoaheiapddiaaGreat.Dz
end
section
namespace Go.Proofs.YtekoaheiapddiaaGreat.Dz
open Go.RowKit

/-- A disk as plain data. -/
structure Pd where
  L : List Ent
  room : Nat
  after : Int
  torn : Int
  dead : Bool
def Pd.tick (p : Pd) : Pd := { p with after := if 0 < p.after then p.after - 1 else p.after }
def Pd.die (p : Pd) : Pd := { p with dead := true }
def bsE : Option Ent → Nm
  | none => []
  | some e => e.bs
def synE : Option Ent → Nat
  | none => 0
  | some e => e.syn
def Pd.app (p : Pd) (s xs : Nm) : Pd := { p with L := putE p.L ⟨s, bsE (getE p.L s) ++ xs, synE (getE p.L s)⟩ }
def Pd.append (p : Pd) (s xs : Nm) : Int × Pd :=
  if p.dead = true then (19, p)
  else if p.after = 0 then (19, if usedE p.L + xs.length ≤ p.room ∧ tornN p.torn xs.length ≠ 0 then p.die.app s (xs.take (tornN p.torn xs.length)) else p.die)
  else if usedE p.L + xs.length ≤ p.room then (0, p.tick.app s xs) else (5, p.tick)
/-- A step at a file that is there. -/
def Pd.change (p : Pd) (s : Nm) (f : Ent → List Ent) : Int × Pd :=
  if p.dead = true then (19, p) else if p.after = 0 then (19, p.die) else
  match getE p.L s with
  | none => (6, p.tick)
  | some e => (0, { p.tick with L := f e })
def Pd.sync (p : Pd) (s : Nm) : Int × Pd := p.change s fun e => putE p.L ⟨s, e.bs, e.bs.length⟩
/-- What holds of each disk. -/
structure Pd.Ok (p : Pd) : Prop where
  up : Up p.L
  used : usedE p.L ≤ p.room
  room : p.room ≤ 1048576
  after : -9223372036854775808 ≤ p.after ∧ p.after ≤ 9223372036854775807
  syn : ∀ e ∈ p.L, e.syn ≤ e.bs.length
/-- The disk of the proof is that of plain data. -/
structure Sees (x : Dk) (p : Pd) : Prop where
  room : x.room = (p.room : Int)
  used : x.used = (usedE p.L : Int)
  after : x.after = p.after
  torn : x.torn = p.torn
  dead : x.dead = p.dead
  fs : ∀ s, (x.fs s).map (fun f => (f.bs, f.syn)) = (getE p.L s).map (fun e => (e.bs, e.syn))
structure On (p : Pd) (d N : Nat) (F : Nat → Prop) (W : World) : Prop where
  ok : p.Ok
  ex : ∃ x : Dk, x.d = d ∧ F = x.ft ∧ DiskAt x W ∧ x.n ≤ N ∧ Sees x p
end Go.Proofs.YtekoaheiapddiaaGreat.Dz
end
