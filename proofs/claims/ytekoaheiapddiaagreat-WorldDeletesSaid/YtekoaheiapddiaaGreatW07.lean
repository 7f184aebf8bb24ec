/- Merged: LPlain, Num, VPlain, WordA, WordUp, WordPlus, WordC, WordD, WordB, BytesN, Num2, WordM, WordO, WordR, WordT, WordE, La, Lb, Lh, Lt, Li, Lj, Lu, Lk, Lv, Ll, Lm, Lo, Lp, Ln, Lq, Lr, Ls, Lc, Ld, Le, Lf, Lg, Lw, Ly, Lt1, Lt2, Lt3, Lt4, Lt5, Lt6, Va, Vt, Lr1, Vb, Lr2, Lr3, Lr4, Lr5, Lr6, Lr7, Shelf, Vc, Vd, Ve, Vf, Vg, Vh, Vi, Lr8, Lr9, Lr10, Lr11, Vj, Vk, Vl, Vm, Vn, Vp, Vq, Vr, Vo, Vs, RefA, Places, RefB, RefC, Vu, Vv, Vz. -/
import Derived.Test.YtekoaheiapddiaaGreatRows
import Derived.ProofKit
import Derived.OpenShut
import Derived.WalkKit
import Derived.Lib.SmallJoins
import Derived.ChangeMaps5
import Derived.ShutString
import Derived.Test.YtekoaheiapddiaaGreatW01
import Derived.WalkSpells
import Derived.WalkLawsBesides
import Derived.Lib.Hide
import Derived.Shelf.Spec.BitsCarry
import Derived.BigQuiet
import Derived.Deep.RegionHeld3
import Derived.Deep.DrawnRows
import Derived.Lib.SlBytesRow
import Derived.Lib.BufferWrite
import Derived.Maps.AppendAt
import Derived.Lib.SliceRun
import Derived.StillTailTactics
import Derived.Deep.QuietTactic
import Derived.Lib.Builder
import Derived.Lib.AppendStr
import Derived.Lib.UnsafeStr
import Derived.Lib.MakeNoZero
import Derived.Laws.Externs
import Derived.Laws.IdiomCopy
import Derived.Shelf.RegionOpenPlain
import Derived.Lib.BitFns
import Derived.Recover
import Derived.Test.YtekoaheiapddiaaGreatW04
import Derived.Deep.Strs
import Derived.Shelf.Strings.Builder1
import Derived.Shelf.Strings.Builder2
import Derived.Shelf.Small.Bits
import Derived.Shelf.Strings.BuilderF
import Derived.Shelf.Strings.BuilderK
import Derived.Shelf.Strings.Builder2Cap
import Derived.Shelf.Strconv.Itoa0
import Derived.Shelf.LaysM
import Derived.Shelf.Strconv.Clone
import Derived.Shelf.Strings.BuilderCap
import Derived.Ground.Names2Prog
import Derived.Shelf.Slices.Clone
import Derived.Ground.SlgmProg
import Derived.Shelf.SortM.Plain
import Derived.Shelf.SortM.SortNone
import Derived.Test.YtekoaheiapddiaaGreatProg
import Derived.Lib.ConvBytes
import Derived.RegionTactic
import Derived.Deep.CutRange
section
namespace Go.Proofs.YtekoaheiapddiaaGreat
open Go.ChangeShapes Go.WideShapes Go.ChangeAt Go.RowKit

theorem u64_of {n : Int} (h : (Lit.int .u64 n).wf = true) : ∃ k : Nat, n = (k : Int) ∧ k < 18446744073709551616 := by
  have h' : 0 ≤ n ∧ n ≤ 18446744073709551615 := by simpa [Lit.wf, IntKind.min, IntKind.max, IntKind.signed, IntKind.bits] using h
  exact ⟨n.toNat, by omega, by omega⟩
theorem ownKnob_none : ownKnob Tryz.prog.godebug = none := by kernel_rfl
end Go.Proofs.YtekoaheiapddiaaGreat
end
section
namespace Go.Proofs.YtekoaheiapddiaaGreat
open Go.RowKit

/-- 2^256, kept from the walk. -/
def W256 : Nat := M64 * (M64 * (M64 * M64))

/-- n's limbs, the lowest first. -/
structure Dig (n d0 d1 d2 d3 : Nat) : Prop where
  h0 : d0 < M64
  h1 : d1 < M64
  h2 : d2 < M64
  h3 : d3 < M64
  eq : n = d0 + M64 * (d1 + M64 * (d2 + M64 * d3))

theorem Dig.lt {n d0 d1 d2 d3 : Nat} (h : Dig n d0 d1 d2 d3) : n < W256 := by
  obtain ⟨h0, h1, h2, h3, rfl⟩ := h
  unfold W256 M64 at *
  omega

theorem Dig.inj {n d0 d1 d2 d3 e0 e1 e2 e3 : Nat} (h : Dig n d0 d1 d2 d3) (k : Dig n e0 e1 e2 e3) : d0 = e0 ∧ d1 = e1 ∧ d2 = e2 ∧ d3 = e3 := by
  obtain ⟨h0, h1, h2, h3, rfl⟩ := h
  obtain ⟨k0, k1, k2, k3, e⟩ := k
  unfold M64 at *
  omega

/-- Every number below 2^256 has limbs. -/
theorem Dig.of {n : Nat} (h : n < W256) : Dig n (n % M64) (n / M64 % M64) (n / M64 / M64 % M64) (n / M64 / M64 / M64) := by
  unfold W256 M64 at h
  refine ⟨?_, ?_, ?_, ?_, ?_⟩ <;> unfold M64 <;> omega

end Go.Proofs.YtekoaheiapddiaaGreat
end
section
set_option maxRecDepth 100000
namespace Go.Proofs.YtekoaheiapddiaaGreat
open Go.ChangeShapes Go.WideShapes Go.ChangeAt Go.RowKit

/-- The datum of the word with the digits d3, d2, d1, d0. -/
def wordD {H : Type} (d3 d2 d1 d0 : Nat) : DataW H := .agg [.lit (.int .u64 d3), .lit (.int .u64 d2), .lit (.int .u64 d1), .lit (.int .u64 d0)]
theorem wf_of {k : Nat} (h : k < M64) : (Lit.int .u64 (k : Int)).wf = true := by
  unfold M64 at h
  simp [Lit.wf, IntKind.min, IntKind.max, IntKind.signed, IntKind.bits]; omega
theorem cellsWord : Tryz.prog.cellsOf 61 = 4 := by kernel_rfl
theorem open_word {H : Type} {enc : TypeId × Value → H} {w : World} {base : Nat} {spare : Nat → Bool} {held : Bool} {r : Reach} {b0 : Nat} {v : Value} {d : DataW H} {p : List MemPlace}
    (hv : Value.okWide Tryz.prog w r b0 61 v) (h : DataW.Trod enc Tryz.prog w base spare held 61 v d p) :
    ∃ n d3 d2 d1 d0 : Nat, v = .agg #[.int .u64 d3, .int .u64 d2, .int .u64 d1, .int .u64 d0] ∧ d = wordD d3 d2 d1 d0 ∧ p = [] ∧ Dig n d0 d1 d2 d3 := by
  obtain ⟨v0, v1, v2, v3, y0, y1, y2, y3, n, rfl, rfl, rfl, h0, h1, h2, h3⟩ := Go.Joins.open_agg4 Tryz.underlying61 (by kernel_rfl) cellsWord hv h
  obtain ⟨n3, e0, rfl, w3⟩ := DataW.trod_int Tryz.underlying41 h0
  obtain ⟨n2, e1, rfl, w2⟩ := DataW.trod_int Tryz.underlying41 h1
  obtain ⟨n1, e2, rfl, w1⟩ := DataW.trod_int Tryz.underlying41 h2
  obtain ⟨n0, e3, rfl, w0⟩ := DataW.trod_int Tryz.underlying41 h3
  obtain ⟨k3, rfl, l3⟩ := u64_of w3
  obtain ⟨k2, rfl, l2⟩ := u64_of w2
  obtain ⟨k1, rfl, l1⟩ := u64_of w1
  obtain ⟨k0, rfl, l0⟩ := u64_of w0
  cases e0; cases e1; cases e2; cases e3
  exact ⟨_, k3, k2, k1, k0, rfl, rfl, rfl, ⟨l0, l1, l2, l3, rfl⟩⟩
theorem shut_word {H : Type} {enc : TypeId × Value → H} {w : World} {base : Nat} {spare : Nat → Bool} {held : Bool} {n d3 d2 d1 d0 : Nat} (h : Dig n d0 d1 d2 d3) :
    DataW.Trod enc Tryz.prog w base spare held 61 (.agg #[.int .u64 d3, .int .u64 d2, .int .u64 d1, .int .u64 d0]) (wordD d3 d2 d1 d0) [] :=
  Go.Joins.shut_agg4 Tryz.underlying61 (by kernel_rfl) cellsWord (y0 := (_, [])) (y1 := (_, [])) (y2 := (_, [])) (y3 := (_, []))
    ⟨1, trod_int_mk 0 Tryz.underlying41 (wf_of h.h3)⟩ ⟨1, trod_int_mk 0 Tryz.underlying41 (wf_of h.h2)⟩
    ⟨1, trod_int_mk 0 Tryz.underlying41 (wf_of h.h1)⟩ ⟨1, trod_int_mk 0 Tryz.underlying41 (wf_of h.h0)⟩
end Go.Proofs.YtekoaheiapddiaaGreat
end
section
namespace Go.Proofs.YtekoaheiapddiaaGreat
open Go.RowKit

set_option maxHeartbeats 400000 in
theorem from_any (d : Nat) (w : World) :
    Calls Tryz.prog 46 #[.int .u64 d] w fun e w' =>
      e = .returned (.agg #[.int .u64 0, .int .u64 0, .int .u64 0, .int .u64 d]) ∧ Below w.heap.size w w' := by
  go_enter Tryz.func46, Tryz.ntmps46
  go_wp2
  exact bodyPost_ret (v := .agg #[.int .u64 0, .int .u64 0, .int .u64 0, .int .u64 d]) (by simp [results, Tryz.results46, go_sem]) rfl ⟨rfl, ((Below.refl _ _).alloc (Nat.le_refl _) _)⟩

end Go.Proofs.YtekoaheiapddiaaGreat
end
section
namespace Go.Proofs.YtekoaheiapddiaaGreat
open Go.RowKit
attribute [local go_sem ↓] Go.wp_at_zero Go.wp_at_succ

end Go.Proofs.YtekoaheiapddiaaGreat
end
section
namespace Go.Proofs.YtekoaheiapddiaaGreat
open Go.RowKit
attribute [local go_sem ↓] Go.wp_at_zero Go.wp_at_succ

end Go.Proofs.YtekoaheiapddiaaGreat
end
section
namespace Go.Proofs.YtekoaheiapddiaaGreat
open Go.RowKit

/-- Byte j of a number, the lowest first; of its limbs. -/
def byteOf (x j : Nat) : Nat := x / 256 ^ j % 256
end Go.Proofs.YtekoaheiapddiaaGreat
end
section
namespace Go.Proofs.YtekoaheiapddiaaGreat
open Go.RowKit

def tail256 (x : Nat) : Nat → List UInt8
  | 0 => []
  | n + 1 => UInt8.ofNat (byteOf x n) :: tail256 x n
end Go.Proofs.YtekoaheiapddiaaGreat
end
section
namespace Go.Proofs.YtekoaheiapddiaaGreat
open Go.RowKit

/-- Limb i of a, lifted by so many limbs: 0 past both ends. -/
def lifted (x : Nat → Nat) (l i : Nat) : Nat := if i < l then 0 else x (i - l)
end Go.Proofs.YtekoaheiapddiaaGreat
end
section
namespace Go.Proofs.YtekoaheiapddiaaGreat
open Go.RowKit
attribute [local go_sem ↓] Go.wp_at_zero Go.wp_at_succ

end Go.Proofs.YtekoaheiapddiaaGreat
end
section
namespace Go.Proofs.YtekoaheiapddiaaGreat
open Go.RowKit
attribute [local go_sem ↓] Go.wp_at_zero Go.wp_at_succ

end Go.Proofs.YtekoaheiapddiaaGreat
end
section
namespace Go.Proofs.YtekoaheiapddiaaGreat
open Go.RowKit
attribute [local go_sem ↓] Go.wp_at_zero Go.wp_at_succ

end Go.Proofs.YtekoaheiapddiaaGreat
end
section
namespace Go.Proofs.YtekoaheiapddiaaGreat
open Go.RowKit

/-- A number's bytes, the highest first, none ahead that is 0. -/
def num (n : Nat) : List UInt8 := if _h : n = 0 then [] else num (n / 256) ++ [UInt8.ofNat (n % 256)]
termination_by n
decreasing_by omega
/-- The number of bytes. -/
def val (l : List UInt8) : Nat := l.foldl (fun a b => a * 256 + b.toNat) 0
/-- What stands ahead of so many bytes. -/
def hd (k n : Nat) : List UInt8 := if n ≤ 55 then [UInt8.ofNat (k + n)] else UInt8.ofNat (k + 55 + (num n).length) :: num n
/-- Is a text its one byte? -/
def bareL : List UInt8 → Bool
  | [b] => decide (b.toNat < 128)
  | _ => false
def hdT (s : List UInt8) : List UInt8 := if bareL s then [] else hd 128 s.length
def encT (s : List UInt8) : List UInt8 := hdT s ++ s

/-- Items one behind the other: texts and lists. -/
inductive Fo where
  | nil : Fo
  | text (s : List UInt8) (r : Fo) : Fo
  | list (i r : Fo) : Fo
def Fo.len : Fo → Nat
  | .nil => 0
  | .text _ r => r.len + 1
  | .list _ r => r.len + 1
def Fo.enc : Fo → List UInt8
  | .nil => []
  | .text s r => encT s ++ r.enc
  | .list i r => hd 192 i.enc.length ++ i.enc ++ r.enc
/-- An item, as a value: a text or a list. -/
inductive It where
  | text (s : List UInt8) : It
  | list (i : Fo) : It
def It.enc : It → List UInt8
  | .text s => encT s
  | .list i => hd 192 i.enc.length ++ i.enc
end Go.Proofs.YtekoaheiapddiaaGreat
end
section
namespace Go.Proofs.YtekoaheiapddiaaGreat
open Go.RowKit

/-- The 32 bytes of a number, the highest first. -/
def wordL (x : Nat) : List UInt8 := tail256 x 32
/-- A word's parts. -/
def l0 (n : Nat) : Nat := n % M64
def l1 (n : Nat) : Nat := n / M64 % M64
def l2 (n : Nat) : Nat := n / M64 / M64 % M64
def l3 (n : Nat) : Nat := n / M64 / M64 / M64
theorem dig_of {n : Nat} (h : n < W256) : Dig n (l0 n) (l1 n) (l2 n) (l3 n) := Dig.of h
theorem dig_eq {n d0 d1 d2 d3 : Nat} (h : Dig n d0 d1 d2 d3) : d0 = l0 n ∧ d1 = l1 n ∧ d2 = l2 n ∧ d3 = l3 n := h.inj (dig_of h.lt)
theorem lim_zero : l0 0 = 0 ∧ l1 0 = 0 ∧ l2 0 = 0 ∧ l3 0 = 0 := by decide
structure AskP where
  id : Nat
  addr : List UInt8
  slot : Nat
  kind : Int
structure AskP.Wf (a : AskP) : Prop where
  id : a.id < M64
  slot : a.slot < W256
  kind : -9223372036854775808 ≤ a.kind ∧ a.kind ≤ 9223372036854775807
def AskP.Ok (a : AskP) : Prop := a.addr.length = 20 ∧ (a.kind = 2 ∨ a.kind = 1 ∧ a.slot = 0)
instance (a : AskP) : Decidable a.Ok := inferInstanceAs (Decidable (_ ∧ _))
def AskP.fo (a : AskP) : Fo := .text (num a.id) (.text (num a.kind.toNat) (.text a.addr (if a.kind = 2 then .text (wordL a.slot) .nil else .nil)))
def AskP.it (a : AskP) : It := .list a.fo
def AskP.enc (a : AskP) : List UInt8 := a.it.enc
def askV (a : AskP) : Value := .agg #[.int .u64 a.id, .string (str a.addr), .int .u64 (l3 a.slot : Nat), .int .u64 (l2 a.slot : Nat), .int .u64 (l1 a.slot : Nat), .int .u64 (l0 a.slot : Nat), .int .i64 a.kind]
structure ReplyP where
  id : Nat
  nonce : Nat
  bal : Nat
  code : List UInt8
  value : Nat
structure ReplyP.Wf (r : ReplyP) : Prop where
  id : r.id < M64
  nonce : r.nonce < M64
  bal : r.bal < W256
  value : r.value < W256
def ReplyP.Ok (kind : Int) (r : ReplyP) : Prop := r.code.length ≤ 24576 ∧ (kind = 1 ∧ r.value = 0 ∨ kind = 2 ∧ r.nonce = 0 ∧ r.bal = 0 ∧ r.code = [])
instance (kind : Int) (r : ReplyP) : Decidable (r.Ok kind) := inferInstanceAs (Decidable (_ ∧ _))
def ReplyP.fo (kind : Int) (r : ReplyP) : Fo := .text (num r.id) (if kind = 1 then .text (num r.nonce) (.text (wordL r.bal) (.text r.code .nil)) else .text (wordL r.value) .nil)
def ReplyP.it (kind : Int) (r : ReplyP) : It := .list (r.fo kind)
def ReplyP.body (kind : Int) (r : ReplyP) : List UInt8 := (r.it kind).enc
/-- Four bytes of a sum, the highest first. -/
def be4 (n : Nat) : List UInt8 := [UInt8.ofNat (n / 16777216), UInt8.ofNat (n / 65536), UInt8.ofNat (n / 256), UInt8.ofNat n]
def sum4 (s : List UInt8) : List UInt8 := be4 (sumN (str s))
def ReplyP.enc (kind : Int) (r : ReplyP) : List UInt8 := sum4 (r.body kind) ++ r.body kind
def ReplyP.zero : ReplyP := ⟨0, 0, 0, [], 0⟩
def replyV (r : ReplyP) : Value := .agg #[.int .u64 r.id, .int .u64 r.nonce, .int .u64 (l3 r.bal : Nat), .int .u64 (l2 r.bal : Nat), .int .u64 (l1 r.bal : Nat), .int .u64 (l0 r.bal : Nat), .string (str r.code), .int .u64 (l3 r.value : Nat), .int .u64 (l2 r.value : Nat), .int .u64 (l1 r.value : Nat), .int .u64 (l0 r.value : Nat)]

/-- What a text is: the ask that has these bytes, or none. -/
def AskIs (s : List UInt8) : Option AskP → Prop
  | some a => a.Wf ∧ a.Ok ∧ a.enc = s
  | none => ∀ a : AskP, a.Wf → a.Ok → a.enc ≠ s
def ReplyIs (kind : Int) (s : List UInt8) : Option ReplyP → Prop
  | some r => r.Wf ∧ r.Ok kind ∧ r.enc kind = s
  | none => ∀ r : ReplyP, r.Wf → r.Ok kind → r.enc kind ≠ s
end Go.Proofs.YtekoaheiapddiaaGreat
end
section
set_option maxRecDepth 100000
namespace Go.Proofs.YtekoaheiapddiaaGreat
open Go.ChangeShapes Go.WideShapes Go.ChangeAt Go.RowKit Go.Deep Go.Joins

theorem size6 {α : Type} {cs : Array α} (h : cs.size = 6) : ∃ c0 c1 c2 c3 c4 c5, cs = #[c0, c1, c2, c3, c4, c5] := by
  obtain ⟨l⟩ := cs
  match l, h with
  | [c0, c1, c2, c3, c4, c5], _ => exact ⟨c0, c1, c2, c3, c4, c5, rfl⟩
theorem cellsU64 : Tryz.prog.cellsOf 41 = 1 := by kernel_rfl
theorem cellsStr : Tryz.prog.cellsOf 9 = 1 := by kernel_rfl
theorem cellsAcc : Tryz.prog.cellsOf 82 = 6 := by kernel_rfl
section
variable {H : Type} {enc : TypeId × Value → H} {w : World} {base : Nat} {spare : Nat → Bool} {held : Bool}
/-- Cells that read as d. -/
def Trd (enc : TypeId × Value → H) (w : World) (base : Nat) (spare : Nat → Bool) (held : Bool) (t : TypeId) (cs : List Value) (d : DataW H) (p : List MemPlace) : Prop := ∃ n, DataW.trod enc Tryz.prog w base spare held n t cs = some (d, p)
theorem trd_word {c0 c1 c2 c3 : Value} {d : DataW H} {p : List MemPlace} (h : Trd enc w base spare held 61 [c0, c1, c2, c3] d p) :
    ∃ n d3 d2 d1 d0 : Nat, c0 = .int .u64 d3 ∧ c1 = .int .u64 d2 ∧ c2 = .int .u64 d1 ∧ c3 = .int .u64 d0 ∧ d = wordD d3 d2 d1 d0 ∧ p = [] ∧ Dig n d0 d1 d2 d3 := by
  obtain ⟨fuel, h⟩ := h
  obtain ⟨y0, y1, y2, y3, n, hx, _, h0, h1, h2, h3⟩ := trod_struct4 Tryz.underlying61 h
  simp only [cellsU64] at h0 h1 h2 h3
  obtain ⟨n3, e0, rfl, w3⟩ := DataW.trod_int Tryz.underlying41 h0
  obtain ⟨n2, e1, rfl, w2⟩ := DataW.trod_int Tryz.underlying41 h1
  obtain ⟨n1, e2, rfl, w1⟩ := DataW.trod_int Tryz.underlying41 h2
  obtain ⟨n0, e3, rfl, w0⟩ := DataW.trod_int Tryz.underlying41 h3
  obtain ⟨k3, rfl, l3⟩ := u64_of w3
  obtain ⟨k2, rfl, l2⟩ := u64_of w2
  obtain ⟨k1, rfl, l1⟩ := u64_of w1
  obtain ⟨k0, rfl, l0⟩ := u64_of w0
  simp at e0 e1 e2 e3
  simp at hx
  exact ⟨_, k3, k2, k1, k0, e0, e1, e2, e3, hx.1, hx.2, ⟨l0, l1, l2, l3, rfl⟩⟩
theorem trd_word_mk {n d3 d2 d1 d0 : Nat} (h : Dig n d0 d1 d2 d3) : Trd enc w base spare held 61 [.int .u64 d3, .int .u64 d2, .int .u64 d1, .int .u64 d0] (wordD d3 d2 d1 d0) [] := by
  obtain ⟨m, hm⟩ := shut_word (enc := enc) (w := w) (base := base) (spare := spare) (held := held) h
  exact ⟨m, by simpa [Value.cells] using hm⟩
theorem trd_account {c0 c1 c2 c3 c4 c5 : Value} {d : DataW H} {p : List MemPlace} (h : Trd enc w base spare held 82 [c0, c1, c2, c3, c4, c5] d p) :
    ∃ (k n d3 d2 d1 d0 : Nat) (s : ByteArray), c0 = .int .u64 k ∧ c1 = .int .u64 d3 ∧ c2 = .int .u64 d2 ∧ c3 = .int .u64 d1 ∧ c4 = .int .u64 d0 ∧ c5 = .string s ∧ d = .agg [.lit (.int .u64 k), wordD d3 d2 d1 d0, .lit (.string s.data.toList)] ∧ p = [] ∧ k < M64 ∧ Dig n d0 d1 d2 d3 ∧ s.size ≤ maxLen := by
  obtain ⟨fuel, h⟩ := h
  obtain ⟨y0, y1, y2, n, hx, _, h0, h1, h2⟩ := trod_struct3 Tryz.underlying82 h
  simp only [cellsU64, cellsWord, cellsStr] at h0 h1 h2
  obtain ⟨k, e0, rfl, w0⟩ := DataW.trod_int Tryz.underlying41 h0
  obtain ⟨m, d3, d2, d1, d0, q0, q1, q2, q3, ed, ep, hd⟩ := trd_word ⟨n, h1⟩
  obtain ⟨s, e5, rfl, hs⟩ := DataW.trod_string Tryz.underlying9 h2
  obtain ⟨k0, rfl, l0⟩ := u64_of w0
  simp at e0 e5
  simp [ed, ep] at hx
  exact ⟨k0, m, d3, d2, d1, d0, s, e0, q0, q1, q2, q3, e5, hx.1, hx.2, l0, hd, hs⟩
theorem trd_account_mk {k n d3 d2 d1 d0 : Nat} {s : ByteArray} (hk : k < M64) (h : Dig n d0 d1 d2 d3) (hs : s.size ≤ maxLen) :
    Trd enc w base spare held 82 [.int .u64 k, .int .u64 d3, .int .u64 d2, .int .u64 d1, .int .u64 d0, .string s] (.agg [.lit (.int .u64 k), wordD d3 d2 d1 d0, .lit (.string s.data.toList)]) [] := by
  obtain ⟨m, hm⟩ := trd_word_mk (enc := enc) (w := w) (base := base) (spare := spare) (held := held) h
  exact ⟨m + 1 + 1, trod_struct3_mk Tryz.underlying82 (by rw [cellsAcc]; rfl) (y0 := (_, [])) (y1 := (_, [])) (y2 := (_, []))
    (by simp only [cellsU64]; exact trod_int_mk m Tryz.underlying41 (wf_of hk)) (by simp only [cellsWord]; exact DataW.trod_le (Nat.le_succ m) hm) (by simp only [cellsStr]; exact show DataW.trod enc Tryz.prog w base spare held (m + 1) 9 [.string s] = _ by simp [DataW.trod, Tryz.underlying9, hs])⟩
theorem open_account {r : Reach} {b0 : Nat} {v : Value} {d : DataW H} {p : List MemPlace} (hv : Value.okWide Tryz.prog w r b0 82 v) (h : DataW.Trod enc Tryz.prog w base spare held 82 v d p) :
    ∃ (k n d3 d2 d1 d0 : Nat) (s : ByteArray), v = .agg #[.int .u64 k, .int .u64 d3, .int .u64 d2, .int .u64 d1, .int .u64 d0, .string s] ∧ d = .agg [.lit (.int .u64 k), wordD d3 d2 d1 d0, .lit (.string s.data.toList)] ∧ p = [] ∧ k < M64 ∧ Dig n d0 d1 d2 d3 ∧ s.size ≤ maxLen := by
  obtain ⟨cs, rfl, hsz⟩ := okWide_struct Tryz.underlying82 hv
  obtain ⟨c0, c1, c2, c3, c4, c5, rfl⟩ := size6 (hsz.trans cellsAcc)
  obtain ⟨fuel, hf⟩ := h
  obtain ⟨k, n, d3, d2, d1, d0, s, rfl, rfl, rfl, rfl, rfl, rfl, hd, hp, h1, h2, h3⟩ := trd_account ⟨fuel, by simpa [Value.cells] using hf⟩
  exact ⟨k, n, d3, d2, d1, d0, s, rfl, hd, hp, h1, h2, h3⟩
theorem shut_account {k n d3 d2 d1 d0 : Nat} {s : ByteArray} (hk : k < M64) (h : Dig n d0 d1 d2 d3) (hs : s.size ≤ maxLen) :
    DataW.Trod enc Tryz.prog w base spare held 82 (.agg #[.int .u64 k, .int .u64 d3, .int .u64 d2, .int .u64 d1, .int .u64 d0, .string s]) (.agg [.lit (.int .u64 k), wordD d3 d2 d1 d0, .lit (.string s.data.toList)]) [] := by
  obtain ⟨m, hm⟩ := trd_account_mk (enc := enc) (w := w) (base := base) (spare := spare) (held := held) hk h hs
  exact ⟨m, by simpa [Value.cells] using hm⟩
end
end Go.Proofs.YtekoaheiapddiaaGreat
end
section
namespace Go.Proofs
open Go.Shelf
def Tryz.laysM316_ren : Go.Shelf.Ren := ⟨fun | 316 => 133 | n => n, fun | 9 => 9 | 3 => 3 | 4 => 4 | 37 => 218 | 0 => 0 | 127 => 274 | 5 => 5 | n => n, fun | n => n⟩
theorem Tryz.laysM316 : Go.Proofs.LaysM.n316 Tryz.prog Tryz.laysM316_ren := {
  mixed := by kernel_rfl
  f316 := Tryz.func133.trans (congrArg some (by kernel_rfl))
  t0 := Tryz.underlying0
  a0 := Tryz.isAgg0
  z0 := Tryz.sizeOf0
  v0 := Tryz.zeroValue0
  t3 := Tryz.underlying3
  a3 := Tryz.isAgg3
  z3 := Tryz.sizeOf3
  v3 := Tryz.zeroValue3
  t4 := Tryz.underlying4
  a4 := Tryz.isAgg4
  z4 := Tryz.sizeOf4
  v4 := Tryz.zeroValue4
  t9 := Tryz.underlying9
  a9 := Tryz.isAgg9
  z9 := Tryz.sizeOf9
  v9 := Tryz.zeroValue9
  t37 := Tryz.underlying218
  a37 := Tryz.isAgg218
  z37 := Tryz.sizeOf218
  v37 := Tryz.zeroValue218
  t127 := Tryz.underlying274
  a127 := Tryz.isAgg274
  z127 := Tryz.sizeOf274
  v127 := Tryz.zeroValue274
  t5 := Tryz.underlying5
  a5 := Tryz.isAgg5
  z5 := Tryz.sizeOf5
  v5 := Tryz.zeroValue5
  i0 := by kernel_rfl
  i3 := by kernel_rfl
  i4 := by kernel_rfl
  i5 := by kernel_rfl
  i9 := by kernel_rfl
  i37 := by kernel_rfl
  i127 := by kernel_rfl }
open Go.RowKit in
/-- internal/stringslite.Clone (what strings.Clone calls): "Clone returns a fresh copy of s.": THE SAME BYTES. Of what was there nothing has turned (a new row is laid, and frozen, where s is not empty). (LAID: no walk: one application.) -/
theorem Tryz.stringslite_Clone (s : ByteArray) (w : World) (hlim : s.size ≤ 281474976710656) :
    Calls Tryz.prog 133 #[.string s] w fun e w' => e = .returned (.string s) ∧ Below w.heap.size w w' := Any.stringslite_Clone Tryz.laysM316 s w hlim
end Go.Proofs
end
section
namespace Go.Proofs.YtekoaheiapddiaaGreat
open Go.RowKit

def wordV (n : Nat) : Value := .agg #[.int .u64 (l3 n : Nat), .int .u64 (l2 n : Nat), .int .u64 (l1 n : Nat), .int .u64 (l0 n : Nat)]
section
variable {S : Nat → Prop} {g : Nat} {f : Fo} {w : World}
theorem sclone_c (s : ByteArray) (w : World) (hlim : s.size ≤ 281474976710656) : Calls Tryz.prog 87 #[.string s] w fun e w' => e = .returned (.string s) ∧ Below w.heap.size w w' := by
  have C := Lib.hid (Tryz.stringslite_Clone s w hlim)
  clear hlim
  go_enter Tryz.func87, Tryz.ntmps87
  go_wp2_with (go_at_call 133; refine C.out.mono ?_; rintro e w1 ⟨rfl, h1⟩)
  go_ret
  exact ⟨rfl, h1⟩
end
end Go.Proofs.YtekoaheiapddiaaGreat
end
section
namespace Go.Proofs.YtekoaheiapddiaaGreat
open Go.RowKit

theorem cells6 {w : World} {b : Nat} {v0 v1 v2 v3 v4 v5 : Value} {t : TypeId} (h : w.heap[b]? = some (.cells #[v0, v1, v2, v3, v4, v5] t (0, 0))) :
    (w.cell? ⟨b, 0, none⟩ = some v0 ∧ w.cell? ⟨b, 1, none⟩ = some v1 ∧ w.cell? ⟨b, 2, none⟩ = some v2 ∧ w.cell? ⟨b, 3, none⟩ = some v3 ∧ w.cell? ⟨b, 4, none⟩ = some v4 ∧ w.cell? ⟨b, 5, none⟩ = some v5) ∧
    (w.frozen? ⟨b, 0, none⟩ = false ∧ w.frozen? ⟨b, 1, none⟩ = false ∧ w.frozen? ⟨b, 2, none⟩ = false ∧ w.frozen? ⟨b, 3, none⟩ = false ∧ w.frozen? ⟨b, 4, none⟩ = false ∧ w.frozen? ⟨b, 5, none⟩ = false) :=
  ⟨⟨cell_of h 0, cell_of h 1, cell_of h 2, cell_of h 3, cell_of h 4, cell_of h 5⟩, free_of h 0, free_of h 1, free_of h 2, free_of h 3, free_of h 4, free_of h 5⟩
end Go.Proofs.YtekoaheiapddiaaGreat
end
section
namespace Go.Proofs.YtekoaheiapddiaaGreat
open Go.RowKit

theorem str_of' (s : ByteArray) : str s.data.toList = s := by cases s; simp [str]
end Go.Proofs.YtekoaheiapddiaaGreat
end
section
namespace Go.Proofs.YtekoaheiapddiaaGreat
open Go.RowKit
attribute [local go_sem ↓] Go.wp_at_zero Go.wp_at_succ

end Go.Proofs.YtekoaheiapddiaaGreat
end
