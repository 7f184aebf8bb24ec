/- Boxes of a law; words and texts held against each other. -/
import Derived.Test.YtginibphicmmmaaJl
import Derived.Laws.StructEq
namespace Go.Proofs.Ytginibphicmmmaa
open Go.RowKit Go.Maps Go.Shelf Mp

/-- Boxes of a law's own, ahead of any set. -/
def Bx (B : List (Nat × Obj)) (W V : World) : Prop := An (fun _ => True) (fun _ => False) W (fun _ => False) B V
theorem Bx.start (W : World) : Bx [] W W := ⟨⟨trivial, fun _ h => h.elim, fun _ _ => trivial⟩, Chg.refl _ _, by simp⟩
theorem Bx.below {B : List (Nat × Obj)} {W V : World} (h : Bx B W V) : Below W.heap.size W V := h.chg.below
theorem St.newB {B : List (Nat × Obj)} {W V : World} (h : Bx B W V) : Calls Try.prog 9 #[] V fun e V' => ∃ q, e = .returned (ptr q) ∧ St [] q 0 B W V' := St.new h.below fun x hx => ⟨(h.box x hx).1, (h.box x hx).2.1⟩
theorem eq_words (a0 a1 a2 a3 b0 b1 b2 b3 : Int) (w : World) :
    (binOp .eql 46 (.agg #[.int .u64 a0, .int .u64 a1, .int .u64 a2, .int .u64 a3]) (.agg #[.int .u64 b0, .int .u64 b1, .int .u64 b2, .int .u64 b3])).run Try.prog w =
      .ok (.bool (a0 == b0 && (a1 == b1 && (a2 == b2 && a3 == b3)))) w := by
  have u3 := Try.underlying44
  have a3' := Try.isAgg44
  have z3 := Try.sizeOf44
  have hS : Try.prog.underlying 46 = some (.struct (Try.prog.fieldsOf 46)) := by kernel_rfl
  have hp : Try.prog.stoodInHeld 46 = false := by kernel_rfl
  rw [run_eql_struct, show (10000 : Nat) = 9999 + 1 from rfl, run_equalIn_agg w 9999 46 _ _ hS hp]
  simp only [Program.fieldsOf, Try.underlying46]
  go_simp
  by_cases h0 : a0 = b0 <;> by_cases h1 : a1 = b1 <;> by_cases h2 : a2 = b2 <;> by_cases h3 : a3 = b3 <;> simp [h0, h1, h2, h3]
theorem eq_wq (k m : Wq) (w : World) : (binOp .eql 46 (.agg (wqC k)) (.agg (wqC m))).run Try.prog w = .ok (.bool (decide (k = m))) w := by
  unfold wqC
  rw [eq_words]
  obtain ⟨a, b, c, d⟩ := k
  obtain ⟨a', b', c', d'⟩ := m
  by_cases h0 : a = a' <;> by_cases h1 : b = b' <;> by_cases h2 : c = c' <;> by_cases h3 : d = d' <;> simp [h0, h1, h2, h3, Int.ofNat_inj]
theorem eql_str (l m : Nm) : ((str l).toList == (str m).toList) = decide (l = m) := by
  rw [ByteArray.toList_eq, ByteArray.toList_eq, str_list, str_list]; by_cases h : l = m <;> simp [h]
theorem eq_str (l m : Nm) (w : World) : (binOp .eql 9 (.string (str l)) (.string (str m))).run Try.prog w = .ok (.bool (decide (l = m))) w := by
  have h := eql_str l m
  go_simp
theorem str_append (a b : List UInt8) : str a ++ str b = str (a ++ b) := by
  apply ByteArray.ext
  simp [str, ByteArray.data_append]
end Go.Proofs.Ytginibphicmmmaa
