/- OpText: the words that are handed in; bytes that are appended. -/
import Derived.Test.YtfcmcccfclaefaaDoorUba
import Derived.Test.YtfcmcccfclaefaaDoorUp
import Derived.Laws.BytesArg
namespace Go.Proofs.YtfcmcccfclaefaaDoor
open Go.RowKit Go.Maps Go.Shelf Mp

/-- Words in a slice that is handed in. -/
def Hw (W : World) (pa : Option Addr) (ws : List Nat) : Prop := ∀ i w, ws[i]? = some w → ∃ g o, pa = some ⟨g, o, none⟩ ∧ g < W.heap.size ∧ W.cell? ⟨g, o + i, none⟩ = some (.int .u16 (w : Nat))
theorem Hw.below {W V : World} {pa : Option Addr} {ws : List Nat} (h : Hw W pa ws) (hb : Below W.heap.size W V) : Hw V pa ws := fun i w hw => by
  obtain ⟨g, o, h1, h2, h3⟩ := h i w hw
  exact ⟨g, o, h1, Nat.lt_of_lt_of_le h2 hb.size, (World.cell?_of_block (a := ⟨g, o + i, none⟩) (hb.block g h2)).trans h3⟩
theorem byteCells_one' (l : Nm) : ∀ u ∈ Lib.byteCells l, u.oneCell' = true := by
  intro u hu
  simp only [Lib.byteCells, List.mem_map] at hu
  obtain ⟨x, _, rfl⟩ := hu
  rfl
theorem wp_append_bytes {o : Oper} {a : Act} {K : Act → World → Prop} {Q : Exit → Act → World → Prop} {V : World} {B : Nat} {v : Value} {bs : Nm} (s x : Operand)
    (ho : o.op = .call { callee := .builtin .append, args := #[s, x], argTypes := #[42, 42] }) (hs : a.eval s = v) (h : V.ownsRow B 5 1 v bs.length (Lib.byteCells bs)) (hB : B ≤ V.heap.size)
    {q m : Nat} (l2 : Nm) (hm : m = l2.length) (hx : a.eval x = .slice (some ⟨q, 0, none⟩) m m) {cs : Array Value} (hq : V.heap[q]? = some (.cells cs 5 (0, 0))) (hc : cs = (Lib.byteCells l2).toArray) (hn : bs.length + l2.length < 1000000)
    (hK : ∀ v' V', V'.ownsRow B 5 1 v' (bs ++ l2).length (Lib.byteCells (bs ++ l2)) → V.grownBy V' v.ownBlock → K (a.put o.dst v') V') : Oper.wp Tryd.prog o a V K Q := by
  obtain ⟨i0, hi, hz0, hzz, hz2⟩ := info_parts infoByte
  subst hm hc
  obtain ⟨v', w', hr, h2, h3, _, _⟩ := run_append_own_at (P := Tryd.prog) V B 42 o.type 5 i0 _ 1 1 Tryd.underlying42 hi hz0 hzz hz2 (by rfl) (by omega) v bs.length (Lib.byteCells bs) h ⟨q, 0, none⟩ l2.length l2.length (Lib.byteCells l2) (by rw [byteCells_len, Nat.mul_one]) (fun j u hj => by
    have e : (⟨q, 0, none⟩ : Addr).add j = ⟨q, j, none⟩ := by unfold Addr.add; split <;> simp_all
    rw [e, cell_of hq]
    simpa using hj) (byteCells_one' l2) (by unfold maxLen; omega) (by omega) hB
  unfold Oper.wp execOp
  simp only [ho, resolve, invoke, builtin, Sem.run_bind, Sem.run_pure, Result.andThen_ok, List.map_toArray, List.map_cons, List.map_nil, hs, hx, hr]
  refine hK _ _ ?_ h3
  rw [List.length_append, ← byteCells_app]
  exact h2
theorem wpList_append_bytes {ops : Array Oper} {rest : List Oper} {o : Oper} {a : Act} {Q : Exit → Act → World → Prop} {V : World} {B : Nat} {v : Value} {bs : Nm} (hgd : o.guard = none) (s x : Operand)
    (ho : o.op = .call { callee := .builtin .append, args := #[s, x], argTypes := #[42, 42] }) (hs : a.eval s = v) (h : V.ownsRow B 5 1 v bs.length (Lib.byteCells bs)) (hB : B ≤ V.heap.size)
    {q m : Nat} (l2 : Nm) (hm : m = l2.length) (hx : a.eval x = .slice (some ⟨q, 0, none⟩) m m) {cs : Array Value} (hq : V.heap[q]? = some (.cells cs 5 (0, 0))) (hc : cs = (Lib.byteCells l2).toArray) (hn : bs.length + l2.length < 1000000)
    (hK : ∀ v' V', V'.ownsRow B 5 1 v' (bs ++ l2).length (Lib.byteCells (bs ++ l2)) → V.grownBy V' v.ownBlock → wpList Tryd.prog ops Q rest (a.put o.dst v') V') : wpList Tryd.prog ops Q (o :: rest) a V := by
  refine wpList_plain hgd fun K2 hK2 => ?_
  obtain ⟨i0, hi, hz0, hzz, hz2⟩ := info_parts infoByte
  subst hm hc
  obtain ⟨v', w', hr, h2, h3, _, _⟩ := run_append_own_at (P := Tryd.prog) V B 42 o.type 5 i0 _ 1 1 Tryd.underlying42 hi hz0 hzz hz2 (by rfl) (by omega) v bs.length (Lib.byteCells bs) h ⟨q, 0, none⟩ l2.length l2.length (Lib.byteCells l2) (by rw [byteCells_len, Nat.mul_one]) (fun j u hj => by
    have e : (⟨q, 0, none⟩ : Addr).add j = ⟨q, j, none⟩ := by unfold Addr.add; split <;> simp_all
    rw [e, cell_of hq]
    simpa using hj) (byteCells_one' l2) (by unfold maxLen; omega) (by omega) hB
  unfold Oper.wp execOp
  simp only [ho, resolve, invoke, builtin, Sem.run_bind, Sem.run_pure, Result.andThen_ok, List.map_toArray, List.map_cons, List.map_nil, hs, hx, hr]
  refine hK2 _ _ (hK _ _ ?_ h3)
  rw [List.length_append, ← byteCells_app]
  exact h2
/-- A slice of the call's own, as a text. -/
theorem conv_own {V : World} {B : Nat} {v : Value} {bs : Nm} (h : V.ownsRow B 5 1 v bs.length (Lib.byteCells bs)) : (convert 42 9 v).run Tryd.prog V = .ok (.string (str bs)) V := by
  rcases h.2 with ⟨rfl, h0⟩ | ⟨g, cap, cur, rfl, hb, hg, _⟩
  · have : bs = [] := List.length_eq_zero_iff.1 h0
    subst this
    rw [run_convert_bytes_nil V 42 5 Tryd.underlying42 Tryd.underlying5 0 0 9 Tryd.underlying9]
    rfl
  · refine conv_at fun j u hj => ?_
    have h1 := h.cells (g := g) rfl j u hj
    have e : (⟨g, 0, none⟩ : Addr).add j = ⟨g, j, none⟩ := by unfold Addr.add; split <;> simp_all
    rwa [e] at h1
/-- Under way: the bytes so far, in a slice of the call's own. -/
structure Ow (W : World) (bs : Nm) (v : Value) (V : World) : Prop where
  row : V.ownsRow W.heap.size 5 1 v bs.length (Lib.byteCells bs)
  below : Below W.heap.size W V
theorem Ow.call {W V V' : World} {bs : Nm} {v : Value} (h : Ow W bs v V) (hb : Below V.heap.size V V') : Ow W bs v V' :=
  ⟨own_keep h.row fun k hk => hb.block _ (World.ownsRow.lt h.row k hk).2, h.below.trans (hb.mono h.below.size)⟩
theorem Ow.more {W V V' : World} {bs bs' : Nm} {v v' : Value} (h : Ow W bs v V) (h2 : V'.ownsRow W.heap.size 5 1 v' bs'.length (Lib.byteCells bs')) (h3 : V.grownBy V' v.ownBlock) : Ow W bs' v' V' :=
  ⟨h2, h.below.grown h3 h.below.size fun k hk => (World.ownsRow.lt h.row k hk).1⟩
end Go.Proofs.YtfcmcccfclaefaaDoor
