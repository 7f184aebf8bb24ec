/- The reference's Leaving: texts put where they belong. -/
import Derived.Test.YtginibphicmmmaaJzj
import Derived.Test.YtginibphicmmmaaJo
namespace Go.Proofs.Ytginibphicmmmaa
open Go.RowKit Go.Maps Go.Sort Go.Shelf Mp
theorem infoStr : (Try.prog.info? 9).map (fun i => (i.zero, i.size, i.bytes)) = some (some (.string ⟨#[]⟩), 1, 16) := by kernel_rfl
/-- A piece of texts in memory. -/
def TxtAt (V : World) (v : Value) (l : List Nm) : Prop := ∃ pa c, v = .slice pa l.length c ∧ (pa = none → l = [] ∧ c = 0) ∧ ∀ ad, pa = some ad → ∀ j s, l[j]? = some s → V.cell? (ad.add j) = some (.string (str s))
def txts (l : List Nm) : List Value := l.map fun s => .string (str s)
theorem run_append_txt {W : World} {dv tv : Value} {xs : List Value} {n B : Nat} {l : List Nm} (hd : W.ownsRow B 9 1 dv n xs) (h : TxtAt W tv l) (h32 : n + l.length ≤ 1000000) (hB : B ≤ W.heap.size) (ty : TypeId) :
    ∃ t' W', (Builtin.append_ #[36, 36] ty #[dv, tv]).run Try.prog W = .ok t' W' ∧ W'.ownsRow B 9 1 t' (n + l.length) (xs ++ txts l) ∧ W.grownBy W' dv.ownBlock ∧ (t'.ownBlock = dv.ownBlock ∨ t'.ownBlock = some W.heap.size) := by
  obtain ⟨i0, hi, hz0, hz1, hz2⟩ := info_parts infoStr
  obtain ⟨pa, c, rfl, h1, h2⟩ := h
  cases pa with
  | none =>
    obtain ⟨rfl, rfl⟩ := h1 rfl
    exact ⟨_, W, run_append_owned_none (P := Try.prog) (w := W) B 36 ty 9 i0 1 Try.underlying36 hi dv n xs hd, by simpa [txts] using hd, ⟨rfl, rfl, rfl, Nat.le_refl _, fun _ _ _ => rfl⟩, Or.inl rfl⟩
  | some ad =>
    obtain ⟨v', W', hr, k1, k2, _, k3⟩ := run_append_own_at (P := Try.prog) W B 36 ty 9 i0 _ 1 16 Try.underlying36 hi hz0 hz1 hz2 rfl (by omega) dv n xs hd ad l.length c (txts l) (by simp [txts]) (fun j u hu => by
      unfold txts at hu
      rw [List.getElem?_map, Option.map_eq_some_iff] at hu
      obtain ⟨s, hs, rfl⟩ := hu
      exact h2 ad rfl j s hs) (fun u hu => by obtain ⟨s, _, rfl⟩ := List.mem_map.1 hu; rfl) (by unfold maxLen; omega) (by omega) hB
    exact ⟨v', W', hr, k1, k2, k3⟩
theorem wpList_append_txt {ops : Array Oper} {rest : List Oper} {o : Oper} {a : Act} {Q : Exit → Act → World → Prop} {W : World} (hgd : o.guard = none) (d x : Operand)
    (ho : o.op = .call { callee := .builtin .append, args := #[d, x], argTypes := #[36, 36] }) {dv tv : Value} {xs : List Value} {n B : Nat} {l : List Nm} (hdv : a.eval d = dv) (hx : a.eval x = tv) (hd : W.ownsRow B 9 1 dv n xs) (h : TxtAt W tv l) (h32 : n + l.length ≤ 1000000) (hB : B ≤ W.heap.size)
    (hK : ∀ t' W', W'.ownsRow B 9 1 t' (n + l.length) (xs ++ txts l) → W.grownBy W' dv.ownBlock → (t'.ownBlock = dv.ownBlock ∨ t'.ownBlock = some W.heap.size) → wpList Try.prog ops Q rest (a.put o.dst t') W') : wpList Try.prog ops Q (o :: rest) a W := by
  refine wpList_plain hgd fun K hK' => ?_
  obtain ⟨t', W', hr, k1, k2, k3⟩ := run_append_txt hd h h32 hB o.type
  unfold Oper.wp execOp
  simp only [ho, resolve, invoke, builtin, Sem.run_bind, Sem.run_pure, Result.andThen_ok, List.map_toArray, List.map_cons, List.map_nil, hdv, hx, hr]
  exact hK' _ _ (hK t' W' k1 k2 k3)
/-- A row's two pieces. -/
theorem txt_row {V : World} {B n : Nat} {pa : Option Addr} {c : Nat} {l : List Nm} (h : V.ownsRow B 9 1 (.slice pa n c) l.length (txts l)) : (pa = none ∧ l = [] ∧ n = 0 ∧ c = 0) ∨ ∃ g, pa = some ⟨g, 0, none⟩ ∧ n = l.length ∧ l.length ≤ c ∧ g < V.heap.size ∧ ∀ j s, l[j]? = some s → V.cell? ⟨g, j, none⟩ = some (.string (str s)) := by
  rcases h.2 with ⟨e1, e2⟩ | ⟨g, cap, cur, e1, _, hg, h1, h2, h3, h4⟩
  · injection e1 with e1 e3 e4
    exact Or.inl ⟨e1, List.length_eq_zero_iff.1 e2, e3, e4⟩
  · injection e1 with e1 e3 e4
    subst e1 e4
    refine Or.inr ⟨g, rfl, e3, h1, lt_of hg, fun j s hs => ?_⟩
    have hj : j < l.length := (List.getElem?_eq_some_iff.1 hs).1
    rw [cell_of hg]
    have h5 : (cur.toList.take (l.length * 1))[j]? = (txts l)[j]? := by rw [h4]
    rw [List.getElem?_take_of_lt (by omega)] at h5
    unfold txts at h5
    rw [List.getElem?_map, hs] at h5
    simpa using h5
end Go.Proofs.Ytginibphicmmmaa
