/- Merged: Vt, Lr1, Vb, Lr2, Lr3, Lr4, Lr5, Lr6. -/
import Derived.Test.YtekoaheiapddiaaGreatU08
import Derived.Test.YtekoaheiapddiaaGreatU15
import Derived.Deep.Strs
import Derived.Test.YtekoaheiapddiaaGreatU01
section
set_option maxRecDepth 100000
namespace Go.Proofs.YtekoaheiapddiaaGreat
open Go.ChangeShapes Go.WideShapes Go.ChangeAt Go.RowKit Go.Deep Go.Joins

theorem size6 {α : Type} {cs : Array α} (h : cs.size = 6) : ∃ c0 c1 c2 c3 c4 c5, cs = #[c0, c1, c2, c3, c4, c5] := by
  obtain ⟨l⟩ := cs
  match l, h with
  | [c0, c1, c2, c3, c4, c5], _ => exact ⟨c0, c1, c2, c3, c4, c5, rfl⟩
theorem cellsU64 : Tryz.prog.cellsOf 41 = 1 := by kernel_rfl
theorem cellsStr : Tryz.prog.cellsOf 9 = 1 := by kernel_rfl
theorem cellsAcc : Tryz.prog.cellsOf 82 = 6 := by kernel_rfl
section
variable {H : Type} {enc : TypeId × Value → H} {w : World} {base : Nat} {spare : Nat → Bool} {held : Bool}
/-- Cells that read as d. -/
def Trd (enc : TypeId × Value → H) (w : World) (base : Nat) (spare : Nat → Bool) (held : Bool) (t : TypeId) (cs : List Value) (d : DataW H) (p : List MemPlace) : Prop := ∃ n, DataW.trod enc Tryz.prog w base spare held n t cs = some (d, p)
theorem trd_word {c0 c1 c2 c3 : Value} {d : DataW H} {p : List MemPlace} (h : Trd enc w base spare held 61 [c0, c1, c2, c3] d p) :
    ∃ n d3 d2 d1 d0 : Nat, c0 = .int .u64 d3 ∧ c1 = .int .u64 d2 ∧ c2 = .int .u64 d1 ∧ c3 = .int .u64 d0 ∧ d = wordD d3 d2 d1 d0 ∧ p = [] ∧ Dig n d0 d1 d2 d3 := by
  obtain ⟨fuel, h⟩ := h
  obtain ⟨y0, y1, y2, y3, n, hx, _, h0, h1, h2, h3⟩ := trod_struct4 Tryz.underlying61 h
  simp only [cellsU64] at h0 h1 h2 h3
  obtain ⟨n3, e0, rfl, w3⟩ := DataW.trod_int Tryz.underlying41 h0
  obtain ⟨n2, e1, rfl, w2⟩ := DataW.trod_int Tryz.underlying41 h1
  obtain ⟨n1, e2, rfl, w1⟩ := DataW.trod_int Tryz.underlying41 h2
  obtain ⟨n0, e3, rfl, w0⟩ := DataW.trod_int Tryz.underlying41 h3
  obtain ⟨k3, rfl, l3⟩ := u64_of w3
  obtain ⟨k2, rfl, l2⟩ := u64_of w2
  obtain ⟨k1, rfl, l1⟩ := u64_of w1
  obtain ⟨k0, rfl, l0⟩ := u64_of w0
  simp at e0 e1 e2 e3
  simp at hx
  exact ⟨_, k3, k2, k1, k0, e0, e1, e2, e3, hx.1, hx.2, ⟨l0, l1, l2, l3, rfl⟩⟩
theorem trd_word_mk {n d3 d2 d1 d0 : Nat} (h : Dig n d0 d1 d2 d3) : Trd enc w base spare held 61 [.int .u64 d3, .int .u64 d2, .int .u64 d1, .int .u64 d0] (wordD d3 d2 d1 d0) [] := by
  obtain ⟨m, hm⟩ := shut_word (enc := enc) (w := w) (base := base) (spare := spare) (held := held) h
  exact ⟨m, by simpa [Value.cells] using hm⟩
theorem trd_account {c0 c1 c2 c3 c4 c5 : Value} {d : DataW H} {p : List MemPlace} (h : Trd enc w base spare held 82 [c0, c1, c2, c3, c4, c5] d p) :
    ∃ (k n d3 d2 d1 d0 : Nat) (s : ByteArray), c0 = .int .u64 k ∧ c1 = .int .u64 d3 ∧ c2 = .int .u64 d2 ∧ c3 = .int .u64 d1 ∧ c4 = .int .u64 d0 ∧ c5 = .string s ∧ d = .agg [.lit (.int .u64 k), wordD d3 d2 d1 d0, .lit (.string s.data.toList)] ∧ p = [] ∧ k < M64 ∧ Dig n d0 d1 d2 d3 ∧ s.size ≤ maxLen := by
  obtain ⟨fuel, h⟩ := h
  obtain ⟨y0, y1, y2, n, hx, _, h0, h1, h2⟩ := trod_struct3 Tryz.underlying82 h
  simp only [cellsU64, cellsWord, cellsStr] at h0 h1 h2
  obtain ⟨k, e0, rfl, w0⟩ := DataW.trod_int Tryz.underlying41 h0
  obtain ⟨m, d3, d2, d1, d0, q0, q1, q2, q3, ed, ep, hd⟩ := trd_word ⟨n, h1⟩
  obtain ⟨s, e5, rfl, hs⟩ := DataW.trod_string Tryz.underlying9 h2
  obtain ⟨k0, rfl, l0⟩ := u64_of w0
  simp at e0 e5
  simp [ed, ep] at hx
  exact ⟨k0, m, d3, d2, d1, d0, s, e0, q0, q1, q2, q3, e5, hx.1, hx.2, l0, hd, hs⟩
theorem trd_account_mk {k n d3 d2 d1 d0 : Nat} {s : ByteArray} (hk : k < M64) (h : Dig n d0 d1 d2 d3) (hs : s.size ≤ maxLen) :
    Trd enc w base spare held 82 [.int .u64 k, .int .u64 d3, .int .u64 d2, .int .u64 d1, .int .u64 d0, .string s] (.agg [.lit (.int .u64 k), wordD d3 d2 d1 d0, .lit (.string s.data.toList)]) [] := by
  obtain ⟨m, hm⟩ := trd_word_mk (enc := enc) (w := w) (base := base) (spare := spare) (held := held) h
  exact ⟨m + 1 + 1, trod_struct3_mk Tryz.underlying82 (by rw [cellsAcc]; rfl) (y0 := (_, [])) (y1 := (_, [])) (y2 := (_, []))
    (by simp only [cellsU64]; exact trod_int_mk m Tryz.underlying41 (wf_of hk)) (by simp only [cellsWord]; exact DataW.trod_le (Nat.le_succ m) hm) (by simp only [cellsStr]; exact show DataW.trod enc Tryz.prog w base spare held (m + 1) 9 [.string s] = _ by simp [DataW.trod, Tryz.underlying9, hs])⟩
theorem open_account {r : Reach} {b0 : Nat} {v : Value} {d : DataW H} {p : List MemPlace} (hv : Value.okWide Tryz.prog w r b0 82 v) (h : DataW.Trod enc Tryz.prog w base spare held 82 v d p) :
    ∃ (k n d3 d2 d1 d0 : Nat) (s : ByteArray), v = .agg #[.int .u64 k, .int .u64 d3, .int .u64 d2, .int .u64 d1, .int .u64 d0, .string s] ∧ d = .agg [.lit (.int .u64 k), wordD d3 d2 d1 d0, .lit (.string s.data.toList)] ∧ p = [] ∧ k < M64 ∧ Dig n d0 d1 d2 d3 ∧ s.size ≤ maxLen := by
  obtain ⟨cs, rfl, hsz⟩ := okWide_struct Tryz.underlying82 hv
  obtain ⟨c0, c1, c2, c3, c4, c5, rfl⟩ := size6 (hsz.trans cellsAcc)
  obtain ⟨fuel, hf⟩ := h
  obtain ⟨k, n, d3, d2, d1, d0, s, rfl, rfl, rfl, rfl, rfl, rfl, hd, hp, h1, h2, h3⟩ := trd_account ⟨fuel, by simpa [Value.cells] using hf⟩
  exact ⟨k, n, d3, d2, d1, d0, s, rfl, hd, hp, h1, h2, h3⟩
theorem shut_account {k n d3 d2 d1 d0 : Nat} {s : ByteArray} (hk : k < M64) (h : Dig n d0 d1 d2 d3) (hs : s.size ≤ maxLen) :
    DataW.Trod enc Tryz.prog w base spare held 82 (.agg #[.int .u64 k, .int .u64 d3, .int .u64 d2, .int .u64 d1, .int .u64 d0, .string s]) (.agg [.lit (.int .u64 k), wordD d3 d2 d1 d0, .lit (.string s.data.toList)]) [] := by
  obtain ⟨m, hm⟩ := trd_account_mk (enc := enc) (w := w) (base := base) (spare := spare) (held := held) hk h hs
  exact ⟨m, by simpa [Value.cells] using hm⟩
end
end Go.Proofs.YtekoaheiapddiaaGreat
end
section
namespace Go.Proofs.YtekoaheiapddiaaGreat
open Go.RowKit

theorem infoItemR : (Tryz.prog.info? 125).map (fun i => (i.zero, i.size, i.bytes)) = some (some (.agg #[.bool false, .string ⟨#[]⟩, .slice none 0 0]), 3, 48) := by kernel_rfl
/-- A slice of items that the call has made, from block B on, and that may grow. -/
def OwnR (B : Nat) (f : Fo) (v : Value) (W : World) : Prop :=
  ∃ (S : Nat → Prop) (xs : List Value), W.ownsRow B 125 3 v f.len xs ∧ Cel S f xs W ∧ ∀ k, S k → B ≤ k ∧ k < W.heap.size ∧ v.ownBlock ≠ some k
theorem OwnR.sl {B : Nat} {f : Fo} {v : Value} {W : World} (h : OwnR B f v W) : SlF (fun k => B ≤ k ∧ k < W.heap.size) f v W := by
  obtain ⟨S, xs, ho, hc, hS⟩ := h
  have hc' := hc.mono (T := fun k => B ≤ k ∧ k < W.heap.size) (fun k hk => ⟨(hS k hk).1, (hS k hk).2.1⟩) f xs
  rcases ho.2 with ⟨rfl, h0⟩ | ⟨g, cap, cur, rfl, hb, hg, hn, _, _, _⟩
  · left
    refine ⟨rfl, ?_⟩
    cases f with
    | nil => rfl
    | text s r => simp [Fo.len] at h0
    | list i r => simp [Fo.len] at h0
  · right
    refine ⟨g, 0, cap, rfl, ⟨hb, lt_of hg⟩, hn, ?_⟩
    refine Cel.at f xs 0 (fun j u hj => ?_) hc'
    have h := ho.cells (g := g) rfl j u hj
    have e : (⟨g, 0, none⟩ : Addr).add j = ⟨g, j, none⟩ := by unfold Addr.add; split <;> simp_all
    rw [e] at h
    rw [Nat.zero_add]; exact h
/-- It stays while its blocks stay. -/
theorem OwnR.kept {B : Nat} {f : Fo} {v : Value} {W W' : World} (h : OwnR B f v W) (hb : ∀ k, B ≤ k → k < W.heap.size → W'.heap[k]? = W.heap[k]?) (hs : W.heap.size ≤ W'.heap.size) : OwnR B f v W' := by
  obtain ⟨S, xs, ho, hc, hS⟩ := h
  refine ⟨S, xs, ?_, hc.kept (fun k hk => hb k (hS k hk).1 (hS k hk).2.1) f xs, fun k hk => ⟨(hS k hk).1, Nat.lt_of_lt_of_le (hS k hk).2.1 hs, (hS k hk).2.2⟩⟩
  refine ⟨ho.1, ?_⟩
  rcases ho.2 with h0 | ⟨g, cap, cur, rfl, hbg, hg, rest⟩
  · exact Or.inl h0
  · exact Or.inr ⟨g, cap, cur, rfl, hbg, (hb g hbg (lt_of hg)).trans hg, rest⟩
theorem OwnR.blk {B : Nat} {f : Fo} {v : Value} {W : World} (h : OwnR B f v W) : ∀ k, v.ownBlock = some k → B ≤ k ∧ k < W.heap.size := by
  obtain ⟨S, xs, ho, _⟩ := h
  exact ho.lt
/-- One item more. -/
theorem wpList_append_itemR {ops : Array Oper} {rest : List Oper} {o : Oper} {a : Act} {Q : Exit → Act → World → Prop} {W : World} (hgd : o.guard = none) (s x : Operand)
    (ho : o.op = .call { callee := .builtin .append, args := #[s, x], argTypes := #[123, 123] })
    (B : Nat) (v : Value) (f : Fo) (it : It) (b : Bool) (t : ByteArray) (l : Value) (S : Nat → Prop) (hs : a.eval s = v) (h : OwnR B f v W) (hS : ∀ k, S k → B ≤ k ∧ k < W.heap.size ∧ v.ownBlock ≠ some k)
    (hone : l.oneCell' = true) (hcel : Cel S (it.fo .nil) [.bool b, .string t, l] W)
    (q : Nat) (hx : a.eval x = .slice (some ⟨q, 0, none⟩) 1 1) (hz : W.heap[q]? = some (.cells #[.bool b, .string t, l] 125 (0, 0))) (hB : B ≤ W.heap.size) (hn : f.len < 1000000)
    (hK : ∀ v' W', OwnR B (f.app (it.fo .nil)) v' W' → W.grownBy W' v.ownBlock → (v'.ownBlock = v.ownBlock ∨ v'.ownBlock = some W.heap.size) → wpList Tryz.prog ops Q rest (a.put o.dst v') W') : wpList Tryz.prog ops Q (o :: rest) a W := by
  obtain ⟨i0, hi, hz0, hz1, hz2⟩ := info_parts infoItemR
  obtain ⟨S0, xs, hown, hc, hS0⟩ := h
  have hlen : (it.fo .nil).len = 1 := by cases it <;> rfl
  refine wpList_append_own_at W hgd s x 123 ho B 125 i0 _ 3 48 Tryz.underlying123 hi hz0 hz1 hz2 rfl (by omega) v f.len xs hs hown ⟨q, 0, none⟩ 1 1 [.bool b, .string t, l] hx rfl ?_ ?_ (by unfold maxLen; omega) (by omega) hB ?_
  · intro j u hj
    have e : (⟨q, 0, none⟩ : Addr).add j = ⟨q, j, none⟩ := by unfold Addr.add; split <;> simp_all
    rw [e, cell_of hz]
    simpa using hj
  · intro u hu
    simp only [List.mem_cons, List.not_mem_nil, or_false] at hu
    rcases hu with rfl | rfl | rfl
    · rfl
    · rfl
    · exact hone
  · intro v' W' h1 h2 h3 h4
    refine hK v' W' ?_ h2 h4
    have hk0 : ∀ k, S0 k → W'.heap[k]? = W.heap[k]? := fun k hk => h2.block k (hS0 k hk).2.1 (fun e => (hS0 k hk).2.2 e.symm)
    have hk1 : ∀ k, S k → W'.heap[k]? = W.heap[k]? := fun k hk => h2.block k (hS k hk).2.1 (fun e => (hS k hk).2.2 e.symm)
    refine ⟨fun k => S0 k ∨ S k, xs ++ [.bool b, .string t, l], ?_, ?_, ?_⟩
    · rw [Fo.len_app, hlen]; exact h1
    · exact Cel.app ((hcel.kept hk1 _ _).mono (fun _ h => Or.inr h) _ _) _ _ ((hc.kept hk0 _ _).mono (fun _ h => Or.inl h) _ _)
    · intro k hk
      have hkk : B ≤ k ∧ k < W.heap.size ∧ v.ownBlock ≠ some k := hk.elim (hS0 k) (hS k)
      refine ⟨hkk.1, Nat.lt_of_lt_of_le hkk.2.1 h2.size, ?_⟩
      rcases h4 with h4 | h4
      · rw [h4]; exact hkk.2.2
      · rw [h4]; intro e; injection e with e; omega

/-- The first of some items. -/
theorem At_cons {S : Nat → Prop} {x : It} {r : Fo} {g o : Nat} {W : World} (h : (x.fo r).At S g o W) :
    ∃ b t a n c, W.cell? ⟨g, o, none⟩ = some (.bool b) ∧ W.cell? ⟨g, o + 1, none⟩ = some (.string t) ∧ W.cell? ⟨g, o + 2, none⟩ = some (.slice a n c) ∧ ItV S x (.agg #[.bool b, .string t, .slice a n c]) W ∧ r.At S g (o + 3) W := by
  cases x with
  | text s => exact ⟨false, str s, none, 0, 0, h.1.1, h.1.2.1, h.1.2.2, rfl, h.2⟩
  | list i =>
    obtain ⟨⟨h0, h1, v, h2, h3⟩, h4⟩ := h
    rcases h3 with ⟨rfl, rfl⟩ | ⟨g', o', c, rfl, hS, hc, ha⟩
    · exact ⟨true, ⟨#[]⟩, none, 0, 0, h0, h1, h2, ⟨_, rfl, Or.inl ⟨rfl, rfl⟩⟩, h4⟩
    · exact ⟨true, ⟨#[]⟩, some ⟨g', o', none⟩, i.len, c, h0, h1, h2, ⟨_, rfl, Or.inr ⟨g', o', c, rfl, hS, hc, ha⟩⟩, h4⟩
theorem Fo.cases_it (f : Fo) : f = .nil ∨ ∃ x r, f = It.fo x r := by
  cases f with
  | nil => exact Or.inl rfl
  | text s r => exact Or.inr ⟨.text s, r, rfl⟩
  | list i r => exact Or.inr ⟨.list i, r, rfl⟩
/-- What holds of each of the items. -/
def Fo.All (P : It → Prop) : Fo → Prop
  | .nil => True
  | .text s r => P (.text s) ∧ r.All P
  | .list i r => P (.list i) ∧ r.All P
theorem Fo.all_cons {P : It → Prop} {x : It} {r : Fo} (h : (x.fo r).All P) : P x ∧ r.All P := by cases x <;> exact h
theorem Fo.all_of {P : It → Prop} (ht : ∀ s, P (.text s)) (hl : ∀ i : Fo, i.All P → P (.list i)) (f : Fo) : f.All P := by
  induction f with
  | nil => trivial
  | text s r ih => exact ⟨ht s, ih⟩
  | list i r ih1 ih2 => exact ⟨hl i ih1, ih2⟩
theorem It.all_of {P : It → Prop} (ht : ∀ s, P (.text s)) (hl : ∀ i : Fo, i.All P → P (.list i)) (x : It) : P x := by
  cases x with
  | text s => exact ht s
  | list i => exact hl i (Fo.all_of ht hl i)
theorem fo_len (x : It) (r : Fo) : (x.fo r).len = r.len + 1 := by cases x <;> rfl
end Go.Proofs.YtekoaheiapddiaaGreat
end
section
namespace Go.Proofs.YtekoaheiapddiaaGreat
open Go.RowKit

theorem wmust_ok (w : World) : Calls Tryz.prog 186 #[.bool true] w fun e w' => e = .returned (.tuple #[]) ∧ w' = w := by
  go_enter Tryz.func186, Tryz.ntmps186
  go_wp2_with fail
  go_end0
  exact ⟨rfl, rfl⟩
theorem wmust_no (w : World) : Calls Tryz.prog 186 #[.bool false] w fun e w' => e = .panicked boom ∧ w' = w := by
  go_enter Tryz.func186, Tryz.ntmps186
  go_wp2_with fail
  exact ⟨rfl, rfl, rfl⟩
/-- The fields in block g have the items f left, that lie in blocks of S. -/
structure Fd (S : Nat → Prop) (g : Nat) (f : Fo) (W : World) : Prop where
  lt : ∀ k, S k → k < W.heap.size ∧ k ≠ g
  row : ∃ v, W.heap[g]? = some (.cells #[v] 286 (0, 0)) ∧ SlF S f v W
theorem Fd.blt {S : Nat → Prop} {g : Nat} {f : Fo} {W : World} (h : Fd S g f W) : g < W.heap.size := by
  obtain ⟨v, h1, _⟩ := h.row
  exact lt_of h1
theorem Fd.call {S : Nat → Prop} {g : Nat} {f : Fo} {W W' : World} (h : Fd S g f W) (hb : Below W.heap.size W W') : Fd S g f W' := by
  obtain ⟨v, h1, h2⟩ := h.row
  exact ⟨fun k hk => ⟨Nat.lt_of_lt_of_le (h.lt k hk).1 hb.size, (h.lt k hk).2⟩, v, (hb.block _ (lt_of h1)).trans h1, h2.kept fun k hk => hb.block k (h.lt k hk).1⟩
theorem slice_one_item (g o k c : Nat) (W : World) : (Instr.slice 196 (.slice (some ⟨g, o, Option.none⟩) (k + 1) c) (some (.int .i64 1)) Option.none Option.none).run Tryz.prog W = .ok (.slice (some ⟨g, if c = 1 then o else o + 3, Option.none⟩) k (c - 1)) W := by
  have he : (sizeOf (Tryz.prog.elem 196)).run Tryz.prog W = .ok 3 W := by kernel_rfl
  rw [run_slice_l W 196 (some ⟨g, o, Option.none⟩) (k + 1) c (by rw [Tryz.underlying196]; kernel_rfl) .i64 1 (by omega) (by omega), he]
  simp only [Result.andThen_ok]
  unfold sliced
  have h1 : Int.toNat 1 = 1 := rfl
  rw [h1]
  by_cases h : c = 1
  · rw [if_pos h, if_pos h]; rfl
  · rw [if_neg h, if_neg h]
    have e : (⟨g, o, Option.none⟩ : Addr).add (1 * 3) = ⟨g, o + 3, Option.none⟩ := by unfold Addr.add; split <;> simp_all
    simp [e]
set_option maxRecDepth 100000 in
theorem next_none {S : Nat → Prop} {g : Nat} {w : World} (h : Fd S g .nil w) : Calls Tryz.prog 232 #[.pointer (some ⟨g, 0, none⟩)] w fun e w' => e = .panicked boom ∧ Below w.heap.size w w' := by
  obtain ⟨v, h1, h2⟩ := h.row
  obtain ⟨a, c, rfl⟩ := h2.len
  have hal : Below w.heap.size w (w.alloc (.cells #[.bool false, .string ⟨#[]⟩, .slice none 0 0] 198)) := (Below.refl _ _).alloc (Nat.le_refl _) _
  have c0 := cell_of ((hal.block _ (lt_of h1)).trans h1) 0
  have H := Lib.hid hal
  clear h h1 h2 hal
  go_enter Tryz.func232, Tryz.ntmps232
  go_wp2_with (go_at_call 186; refine (wmust_no _).mono ?_; rintro e w1 ⟨rfl, rfl⟩)
  exact ⟨rfl, rfl, H.out⟩
/-- What next hands back: an item; what it leaves. -/
def NextR (S : Nat → Prop) (g : Nat) (x : It) (r : Fo) (w : World) (e : Ending) (w' : World) : Prop :=
  ∃ v, e = .returned v ∧ ItV S x v w' ∧ Fd S g r w' ∧ Only (fun k => k = g) w.heap.size w w'
theorem NextR.mk {S : Nat → Prop} {g : Nat} {x : It} {r : Fo} {w w' : World} {e : Ending} (v : Value) (h1 : e = .returned v) (h2 : ItV S x v w') (h3 : Fd S g r w') (h4 : Only (fun k => k = g) w.heap.size w w') : NextR S g x r w e w' := ⟨v, h1, h2, h3, h4⟩
set_option maxRecDepth 100000 in
set_option maxHeartbeats 1000000 in
theorem next_some {S : Nat → Prop} {g : Nat} {x : It} {r : Fo} {w : World} (h : Fd S g (x.fo r) w) (hl : r.len < 100000) : Calls Tryz.prog 232 #[.pointer (some ⟨g, 0, none⟩)] w fun e w' => NextR S g x r w e w' := by
  obtain ⟨v, h1, h2⟩ := h.row
  have hlen : (x.fo r).len = r.len + 1 := by cases x <;> rfl
  obtain ⟨g', o, c, rfl, hS, hc, hat⟩ : ∃ g' o c, v = .slice (some ⟨g', o, none⟩) (r.len + 1) c ∧ S g' ∧ r.len + 1 ≤ c ∧ (x.fo r).At S g' o w := by
    rcases h2 with ⟨_, h0⟩ | ⟨g', o, c, rfl, k1, k2, k3⟩
    · cases x <;> cases h0
    · rw [hlen] at k2 ⊢
      exact ⟨g', o, c, rfl, k1, k2, k3⟩
  have hal : Below w.heap.size w (w.alloc (.cells #[.bool false, .string ⟨#[]⟩, .slice none 0 0] 198)) := (Below.refl _ _).alloc (Nat.le_refl _) _
  obtain ⟨e0, e1, e2, e3, e4, f0, f1, f2, hx, hr⟩ := At_cons hat
  have hd := h.lt
  have hgS := h.lt g' hS
  have hglt := lt_of h1
  -- the world behind both boxes
  obtain ⟨W2, hW2⟩ : ∃ W2, W2 = (w.alloc (.cells #[.bool false, .string ⟨#[]⟩, .slice none 0 0] 198)).alloc (.cells #[.bool e0, .string e1, .slice e2 e3 e4] 198) := ⟨_, rfl⟩
  have hb2 : Below w.heap.size w W2 := by rw [hW2]; exact hal.alloc (by simp) _
  have k0 := (World.cell?_of_block (a := ⟨g', o, none⟩) (hal.block g' hgS.1)).trans f0
  have k1 := (World.cell?_of_block (a := ⟨g', o + 1, none⟩) (hal.block g' hgS.1)).trans f1
  have k2 := (World.cell?_of_block (a := ⟨g', o + 2, none⟩) (hal.block g' hgS.1)).trans f2
  have c0 := cell_of ((hal.block _ hglt).trans h1) 0
  have hg2 := (hb2.block _ hglt).trans h1
  have c2 := cell_of hg2 0
  have z2 := free_of hg2 0
  have n0 : W2.heap[w.heap.size]? = some (.cells #[.bool false, .string ⟨#[]⟩, .slice none 0 0] 198 (0, 0)) := by rw [hW2]; exact heap_alloc2_old _ _ _
  have n1 : W2.heap[w.heap.size + 1]? = some (.cells #[.bool e0, .string e1, .slice e2 e3 e4] 198 (0, 0)) := by rw [hW2]; exact heap_alloc2_new _ _ _
  obtain ⟨o2, ho2⟩ : ∃ o2, (if c = 1 then o else o + 3) = o2 := ⟨_, rfl⟩
  have hsl := slice_one_item g' o r.len c
  rw [ho2] at hsl
  -- the world behind the store
  obtain ⟨W3, hW3⟩ : ∃ W3, W3 = W2.setCell ⟨g, 0, none⟩ (.slice (some ⟨g', o2, none⟩) r.len (c - 1)) := ⟨_, rfl⟩
  have s0 : W3.heap[w.heap.size]? = some (.cells #[.bool false, .string ⟨#[]⟩, .slice none 0 0] 198 (0, 0)) := by rw [hW3]; exact (heap_setCell_other _ _ _ _ (by simp; omega)).trans n0
  have s1 : W3.heap[w.heap.size + 1]? = some (.cells #[.bool e0, .string e1, .slice e2 e3 e4] 198 (0, 0)) := by rw [hW3]; exact (heap_setCell_other _ _ _ _ (by simp; omega)).trans n1
  obtain ⟨⟨a0, a1, a2⟩, _⟩ := cells3 s1
  obtain ⟨⟨b0, b1, b2⟩, z0, z1, z3⟩ := cells3 s0
  have hkS : ∀ k, S k → (((W3.setCell ⟨w.heap.size, 0, none⟩ (.bool e0)).setCell ⟨w.heap.size, 1, none⟩ (.string e1)).setCell ⟨w.heap.size, 2, none⟩ (.slice e2 e3 e4)).heap[k]? = w.heap[k]? := fun k hk => by
    have hk1 := hd k hk
    rw [heap_setCell_other _ _ _ _ (by simp; omega), heap_setCell_other _ _ _ _ (by simp; omega), heap_setCell_other _ _ _ _ (by simp; omega), hW3, heap_setCell_other _ _ _ _ (by simp; omega)]
    exact hb2.block k hk1.1
  have hFd : Fd S g r (((W3.setCell ⟨w.heap.size, 0, none⟩ (.bool e0)).setCell ⟨w.heap.size, 1, none⟩ (.string e1)).setCell ⟨w.heap.size, 2, none⟩ (.slice e2 e3 e4)) := by
    refine ⟨fun k hk => ⟨by rw [hW3]; simp [World.setCell]; have := (hd k hk).1; have := hb2.size; omega, (hd k hk).2⟩, .slice (some ⟨g', o2, none⟩) r.len (c - 1), ?_, ?_⟩
    · rw [heap_setCell_other _ _ _ _ (by simp; omega), heap_setCell_other _ _ _ _ (by simp; omega), heap_setCell_other _ _ _ _ (by simp; omega), hW3]
      have := heap_setCell_same _ _ 0 _ _ (.slice (some ⟨g', o2, none⟩) r.len (c - 1)) hg2
      simpa using this
    · refine Or.inr ⟨g', o2, c - 1, rfl, hS, by omega, ?_⟩
      by_cases hc1 : c = 1
      · have : r = .nil := by
          cases r with
          | nil => rfl
          | text s q => simp [Fo.len] at hc; omega
          | list i q => simp [Fo.len] at hc; omega
        rw [this]; trivial
      · rw [if_neg hc1] at ho2
        rw [← ho2]
        exact Fo.At.kept hkS _ _ _ hS hr
  have hOn : Only (fun k => k = g) w.heap.size w (((W3.setCell ⟨w.heap.size, 0, none⟩ (.bool e0)).setCell ⟨w.heap.size, 1, none⟩ (.string e1)).setCell ⟨w.heap.size, 2, none⟩ (.slice e2 e3 e4)) := by
    rw [hW3]
    exact ((((Only.of_below (may := fun k => k = g) hb2).setCell (p := ⟨g, 0, none⟩) (Or.inr rfl) _).setCell (p := ⟨w.heap.size, 0, none⟩) (Or.inl (Nat.le_refl _)) _).setCell (p := ⟨w.heap.size, 1, none⟩) (Or.inl (Nat.le_refl _)) _).setCell (p := ⟨w.heap.size, 2, none⟩) (Or.inl (Nat.le_refl _)) _
  have HF := Lib.hid (And.intro hFd (And.intro hOn (hx.kept hkS)))
  have HW := Lib.hid (And.intro hW2 hW3)
  have HR := Lib.hid (heap_set3 s0 (.bool e0) (.string e1) (.slice e2 e3 e4))
  have hli : (0 : Int) < (r.len : Int) + 1 := by omega
  have hli0 : (1 : Int) ≤ (r.len : Int) + 1 := by omega
  rw [hW2] at c2 z2
  rw [hW3, hW2] at a0 a1 a2 b0 b1 b2 z0 z1 z3
  clear h h1 h2 hat hal hx hr hd hgS hglt hb2 hg2 n0 n1 s0 s1 ho2 hkS hFd hOn hlen f0 f1 f2 hc hS hW2 hW3
  generalize r.len = rl at *
  go_enter Tryz.func232, Tryz.ntmps232
  go_wp2_with (go_at_call 186; refine (wmust_ok _).mono ?_; rintro e w1 ⟨rfl, rfl⟩)
  have e2' := HW.out.2
  rw [HW.out.1] at e2'
  rw [← e2']
  exact bodyPost_ret (results_cell_row Tryz.results232 _ _ _ _ _ _ _ rfl HR.out Tryz.underlying198 rfl (by kernel_rfl)) rfl (NextR.mk _ rfl HF.out.2.2 HF.out.1 HF.out.2.1)
end Go.Proofs.YtekoaheiapddiaaGreat
end
section
namespace Go.Proofs.YtekoaheiapddiaaGreat
open Go.RowKit

theorem Fo.len_enc (f : Fo) : f.len ≤ f.enc.length := by
  induction f with
  | nil => simp [Fo.len]
  | text s r ih => have := encT_pos s; simp [Fo.len, Fo.enc]; omega
  | list i r _ ih => have := hd_pos 192 i.enc.length; simp [Fo.len, Fo.enc]; omega
end Go.Proofs.YtekoaheiapddiaaGreat
end
section
namespace Go.Proofs.YtekoaheiapddiaaGreat
open Go.RowKit

set_option maxRecDepth 100000 in
set_option maxHeartbeats 2000000 in
theorem rbytes_c (n : Nat) (hn : n < M64) (w : World) : Calls Tryz.prog 159 #[.int .u64 n] w fun e w' => e = .returned (.string (str (num n))) ∧ Below w.heap.size w w' := by
  have HL := Lib.hid (num_length_le (n := n) 8 (by unfold M64 at hn; exact hn))
  have HN := Lib.hid hn; clear hn
  go_enter Tryz.func159, Tryz.ntmps159
  go_wp2_with fail
  go_loopw [0, 3] (fun a s wr => ∃ (m : Nat) (acc : List UInt8), a = .int .u64 m ∧ s = .string (str acc) ∧ m < M64 ∧ num n = num m ++ acc ∧ Below w.heap.size w wr) (fun a _ _ => (intOf a).toNat)
  case atStart => exact ⟨n, [], rfl, rfl, HN.out, by simp, Below.refl _ _⟩
  case round =>
    obtain ⟨m, acc, rfl, rfl, hm, he, hb⟩ := hrel
    by_cases hz : m = 0
    · subst hz
      rw [num_zero, List.nil_append] at he
      have HB := Lib.hid hb; clear hb hm
      rw [← he]
      clear he
      go_wp2_with fail
      go_ret
      exact ⟨rfl, HB.out⟩
    · obtain ⟨x, hx⟩ : ∃ x, x = m % 256 := ⟨_, rfl⟩
      have hx1 : x < 256 := by rw [hx]; exact Nat.mod_lt _ (by decide)
      have hc := conv1 wr x hx1
      have hmi : (0 : Int) < (m : Int) := by omega
      have h7 : (m : Int) % 256 = (x : Int) := by omega
      have h8 : IntKind.u8.wrap (x : Int) = (x : Int) := by rw [IntKind.wrap_u8]; omega
      have ha := str_append [UInt8.ofNat x] acc
      obtain ⟨y, hy⟩ : ∃ y, y = m / 256 := ⟨_, rfl⟩
      have h9 : (m : Int) / 256 = (y : Int) := by omega
      have hym : y < m := by omega
      have h10 : IntKind.u64.wrap (y : Int) = (y : Int) := by rw [IntKind.wrap_u64]; unfold M64 at hm; omega
      have HE := Lib.hid (show num n = num y ++ ([UInt8.ofNat x] ++ acc) by rw [he, num_pos hz, List.append_assoc, hx, hy])
      have HB := Lib.hid (And.intro (hb.alloc hb.size (.cells #[.int .u8 (x : Int)] 5)) (Nat.lt_trans hym hm))
      have hal : acc.length ≤ 8 := by
        have h1 := congrArg List.length he
        rw [List.length_append] at h1
        have := HL.out; omega
      have hsum : ¬ 9223372036854775807 < (str [UInt8.ofNat x]).size + (str acc).size := by rw [str_size, str_size, List.length_singleton]; omega
      clear he hb hm hx hy hal
      generalize [UInt8.ofNat x] ++ acc = acc2 at *
      generalize str [UInt8.ofNat x] = sx at *
      go_wp2_with fail
      go_roundw
      case rel => exact ⟨y, acc2, rfl, rfl, HB.out.2, HE.out, HB.out.1⟩
      case measure => simp [intOf]; omega

set_option maxRecDepth 100000 in
set_option maxHeartbeats 2000000 in
theorem rhead_c (k n : Nat) (hk : k = 128 ∨ k = 192) (hn : n ≤ 800000000) (w : World) : Calls Tryz.prog 161 #[.int .i64 k, .int .i64 n] w fun e w' => e = .returned (.string (str (hd k n))) ∧ Below w.heap.size w w' := by
  by_cases h : n ≤ 55
  · have hh := Lib.hid (show hd k n = [UInt8.ofNat (k + n)] from if_pos h)
    obtain ⟨x, hx⟩ : ∃ x, x = k + n := ⟨_, rfl⟩
    have hx1 : x < 256 := by omega
    have h1 : (n : Int) ≤ 55 := by omega
    have h2 : (k : Int) + (n : Int) = (x : Int) := by omega
    have h3 : IntKind.u8.wrap (x : Int) = (x : Int) := by rw [IntKind.wrap_u8]; omega
    have h4 : IntKind.i64.wrap ((k : Int) + (n : Int)) = (k : Int) + (n : Int) := IntWalk.i64_in _ (by omega)
    have hc := conv1 w x hx1
    rw [← hx] at hh
    have HB := Lib.hid (bel_al w (.cells #[.int .u8 (x : Int)] 5))
    clear hx hk hn h
    go_enter Tryz.func161, Tryz.ntmps161
    go_wp2_with fail
    go_ret
    exact ⟨by rw [hh.out]; rfl, HB.out⟩
  · have hh := Lib.hid (show hd k n = UInt8.ofNat (k + 55 + (num n).length) :: num n from if_neg h)
    have hl : (num n).length ≤ 8 := num_length_le 8 (by simp; omega)
    obtain ⟨x, hx⟩ : ∃ x, x = k + 55 + (num n).length := ⟨_, rfl⟩
    have hx1 : x < 256 := by omega
    have h1 : ¬ (n : Int) ≤ 55 := by omega
    have hsz := str_size (num n)
    have h2 : (k : Int) + 55 + ((str (num n)).size : Int) = (x : Int) := by omega
    have h3 : IntKind.u8.wrap (x : Int) = (x : Int) := by rw [IntKind.wrap_u8]; omega
    have h4 : IntKind.u64.wrap (n : Int) = (n : Int) := by rw [IntKind.wrap_u64]; omega
    have hc := fun W => conv1 W x hx1
    have HR := Lib.hid (fun W => rbytes_c n (by unfold M64; omega) W)
    have ha := str_append [UInt8.ofNat x] (num n)
    rw [← hx] at hh
    rw [List.singleton_append, ← hh.out] at ha
    have hsum : ¬ 9223372036854775807 < (str [UInt8.ofNat x]).size + (str (num n)).size := by rw [str_size, hsz, List.length_singleton]; omega
    clear hx hk hn h hh hl hsz
    generalize str (num n) = sn at *
    generalize str [UInt8.ofNat x] = sx at *
    go_enter Tryz.func161, Tryz.ntmps161
    go_wp2_with fail
    go_at_call 159
    refine (HR.out _).mono ?_
    rintro e w1 ⟨rfl, hb⟩
    have HB := Lib.hid (bel_then hb (bel_al w1 (.cells #[.int .u8 (x : Int)] 5)))
    clear hb
    go_wp2_with fail
    go_ret
    exact ⟨rfl, HB.out⟩
end Go.Proofs.YtekoaheiapddiaaGreat
end
section
namespace Go.Proofs.YtekoaheiapddiaaGreat
open Go.RowKit

/-- A text's box stays. -/
def RBox (w : World) (t : ByteArray) (V : World) : Prop := Below w.heap.size w V ∧ V.heap[w.heap.size]? = some (.cells #[.bool false, .string t, .slice none 0 0] 125 (0, 0))
theorem rindex0 (c : UInt8) (r : List UInt8) (V : World) : (Instr.index 9 (.string (str (c :: r))) (.int .i64 0)).run Tryz.prog V = .ok (.int .u8 (c.toNat : Nat)) V := by
  rw [run_index_string V _ _ _ _ Tryz.underlying9, dif_pos ⟨by omega, by rw [str_size]; simp⟩]
  rw [str_get]; rfl
set_option maxRecDepth 100000 in
set_option maxHeartbeats 4000000 in
theorem renc_text (s : List UInt8) (hs : s.length ≤ 800000000) (w : World) : Calls Tryz.prog 115 #[.agg #[.bool false, .string (str s), .slice none 0 0]] w fun e w' => e = .returned (.string (str (encT s))) ∧ Below w.heap.size w w' := by
  have HB := Lib.hid (And.intro (bel_al w (.cells #[.bool false, .string (str s), .slice none 0 0] 125)) (heap_alloc_new w (.cells #[.bool false, .string (str s), .slice none 0 0] 125)))
  by_cases hb : bareL s = true
  · obtain ⟨c, rfl, hc⟩ : ∃ c, s = [c] ∧ c.toNat < 128 := by
      rcases s with _ | ⟨c, _ | ⟨d, r⟩⟩
      · cases hb
      · exact ⟨c, rfl, by simpa [bareL] using hb⟩
      · cases hb
    have he := Lib.hid (show str (encT [c]) = str [c] by simp [encT, hdT, hb])
    have hsz : ((str [c]).size : Int) = 1 := by rw [str_size]; rfl
    have hix := rindex0 c []
    have h1 : (c.toNat : Int) < 128 := by omega
    clear hc hs hb
    generalize str [c] = t at *
    go_enter Tryz.func115, Tryz.ntmps115
    go_wp2_with fail
    go_ret
    exact ⟨by rw [he.out]; rfl, HB.out.1⟩
  · have he := Lib.hid (show str (encT s) = str (hd 128 s.length) ++ str s by rw [str_append]; simp [encT, hdT, hb])
    have HC := Lib.hid (fun V => show Calls Tryz.prog 161 #[.int .i64 128, .int .i64 ((str s).size : Nat)] V fun e w' => e = .returned (.string (str (hd 128 s.length))) ∧ Below V.heap.size V w' from by
      rw [str_size]; exact rhead_c 128 s.length (Or.inl rfl) hs V)
    have hl := num_length_le (n := s.length) 8 (by simp; omega)
    have hsum : ¬ 9223372036854775807 < (str (hd 128 s.length)).size + (str s).size := by
      have := hd_len 128 s.length
      rw [str_size, str_size]; omega
    have hsz := str_size s
    clear hl
    by_cases h1 : s.length = 1
    · obtain ⟨c, rfl⟩ := List.length_eq_one_iff.1 h1
      have hs1 : ((str [c]).size : Int) = 1 := by rw [str_size]; rfl
      have hix := rindex0 c []
      have h2 : ¬ (c.toNat : Int) < 128 := by
        intro h; apply hb; simp [bareL]; omega
      clear hb h1 hs hsz
      generalize str (hd 128 [c].length) = th at *
      generalize str [c] = t at *
      go_enter Tryz.func115, Tryz.ntmps115
      go_wp2_with fail
      have H0 : RBox w t ((w.alloc (.cells #[.bool false, .string t, .slice none 0 0] 125)).drew) := ⟨HB.out.1.drew, HB.out.2⟩
      have HS := Lib.hid (fun (V : World) (hV : RBox w t V) => (cells3 hV.2).1)
      clear hix h2 hs1
      refine Drawn.start (RBox w t) (fun _ => false) (by kernel_rfl) ?_
      refine Drawn.take 0 (some 20) (v := ?_) rfl rfl (by kernel_rfl) (by kernel_rfl) (by kernel_rfl) (by kernel_rfl) (by kernel_rfl) rfl (fun _ _ _ h => h) (Or.inl ⟨rfl, ?_⟩) H0 ?_
      rotate_left
      · intro W hW; have hW := HS.out W hW; go_simp; try with_reducible rfl
      simp only [put_list, List.set]
      refine Drawn.take 1 (some 21) (v := ?_) rfl rfl (by kernel_rfl) (by kernel_rfl) (by kernel_rfl) (by kernel_rfl) (by kernel_rfl) rfl (fun _ _ _ h => h) (Or.inl ⟨rfl, ?_⟩) H0 ?_
      rotate_left
      · intro W hW; have hW := HS.out W hW; go_simp; try with_reducible rfl
      simp only [put_list, List.set]
      refine Drawn.take 2 (some 22) (v := ?_) rfl rfl (by kernel_rfl) (by kernel_rfl) (by kernel_rfl) (by kernel_rfl) (by kernel_rfl) rfl (fun _ _ _ h => h) (Or.inl ⟨rfl, ?_⟩) H0 ?_
      rotate_left
      · intro W hW; have hW := HS.out W hW; go_simp; try with_reducible rfl
      simp only [put_list, List.set]
      refine Drawn.take 4 (some 24) (v := ?_) rfl rfl (by kernel_rfl) (by kernel_rfl) (by kernel_rfl) (by kernel_rfl) (by kernel_rfl) rfl (fun _ _ _ h => h) (Or.inl ⟨rfl, ?_⟩) H0 ?_
      rotate_left
      · intro W hW; have hW := HS.out W hW; go_simp; try with_reducible rfl
      simp only [put_list, List.set]
      refine Drawn.take 5 (some 25) (v := ?_) rfl rfl (by kernel_rfl) (by kernel_rfl) (by kernel_rfl) (by kernel_rfl) (by kernel_rfl) rfl (fun _ _ _ h => h) (Or.inl ⟨rfl, ?_⟩) H0 ?_
      rotate_left
      · intro W hW; have hW := HS.out W hW; go_simp; try with_reducible rfl
      simp only [put_list, List.set]
      refine Drawn.only 3 (by kernel_rfl) rfl rfl (fun K hK => ?_)
      go_simp
      refine (HC.out _).mono ?_
      rintro e w9 ⟨rfl, hb9⟩
      have H1 : RBox w t w9 := ⟨H0.1.trans (hb9.mono H0.1.size), (hb9.block _ (lt_of H0.2)).trans H0.2⟩
      refine hK _ _ (fun _ _ => H1) ?_
      clear hK K HC H0 hb9 HB HS
      try simp only [put_list, List.set]
      refine Drawn.only 6 (by kernel_rfl) rfl rfl (fun K hK => ?_)
      go_simp
      refine hK _ _ (fun _ _ => H1) ?_
      clear hK K
      try simp only [put_list, List.set]
      refine Drawn.only 7 (by kernel_rfl) rfl rfl (fun K hK => ?_)
      go_simp
      refine hK _ _ (fun _ _ => H1) ?_
      clear hK K
      refine Drawn.done (by kernel_rfl) ?_ _
      have H2 := Lib.hid H1.1
      clear H1
      go_wp2_with fail
      go_ret
      exact ⟨by rw [he.out]; rfl, H2.out⟩
    · have hs1 : (((str s).size : Int) == 1) = false := by rw [beq_eq_false_iff_ne]; omega
      have hs2 : ¬ ((str s).size : Int) = 1 := by omega
      clear hb h1 hs hsz
      generalize str (hd 128 s.length) = th at *
      generalize str s = t at *
      go_enter Tryz.func115, Tryz.ntmps115
      go_wp2_with fail
      have H0 : RBox w t ((w.alloc (.cells #[.bool false, .string t, .slice none 0 0] 125)).drew) := ⟨HB.out.1.drew, HB.out.2⟩
      have HS := Lib.hid (fun (V : World) (hV : RBox w t V) => (cells3 hV.2).1)
      clear hs1 hs2
      refine Drawn.start (RBox w t) (fun _ => false) (by kernel_rfl) ?_
      refine Drawn.take 0 (some 20) (v := ?_) rfl rfl (by kernel_rfl) (by kernel_rfl) (by kernel_rfl) (by kernel_rfl) (by kernel_rfl) rfl (fun _ _ _ h => h) (Or.inl ⟨rfl, ?_⟩) H0 ?_
      rotate_left
      · intro W hW; have hW := HS.out W hW; go_simp; try with_reducible rfl
      simp only [put_list, List.set]
      refine Drawn.take 1 (some 21) (v := ?_) rfl rfl (by kernel_rfl) (by kernel_rfl) (by kernel_rfl) (by kernel_rfl) (by kernel_rfl) rfl (fun _ _ _ h => h) (Or.inl ⟨rfl, ?_⟩) H0 ?_
      rotate_left
      · intro W hW; have hW := HS.out W hW; go_simp; try with_reducible rfl
      simp only [put_list, List.set]
      refine Drawn.take 2 (some 22) (v := ?_) rfl rfl (by kernel_rfl) (by kernel_rfl) (by kernel_rfl) (by kernel_rfl) (by kernel_rfl) rfl (fun _ _ _ h => h) (Or.inl ⟨rfl, ?_⟩) H0 ?_
      rotate_left
      · intro W hW; have hW := HS.out W hW; go_simp; try with_reducible rfl
      simp only [put_list, List.set]
      refine Drawn.take 4 (some 24) (v := ?_) rfl rfl (by kernel_rfl) (by kernel_rfl) (by kernel_rfl) (by kernel_rfl) (by kernel_rfl) rfl (fun _ _ _ h => h) (Or.inl ⟨rfl, ?_⟩) H0 ?_
      rotate_left
      · intro W hW; have hW := HS.out W hW; go_simp; try with_reducible rfl
      simp only [put_list, List.set]
      refine Drawn.take 5 (some 25) (v := ?_) rfl rfl (by kernel_rfl) (by kernel_rfl) (by kernel_rfl) (by kernel_rfl) (by kernel_rfl) rfl (fun _ _ _ h => h) (Or.inl ⟨rfl, ?_⟩) H0 ?_
      rotate_left
      · intro W hW; have hW := HS.out W hW; go_simp; try with_reducible rfl
      simp only [put_list, List.set]
      refine Drawn.only 3 (by kernel_rfl) rfl rfl (fun K hK => ?_)
      go_simp
      refine (HC.out _).mono ?_
      rintro e w9 ⟨rfl, hb9⟩
      have H1 : RBox w t w9 := ⟨H0.1.trans (hb9.mono H0.1.size), (hb9.block _ (lt_of H0.2)).trans H0.2⟩
      refine hK _ _ (fun _ _ => H1) ?_
      clear hK K HC H0 hb9 HB HS
      try simp only [put_list, List.set]
      refine Drawn.only 6 (by kernel_rfl) rfl rfl (fun K hK => ?_)
      go_simp
      refine hK _ _ (fun _ _ => H1) ?_
      clear hK K
      try simp only [put_list, List.set]
      refine Drawn.only 7 (by kernel_rfl) rfl rfl (fun K hK => ?_)
      go_simp
      refine hK _ _ (fun _ _ => H1) ?_
      clear hK K
      refine Drawn.done (by kernel_rfl) ?_ _
      have H2 := Lib.hid H1.1
      clear H1
      go_wp2_with fail
      go_ret
      exact ⟨by rw [he.out]; rfl, H2.out⟩
/-- What is known of Encode for each item. -/
def REncC (x : It) : Prop := x.enc.length ≤ 100000 → ∀ (S : Nat → Prop) (v : Value) (w : World), (∀ k, S k → k < w.heap.size) → ItV S x v w → Calls Tryz.prog 115 #[v] w fun e w' => e = .returned (.string (str x.enc)) ∧ Below w.heap.size w w'
/-- What is known at the head of each round. -/
structure REncS (w : World) (a : Option Addr) (n c : Nat) (S : Nat → Prop) (f : Fo) (k : Nat) (s : List UInt8) (W : World) : Prop where
  below : Below w.heap.size w W
  box : W.heap[w.heap.size]? = some (.cells #[.bool true, .string ⟨#[]⟩, .slice a n c] 125 (0, 0))
  it : ∃ done rest : Fo, s = done.enc ∧ done.len = k ∧ f = done.app rest ∧ rest.All REncC ∧ (rest = .nil ∨ ∃ g o, a = some ⟨g, o, none⟩ ∧ S g ∧ rest.At S g (o + 3 * k) w)
set_option maxRecDepth 100000 in
set_option maxHeartbeats 8000000 in
theorem renc_go {a : Option Addr} {n c : Nat} {f : Fo} {S : Nat → Prop} (w : World) (hn : f.len = n) (hlen : f.enc.length ≤ 100000) (hA : f.All REncC) (hS : ∀ k, S k → k < w.heap.size)
    (hAt : f = .nil ∨ ∃ g o, a = some ⟨g, o, none⟩ ∧ S g ∧ f.At S g o w) :
    Calls Tryz.prog 115 #[.agg #[.bool true, .string ⟨#[]⟩, .slice a n c]] w fun e w' => e = .returned (.string (str (hd 192 f.enc.length ++ f.enc))) ∧ Below w.heap.size w w' := by
  have hn5 : n ≤ 100000 := by have := f.len_enc; omega
  have HO := Lib.hid (show REncS w a n c S f 0 [] (w.alloc (.cells #[.bool true, .string ⟨#[]⟩, .slice a n c] 125)) from
    ⟨bel_al w _, heap_alloc_new _ _, .nil, f, rfl, rfl, rfl, hA, by simpa using hAt⟩)
  have HN := Lib.hid (And.intro hn (And.intro hS hlen))
  clear hn hlen hA hS hAt
  go_enter Tryz.func115, Tryz.ntmps115
  go_wp2_with fail
  go_loopw [3, 4] (fun s i wr => ∃ (k : Nat) (l : List UInt8), s = .string (str l) ∧ i = .int .i64 k ∧ REncS w a n c S f k l wr) (fun _ i _ => n - (intOf i).toNat)
  case atStart => exact ⟨0, [], rfl, rfl, HO.out⟩
  case round =>
    clear HO
    obtain ⟨k, l, rfl, rfl, hR⟩ := hrel
    obtain ⟨done, rest, rfl, hO3, hO4, hO5, hO7⟩ := hR.it
    obtain ⟨⟨b0, b1, b2⟩, _⟩ := cells3 hR.box
    rcases rest.cases_it with rfl | ⟨x, r, rfl⟩
    · have hkn : ¬ (k : Int) < (n : Int) := by
        have := HN.out.1
        rw [hO4, Fo.len_app, hO3, show Fo.len .nil = 0 from rfl] at this
        omega
      rw [Fo.app_nil] at hO4
      subst hO4
      have hnl := num_length_le (n := f.enc.length) 8 (by have := HN.out.2.2; simp; omega)
      have hsum : ¬ 9223372036854775807 < (str (hd 192 f.enc.length)).size + (str f.enc).size := by
        have := hd_len 192 f.enc.length
        have := HN.out.2.2
        rw [str_size, str_size]; omega
      have he := Lib.hid (str_append (hd 192 f.enc.length) f.enc)
      have HC := Lib.hid (fun V => show Calls Tryz.prog 161 #[.int .i64 192, .int .i64 ((str f.enc).size : Nat)] V fun e w' => e = .returned (.string (str (hd 192 f.enc.length))) ∧ Below V.heap.size V w' from by
        rw [str_size]; exact rhead_c 192 _ (Or.inr rfl) (by have := HN.out.2.2; omega) V)
      have HB := Lib.hid hR.below
      clear hR hO3 hO5 hO7 hnl
      generalize str (hd 192 f.enc.length) = th at *
      generalize str f.enc = t at *
      go_wp2_with fail
      go_at_call 161
      refine (HC.out _).mono ?_
      rintro e w1 ⟨rfl, hb⟩
      have HB1 := Lib.hid (HB.out.trans (hb.mono HB.out.size))
      clear hb HB HC
      go_wp2_with fail
      go_ret
      exact ⟨by rw [← he.out]; rfl, HB1.out⟩
    · have hkl : k < n := by
        have := HN.out.1
        rw [hO4, Fo.len_app, hO3, fo_len] at this
        omega
      obtain ⟨g, o, rfl, hg, hat⟩ : ∃ g o, a = some ⟨g, o, none⟩ ∧ S g ∧ (x.fo r).At S g (o + 3 * k) w := by
        rcases hO7 with h | h
        · cases x <;> cases h
        · exact h
      obtain ⟨e0, e1, e2, e3, e4, f0, f1, f2, hx, hr⟩ := At_cons hat
      rw [show o + 3 * k = o + k * 3 by omega] at f0 f1 f2
      obtain ⟨hP, hrA⟩ := Fo.all_cons hO5
      have hfl : done.enc.length + (x.enc.length + r.enc.length) ≤ 100000 := by
        have := HN.out.2.2
        rw [hO4, Fo.enc_app, fo_enc, List.length_append, List.length_append] at this
        exact this
      have hb := hR.below
      have f0' := (World.cell?_of_block (hb.block g (HN.out.2.1 g hg))).trans f0
      have f1' := (World.cell?_of_block (hb.block g (HN.out.2.1 g hg))).trans f1
      have f2' := (World.cell?_of_block (hb.block g (HN.out.2.1 g hg))).trans f2
      have HC := Lib.hid (hP (by omega) S _ wr (fun i hi => Nat.lt_of_lt_of_le (HN.out.2.1 i hi) hb.size) (hx.kept (W' := wr) (fun i hi => hb.block i (HN.out.2.1 i hi))))
      have hki : (k : Int) < (n : Int) := by omega
      have hki0 : (0 : Int) ≤ (k : Int) ∧ (k : Int) < (n : Int) := by omega
      have hw : IntKind.i64.wrap ((k : Int) + 1) = (k : Int) + 1 := IntWalk.i64_in _ (by omega)
      have hsum : ¬ 9223372036854775807 < (str done.enc).size + (str x.enc).size := by rw [str_size, str_size]; omega
      have he := str_append done.enc x.enc
      have HQ := Lib.hid (show ∀ w1, Below wr.heap.size wr w1 → REncS w (some ⟨g, o, none⟩) n c S f (k + 1) (done.enc ++ x.enc) w1 from fun w1 hb1 =>
        ⟨hb.trans (hb1.mono hb.size), (hb1.block _ (lt_of hR.box)).trans hR.box, done.app (x.fo .nil), r, by rw [Fo.enc_app, It.enc_fo'], by rw [Fo.len_app, show (x.fo .nil).len = 1 by cases x <;> rfl, hO3], by rw [hO4, fo_app x r, Fo.app_assoc], hrA,
          Or.inr ⟨g, o, rfl, hg, by rw [show o + 3 * (k + 1) = o + 3 * k + 3 by omega]; exact hr⟩⟩)
      clear hR hO3 hO4 hO5 hO7 hP hrA hx hr hat f0 f1 f2 hfl hb
      generalize done.enc ++ x.enc = de at *
      generalize str done.enc = td at *
      generalize str x.enc = tx at *
      go_wp2_with fail
      go_at_call 115
      refine HC.out.mono ?_
      rintro e w1 ⟨rfl, hb⟩
      have HQ1 := Lib.hid (HQ.out _ hb)
      clear hb HQ HC f0' f1' f2' b0 b1 b2
      go_wp2_with fail
      go_roundw
      case rel => exact ⟨k + 1, de, rfl, by go_num, HQ1.out⟩
      case measure => simp [intOf]; omega
/-- What the reference's Encode does. -/
theorem renc_c (x : It) : REncC x := by
  refine It.all_of (P := REncC) (fun s hl S v w hS hv => ?_) (fun i hi hl S v w hS hv => ?_) x
  · obtain rfl : v = .agg #[.bool false, .string (str s), .slice none 0 0] := hv
    exact renc_text s (by have : s.length ≤ (encT s).length := by simp [encT]
                          have h2 : (encT s).length ≤ 100000 := hl
                          omega) w
  · obtain ⟨u, rfl, hu⟩ := hv
    have hil : i.enc.length ≤ 100000 := by simp [It.enc] at hl; omega
    rcases hu with ⟨rfl, rfl⟩ | ⟨g, o, c, rfl, hg, hc, ha⟩
    · exact renc_go (f := .nil) (S := S) w rfl (by simp [Fo.enc]) trivial hS (Or.inl rfl)
    · exact renc_go (f := i) (S := S) w rfl hil hi hS (Or.inr ⟨g, o, rfl, hg, ha⟩)
end Go.Proofs.YtekoaheiapddiaaGreat
end
