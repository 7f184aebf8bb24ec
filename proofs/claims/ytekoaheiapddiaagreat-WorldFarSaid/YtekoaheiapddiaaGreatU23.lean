/- Merged: Fb, Fa, Fc. -/
import Derived.Test.YtekoaheiapddiaaGreatU09
import Derived.Maps.AppendAt
import Derived.Laws.AppendOwnNone
import Derived.Test.YtekoaheiapddiaaGreatU15
import Derived.Maps.Keyed
import Derived.DeepKeys4
import Derived.DataShut
import Derived.Test.YtekoaheiapddiaaGreatU20
import Derived.Test.YtekoaheiapddiaaGreatU21
import Derived.Test.YtekoaheiapddiaaGreatU07
section
namespace Go.Proofs.YtekoaheiapddiaaGreat
open Go.RowKit

def Of (B : Nat) (e : TypeId) (l : List Value) (v : Value) (W : World) : Prop :=
  (v = .slice none 0 0 ∧ l = []) ∨ ∃ g o c cur, v = .slice (some ⟨g, o, none⟩) l.length c ∧ B ≤ g ∧ W.heap[g]? = some (.cells cur e (0, 0)) ∧ l.length ≤ c ∧ c ≤ maxLen ∧ o + c ≤ cur.size ∧ ∀ j u, l[j]? = some u → cur[o + j]? = some u
section
variable {B : Nat} {e : TypeId} {l : List Value} {v : Value} {W : World}
theorem Of.nil (B : Nat) (e : TypeId) (W : World) : Of B e [] (.slice none 0 0) W := Or.inl ⟨rfl, rfl⟩
theorem Of.form (h : Of B e l v W) : ∃ a c, v = .slice a l.length c := by
  rcases h with ⟨rfl, rfl⟩ | ⟨g, o, c, cur, rfl, _⟩
  · exact ⟨_, _, rfl⟩
  · exact ⟨_, _, rfl⟩
theorem Of.keep {W' : World} (h : Of B e l v W) (hb : ∀ k, v.ownBlock = some k → W'.heap[k]? = W.heap[k]?) : Of B e l v W' := by
  rcases h with h | ⟨g, o, c, cur, rfl, h1, h2, h3⟩
  · exact Or.inl h
  · exact Or.inr ⟨g, o, c, cur, rfl, h1, (hb g rfl).trans h2, h3⟩
theorem Of.lt (h : Of B e l v W) {k : Nat} (hk : v.ownBlock = some k) : B ≤ k ∧ k < W.heap.size := by
  rcases h with ⟨rfl, _⟩ | ⟨g, o, c, cur, rfl, h1, h2, _⟩
  · cases hk
  · cases hk; exact ⟨h1, lt_of h2⟩
theorem Of.cells (h : Of B e l v W) {k : Nat} (hk : v.ownBlock = some k) : ∃ cs, W.heap[k]? = some (.cells cs e (0, 0)) := by
  rcases h with ⟨rfl, _⟩ | ⟨g, o, c, cur, rfl, h1, h2, _⟩
  · cases hk
  · cases hk; exact ⟨_, h2⟩
theorem Of.own {n : Nat} (h : W.ownsRow B e 1 v n l) : Of B e l v W := by
  obtain ⟨hl, h⟩ := h
  rcases h with ⟨rfl, rfl⟩ | ⟨g, cap, cur, rfl, h1, h2, h3, h4, h5, h6⟩
  · exact Or.inl ⟨rfl, List.eq_nil_of_length_eq_zero (by omega)⟩
  · refine Or.inr ⟨g, 0, cap, cur, by rw [hl, Nat.mul_one], h1, h2, by omega, h4, by omega, fun j u hj => ?_⟩
    rw [← h6, List.getElem?_take] at hj
    split at hj
    · simpa using hj
    · cases hj
/-- The first one, read and written. -/
theorem Of.head {u : Value} {t : List Value} (h : Of B e (u :: t) v W) : ∃ g o c, v = .slice (some ⟨g, o, none⟩) (t.length + 1) c ∧ t.length + 1 ≤ c ∧ W.cell? ⟨g, o, none⟩ = some u ∧ (∀ j, W.frozen? ⟨g, j, none⟩ = false) ∧ B ≤ g ∧ g < W.heap.size := by
  rcases h with ⟨_, h⟩ | ⟨g, o, c, cur, rfl, h1, h2, h3, h4, h5, h6⟩
  · cases h
  · refine ⟨g, o, c, rfl, h3, ?_, fun j => free_of h2 j, h1, lt_of h2⟩
    rw [cell_of h2]
    exact h6 0 u rfl
theorem Of.setHead {u u' : Value} {t : List Value} {g o n c : Nat} (h : Of B e (u :: t) (.slice (some ⟨g, o, none⟩) n c) W) : Of B e (u' :: t) (.slice (some ⟨g, o, none⟩) n c) (W.setCell ⟨g, o, none⟩ u') := by
  rcases h with ⟨_, h⟩ | ⟨g', o', c', cur, hv, h1, h2, h3, h4, h5, h6⟩
  · cases h
  · cases hv
    simp only [List.length_cons] at h3
    refine Or.inr ⟨g, o, c, cur.setIfInBounds o u', rfl, h1, heap_setCell_same _ _ _ _ _ _ h2, h3, h4, by simpa using h5, fun j x hj => ?_⟩
    cases j with
    | zero =>
      simp only [List.getElem?_cons_zero, Option.some.injEq] at hj
      subst hj
      rw [Nat.add_zero, Array.getElem?_setIfInBounds_self_of_lt (by omega)]
    | succ j =>
      rw [Array.getElem?_setIfInBounds_ne (by omega)]
      exact h6 (j + 1) x (by simpa using hj)
/-- What is behind it. -/
theorem Of.tail {u : Value} {t : List Value} {g o n c : Nat} (h : Of B e (u :: t) (.slice (some ⟨g, o, none⟩) n c) W) :
    (c = 1 → Of B e t (.slice (some ⟨g, o, none⟩) t.length 0) W) ∧ (c ≠ 1 → Of B e t (.slice (some ⟨g, o + 1, none⟩) t.length (c - 1)) W) := by
  rcases h with ⟨_, h⟩ | ⟨g', o', c', cur, hv, h1, h2, h3, h4, h5, h6⟩
  · cases h
  · cases hv
    simp only [List.length_cons] at h3
    refine ⟨fun hc => Or.inr ⟨g, o, 0, cur, rfl, h1, h2, by omega, by omega, by omega, fun j x hj => ?_⟩, fun hc => Or.inr ⟨g, o + 1, c - 1, cur, rfl, h1, h2, by omega, by omega, by omega, fun j x hj => ?_⟩⟩
    · have : t = [] := List.eq_nil_of_length_eq_zero (by omega)
      subst this; cases hj
    · rw [show o + 1 + j = o + (j + 1) by omega]
      exact h6 (j + 1) x (by simpa using hj)
end
/-- A row that is handed in, to be read. -/
def Src (news : List Value) (a : Option Addr) (W : World) : Prop := news = [] ∨ ∃ ad, a = some ad ∧ ∀ j u, news[j]? = some u → W.cell? (ad.add j) = some u
theorem run_append_src0 {P : Program} (W : World) (t ty e : TypeId) (i : TypeInfo) (ht : P.underlying t = some (.slice e)) (hi : P.info? e = some i) (ao : Option Addr) (n c : Nat) (hn : n ≤ c) (a : Option Addr) (k : Nat) :
    (Builtin.append_ #[t, t] ty #[.slice ao n c, .slice a 0 k]).run P W = .ok (.slice ao n c) W := by
  cases ao <;> cases a <;> simp [Builtin.append_, run_underlying ht, sizeOf, typeInfo, hi, Builtin.lenOf, Builtin.firstCells, hn, loadCells, loadCellsFrom, storeCells]
theorem run_append_of {P : Program} (W : World) (B : Nat) (t ty e : TypeId) (i : TypeInfo) (z : Value) (bytes : Nat) (ht : P.underlying t = some (.slice e)) (hi : P.info? e = some i) (hz : i.zero = some z)
    (hsize : i.size = 1) (hby : i.bytes = bytes) (hzs : z.cells.size = 1) {l news : List Value} {v : Value} (h : Of B e l v W)
    (a : Option Addr) (c : Nat) (hnews : Src news a W) (h1 : ∀ u ∈ news, u.oneCell' = true)
    (h63 : l.length + news.length ≤ maxLen) (hbytes : (l.length + news.length) * bytes ≤ 140737488355328) (hbase : B ≤ W.heap.size) :
    ∃ v' W', (Builtin.append_ #[t, t] ty #[v, .slice a news.length c]).run P W = .ok v' W' ∧ Of B e (l ++ news) v' W' ∧ W.grownBy W' v.ownBlock ∧ (v'.ownBlock = v.ownBlock ∨ v'.ownBlock = some W.heap.size) := by
  by_cases h0 : news = []
  · subst h0
    obtain ⟨ao, cv, rfl⟩ := h.form
    have hle : l.length ≤ cv := by
      rcases h with ⟨e1, rfl⟩ | ⟨g, o, c', cur, e1, _, _, h3, _⟩
      · simp
      · cases e1; exact h3
    exact ⟨_, W, run_append_src0 W t ty e i ht hi ao _ cv hle a c, by rw [List.append_nil]; exact h, ⟨rfl, rfl, rfl, Nat.le_refl _, fun _ _ _ => rfl⟩, Or.inl rfl⟩
  rcases hnews with hnews | ⟨ad, rfl, hnews⟩
  · exact absurd hnews h0
  have old : W.ownsRow B e 1 v l.length l → ∃ v' W', (Builtin.append_ #[t, t] ty #[v, .slice (some ad) news.length c]).run P W = .ok v' W' ∧ Of B e (l ++ news) v' W' ∧ W.grownBy W' v.ownBlock ∧ (v'.ownBlock = v.ownBlock ∨ v'.ownBlock = some W.heap.size) := fun ho => by
    obtain ⟨v', W', hr, h2, h3, _, h5⟩ := run_append_own_at (P := P) W B t ty e i z 1 bytes ht hi hz hsize hby hzs (by omega) v l.length l ho ad news.length c news (by omega) hnews h1 h63 hbytes hbase
    exact ⟨v', W', hr, Of.own h2, h3, h5⟩
  rcases h with ⟨rfl, rfl⟩ | ⟨g, o, cap, cur, rfl, hbg, hg, hnc, hcm, hcs, hcells⟩
  · exact old (World.ownsRow_nil W B e 1)
  by_cases hroom : l.length + news.length ≤ cap
  · have hf := run_firstCells_some (P := P) W i.size news.length ad news.length c news (by rw [hsize]; omega) hnews
    have hst := run_storeCells_at P g (o + l.length) e news 0 cur W hg (by omega) h1
    simp only [Nat.add_zero] at hst
    have hadd : (⟨g, o, none⟩ : Addr).add l.length = ⟨g, o + l.length, none⟩ := by unfold Addr.add; split <;> simp_all
    have hr : (Builtin.append_ #[t, t] ty #[.slice (some ⟨g, o, none⟩) l.length cap, .slice (some ad) news.length c]).run P W =
        .ok (.slice (some ⟨g, o, none⟩) (l.length + news.length) cap) (W.setRow g (cur.toList.take (o + l.length) ++ news ++ cur.toList.drop (o + l.length + news.length)).toArray) := by
      have hf' : (Builtin.firstCells 1 news.length (.slice (some ad) news.length c)).run P W = .ok news.toArray W := by rw [← hsize]; exact hf
      simp [Builtin.append_, run_underlying ht, sizeOf, typeInfo, hi, hsize, Builtin.lenOf, hroom, hf', hadd, hst]
    refine ⟨_, _, hr, Or.inr ⟨g, o, cap, _, by rw [List.length_append], hbg, setRow_heap W g cur _ e _ hg, by rw [List.length_append]; exact hroom, hcm, ?_, fun j u hj => ?_⟩, ⟨rfl, rfl, rfl, by simp, fun k _ hk => setRow_other W g k _ (fun e => hk (by simp [Value.ownBlock, e]))⟩, Or.inl rfl⟩
    · simp only [List.size_toArray, List.length_append, List.length_take, List.length_drop, Array.length_toList]
      omega
    · simp only [List.getElem?_toArray]
      by_cases hjl : j < l.length
      · rw [List.getElem?_append_left hjl] at hj
        rw [List.append_assoc, List.getElem?_append_left (by simp; omega), List.getElem?_take_of_lt (by omega)]
        simpa using hcells j u hj
      · rw [List.getElem?_append_right (by omega)] at hj
        have hjn : j - l.length < news.length := by
          rcases Nat.lt_or_ge (j - l.length) news.length with h' | h'
          · exact h'
          · rw [List.getElem?_eq_none h'] at hj; cases hj
        rw [List.append_assoc, List.getElem?_append_right (by simp; omega), List.getElem?_append_left (by simp; omega)]
        rw [show o + j - (cur.toList.take (o + l.length)).length = j - l.length by simp; omega]
        exact hj
  · have holds : ∀ j u, l[j]? = some u → W.cell? ((⟨g, o, none⟩ : Addr).add j) = some u := fun j u hj => by
      have hadd : (⟨g, o, none⟩ : Addr).add j = ⟨g, o + j, none⟩ := by unfold Addr.add; split <;> simp_all
      rw [hadd, cell_of hg]
      exact hcells j u hj
    subst hby
    have hr := run_append_grow (P := P) W t ty e i z ht hi hz ⟨g, o, none⟩ l.length cap l (by rw [hsize]; omega) holds ad news.length c news (by rw [hsize]; omega) hnews (by omega) (by unfold maxLen at h63; omega) (growslice_fits (by omega) hbytes)
    have hge := grownCap_ge W (l.length + news.length) cap e
    have hcm' := grownCap_le_maxLen W (l.length + news.length) cap e h63
    refine ⟨_, _, hr, Or.inr ⟨W.heap.size, 0, _, _, by rw [List.length_append], hbase, heap_alloc_new W.drew _, by rw [List.length_append]; exact hge, hcm', ?_, fun j u hj => ?_⟩, ⟨rfl, rfl, rfl, by simp, fun k hk _ => Below.heap_alloc W.drew _ _ hk⟩, Or.inr rfl⟩
    · simp only [Array.size_append, List.size_toArray, size_zeroCells, hzs]
      omega
    · have hjl : j < (l ++ news).length := by
        rcases Nat.lt_or_ge j (l ++ news).length with h' | h'
        · exact h'
        · rw [List.getElem?_eq_none h'] at hj; cases hj
      rw [Nat.zero_add, Array.getElem?_append_left (by simpa using hjl)]
      simpa using hj
theorem wpList_append_of {P : Program} {ops : Array Oper} {rest : List Oper} {o : Oper} {a : Act} {Q : Exit → Act → World → Prop} {W : World} (hgd : o.guard = none) (s x : Operand) (t e : TypeId)
    (ho : o.op = .call { callee := .builtin .append, args := #[s, x], argTypes := #[t, t] }) (ht : P.underlying t = some (.slice e)) (z : Value) (bytes : Nat)
    (hinfo : (P.info? e).map (fun i => (i.zero, i.size, i.bytes)) = some (some z, 1, bytes)) (hz1 : z.cells.size = 1) (hby : bytes ≤ 48)
    (B : Nat) {v : Value} (l news : List Value) (hs : a.eval s = v) (h : Of B e l v W) (sa : Option Addr) (n c : Nat) (hx : a.eval x = .slice sa n c) (hn : n = news.length) (hnews : Src news sa W) (h1 : ∀ u ∈ news, u.oneCell' = true)
    (hle : l.length + news.length ≤ 1000000000000) (hB : B ≤ W.heap.size)
    (hK : ∀ v' W', Of B e (l ++ news) v' W' → W.grownBy W' v.ownBlock → (v'.ownBlock = v.ownBlock ∨ v'.ownBlock = some W.heap.size) → wpList P ops Q rest (a.put o.dst v') W') : wpList P ops Q (o :: rest) a W := by
  refine wpList_plain hgd fun K hK2 => ?_
  obtain ⟨i0, hi, hz0, hzz, hz2⟩ := info_parts hinfo
  subst hn
  obtain ⟨v', W', hr, q1, q2, q3⟩ := run_append_of (P := P) W B t o.type e i0 z bytes ht hi hz0 hzz hz2 hz1 h sa c hnews h1 (by unfold maxLen; omega) (Nat.le_trans (Nat.mul_le_mul_left _ hby) (by omega)) hB
  unfold Oper.wp execOp
  simp only [ho, resolve, invoke, builtin, Sem.run_bind, Sem.run_pure, Result.andThen_ok, List.map_toArray, List.map_cons, List.map_nil, hs, hx, hr]
  exact hK2 _ _ (hK v' W' q1 q2 q3)
end Go.Proofs.YtekoaheiapddiaaGreat
end
section
namespace Go.Proofs.YtekoaheiapddiaaGreat
open Go.RowKit Go.Maps

instance : DecidableEq AskP := fun a b => decidable_of_iff (a.id = b.id ∧ a.addr = b.addr ∧ a.slot = b.slot ∧ a.kind = b.kind)
  ⟨fun ⟨h1, h2, h3, h4⟩ => by cases a; cases b; simp_all, fun h => by subst h; exact ⟨rfl, rfl, rfl, rfl⟩⟩
abbrev KL := List (AskP × ReplyP)
def getK : KL → AskP → Option ReplyP
  | [], _ => none
  | p :: t, a => if p.1 = a then some p.2 else getK t a
def putK : KL → AskP → ReplyP → KL
  | [], a, r => [(a, r)]
  | p :: t, a, r => if p.1 = a then (a, r) :: t else p :: putK t a r
theorem getK_none {K : KL} {a : AskP} (h : ∀ p ∈ K, p.1 ≠ a) : getK K a = none := by
  induction K with
  | nil => rfl
  | cons p t ih =>
    simp only [getK]
    rw [if_neg (h p (by simp))]
    exact ih fun q hq => h q (by simp [hq])
theorem mem_putK {K : KL} {a : AskP} {r : ReplyP} {p : AskP × ReplyP} (h : p ∈ putK K a r) : p = (a, r) ∨ p ∈ K := by
  induction K with
  | nil => simpa [putK] using h
  | cons q t ih =>
    simp only [putK] at h
    split at h
    · rcases List.mem_cons.1 h with h | h
      · exact Or.inl h
      · exact Or.inr (by simp [h])
    · rcases List.mem_cons.1 h with h | h
      · exact Or.inr (by simp [h])
      · exact (ih h).imp id (fun h => by simp [h])
theorem putK_new {K : KL} {a : AskP} (h : getK K a = none) (r : ReplyP) : putK K a r = K ++ [(a, r)] := by
  induction K with
  | nil => rfl
  | cons p t ih =>
    simp only [getK] at h
    split at h
    · cases h
    · rename_i hp
      simp only [putK]
      rw [if_neg hp, ih h]; rfl
theorem keys_put (K : KL) (a : AskP) (r : ReplyP) (h : (K.map (·.1)).Nodup) : ((putK K a r).map (·.1)).Nodup := by
  induction K with
  | nil => simp [putK]
  | cons p t ih =>
    simp only [List.map_cons, List.nodup_cons] at h
    simp only [putK]
    split
    · rename_i hp
      simp only [List.map_cons, List.nodup_cons]
      exact ⟨by rw [← hp]; exact h.1, h.2⟩
    · rename_i hp
      simp only [List.map_cons, List.nodup_cons]
      refine ⟨fun hm => ?_, ih h.2⟩
      obtain ⟨q, hq, e⟩ := List.mem_map.1 hm
      rcases mem_putK hq with rfl | hq
      · exact hp e.symm
      · exact h.1 (List.mem_map.2 ⟨q, hq, e⟩)
/-- In K each ask stands once, and may be a key. -/
def AskP.Key (a : AskP) : Prop := a.Wf ∧ a.Ok ∧ a.id = 0
structure KOk (K : KL) : Prop where
  nd : (K.map (·.1)).Nodup
  key : ∀ p ∈ K, p.1.Key ∧ p.2.Wf ∧ p.2.Ok p.1.kind ∧ p.2.id = 0
theorem KOk.nil : KOk [] := ⟨List.nodup_nil, by simp⟩
theorem KOk.put {K : KL} (h : KOk K) {a : AskP} {r : ReplyP} (ha : a.Key) (hw : r.Wf) (ho : r.Ok a.kind) (hi : r.id = 0) : KOk (putK K a r) :=
  ⟨keys_put K a r h.nd, fun p hp => by
    rcases mem_putK hp with rfl | hp
    · exact ⟨ha, hw, ho, hi⟩
    · exact h.key p hp⟩
theorem word_lim_inj {m n : Nat} (hm : m < W256) (hn : n < W256) (h0 : l0 m = l0 n) (h1 : l1 m = l1 n) (h2 : l2 m = l2 n) (h3 : l3 m = l3 n) : m = n := by
  have e1 := (dig_of hm).eq
  have e2 := (dig_of hn).eq
  rw [h0, h1, h2, h3] at e1
  omega
theorem askV_inj {a b : AskP} (ha : a.Wf) (hb : b.Wf) (h : askV a = askV b) : a = b := by
  obtain ⟨i, d, s, k⟩ := a
  obtain ⟨i', d', s', k'⟩ := b
  simp only [askV, Value.agg.injEq, Array.mk.injEq, List.cons.injEq, Value.int.injEq, Value.string.injEq, true_and, and_true] at h
  obtain ⟨h1, h2, h3, h4, h5, h6, h7⟩ := h
  have e1 : i = i' := by omega
  have e2 : d = d' := str_inj h2
  have e3 : s = s' := word_lim_inj ha.slot hb.slot (by show l0 s = l0 s'; omega) (by show l1 s = l1 s'; omega) (by show l2 s = l2 s'; omega) (by show l3 s = l3 s'; omega)
  subst e1 e2 e3 h7
  rfl
theorem laidOutF : laidOutB Tryz.prog = true := by kernel_rfl
theorem askWide : (match Tryz.prog.underlying 117 with | some (.array _ _) | some (.struct _) => true | _ => false) = true := by kernel_rfl
theorem askRow : (117 : TypeId) < Tryz.prog.types.size := of_decide_eq_true (by kernel_rfl)
set_option maxRecDepth 100000 in
theorem askLaw : Keyed Tryz.prog 117 := Keyed.of_law (deep_law_laid laidOutF (m := 4) (by omega) askRow (by kernel_rfl) askWide)
theorem askType : Tryz.prog.keyType 117 = true := by kernel_rfl
theorem cellsOfAsk : Tryz.prog.cellsOf 117 = 7 := by kernel_rfl
theorem cellsOfWord : Tryz.prog.cellsOf 61 = 4 := by kernel_rfl
theorem cellsOfU64 : Tryz.prog.cellsOf 41 = 1 := by kernel_rfl
theorem cellsOfStr : Tryz.prog.cellsOf 9 = 1 := by kernel_rfl
theorem cellsOfInt : Tryz.prog.cellsOf 3 = 1 := by kernel_rfl
theorem typesMore : ∃ m, Tryz.prog.types.size = m + 2 := ⟨Tryz.prog.types.size - 2, by have h : 2 ≤ Tryz.prog.types.size := of_decide_eq_true (by kernel_rfl); omega⟩
theorem u64_wf {n : Nat} (h : n < M64) : (Lit.int .u64 (n : Int)).wf = true := by
  unfold M64 at h
  rw [Lit.wf_int_iff]
  have h1 : IntKind.u64.min = 0 := rfl
  have h2 : IntKind.u64.max = 18446744073709551615 := rfl
  rw [h1, h2]
  omega
theorem l_lt {n : Nat} (h : n < W256) : l0 n < M64 ∧ l1 n < M64 ∧ l2 n < M64 ∧ l3 n < M64 := by
  have d := dig_of h
  exact ⟨d.h0, d.h1, d.h2, d.h3⟩
theorem i64_wf2 {n : Int} (h : -9223372036854775808 ≤ n ∧ n ≤ 9223372036854775807) : (Lit.int .i64 n).wf = true := by
  rw [Lit.wf_int_iff]
  have h1 : IntKind.i64.min = -9223372036854775808 := rfl
  have h2 : IntKind.i64.max = 9223372036854775807 := rfl
  rw [h1, h2]
  exact h
theorem key_u64 (m : Nat) {n : Nat} (h : (Lit.int .u64 (n : Int)).wf = true) : Tryz.prog.keyLits (m + 1) 41 [.int .u64 (n : Nat)] = some [.int .u64 (n : Nat)] := by
  simp [Program.keyLits, Tryz.underlying41, h]
theorem key_i64 (m : Nat) {n : Int} (h : (Lit.int .i64 n).wf = true) : Tryz.prog.keyLits (m + 1) 3 [.int .i64 n] = some [.int .i64 n] := by
  simp [Program.keyLits, Tryz.underlying3, h]
theorem key_string (m : Nat) {s : ByteArray} (h : s.size ≤ maxLen) : Tryz.prog.keyLits (m + 1) 9 [.string s] = some [.string s.data.toList] := by
  simp [Program.keyLits, Tryz.underlying9, h]
theorem key_word4 (m : Nat) {a b c d : Nat} (ha : (Lit.int .u64 (a : Int)).wf = true) (hb : (Lit.int .u64 (b : Int)).wf = true) (hc : (Lit.int .u64 (c : Int)).wf = true) (hd : (Lit.int .u64 (d : Int)).wf = true) :
    Tryz.prog.keyLits (m + 2) 61 [.int .u64 (a : Nat), .int .u64 (b : Nat), .int .u64 (c : Nat), .int .u64 (d : Nat)] = some [.int .u64 (a : Nat), .int .u64 (b : Nat), .int .u64 (c : Nat), .int .u64 (d : Nat)] := by
  unfold Program.keyLits
  simp only [Tryz.underlying61, cellsOfWord]
  rw [if_pos ⟨by rfl, by kernel_rfl⟩]
  simp only [List.mapM_cons, List.mapM_nil, cellsOfU64, List.drop, List.take, key_u64 m ha, key_u64 m hb, key_u64 m hc, key_u64 m hd]
  rfl
set_option maxRecDepth 100000 in
theorem key_ask {a : AskP} (h : a.Wf) (hl : a.addr.length ≤ maxLen) : ∃ l, keyOf Tryz.prog 117 (askV a) = some l := by
  obtain ⟨m, hm⟩ := typesMore
  have w0 := u64_wf h.id
  obtain ⟨b0, b1, b2, b3⟩ := l_lt h.slot
  have w1 := u64_wf b3
  have w2 := u64_wf b2
  have w3 := u64_wf b1
  have w4 := u64_wf b0
  have w5 := i64_wf2 h.kind
  have hs : (str a.addr).size ≤ maxLen := by rw [str_size]; exact hl
  obtain ⟨i, d, s, k⟩ := a
  simp only [askV] at *
  clear h hl b0 b1 b2 b3
  generalize l0 s = s0 at *
  generalize l1 s = s1 at *
  generalize l2 s = s2 at *
  generalize l3 s = s3 at *
  generalize str d = y at *
  have hk : Tryz.prog.keyLits (m + 3) 117 [.int .u64 (i : Nat), .string y, .int .u64 (s3 : Nat), .int .u64 (s2 : Nat), .int .u64 (s1 : Nat), .int .u64 (s0 : Nat), .int .i64 k] = some [.int .u64 (i : Nat), .string y.data.toList, .int .u64 (s3 : Nat), .int .u64 (s2 : Nat), .int .u64 (s1 : Nat), .int .u64 (s0 : Nat), .int .i64 k] := by
    unfold Program.keyLits
    simp only [Tryz.underlying117, cellsOfAsk]
    rw [if_pos ⟨by rfl, by kernel_rfl⟩]
    simp only [List.mapM_cons, List.mapM_nil, cellsOfU64, cellsOfStr, cellsOfWord, cellsOfInt, List.drop, List.take, key_u64 (m + 1) w0, key_string (m + 1) hs, key_word4 m w1 w2 w3 w4, key_i64 (m + 1) w5]
    rfl
  unfold keyOf
  simp only [Tryz.underlying117, askType, Value.formed, cellsOfAsk, Value.cells, hm, Bool.true_and]
  rw [if_pos (by rfl)]
  rw [hk]
  exact ⟨_, rfl⟩
/-- The map at block m holds K, in order. -/
def MapIs (m : Nat) (K : KL) (W : World) : Prop := ∃ es clock, W.heap[m]? = some (.map es clock) ∧ es.toList.map (fun x => (x.key, x.val)) = K.map (fun p => (askV p.1, replyV p.2))
theorem AskP.Key.len {a : AskP} (h : a.Key) : a.addr.length ≤ maxLen := by have := h.2.1.1; unfold maxLen; omega
section
variable {m : Nat} {K : KL} {W : World}
theorem MapIs.lt (h : MapIs m K W) : m < W.heap.size := by obtain ⟨es, c, h, _⟩ := h; exact lt_of h
theorem MapIs.keep {W' : World} (h : MapIs m K W) (hb : W'.heap[m]? = W.heap[m]?) : MapIs m K W' := by obtain ⟨es, c, h, h2⟩ := h; exact ⟨es, c, hb.trans h, h2⟩
theorem MapIs.find {es : Array MapEntry} (he : es.toList.map (fun x => (x.key, x.val)) = K.map (fun p => (askV p.1, replyV p.2))) (hK : KOk K) {a : AskP} (ha : a.Key) (w : World) :
    ((Instr.findKey 117 (askV a) es.toList).run Tryz.prog w = .ok none w ∧ getK K a = none) ∨
    ∃ j q r, (Instr.findKey 117 (askV a) es.toList).run Tryz.prog w = .ok (some (j, replyV r)) w ∧ K = q ++ (a, r) :: K.drop (j + 1) ∧ q.length = j ∧ getK K a = some r ∧ getK q a = none := by
  obtain ⟨lx, hx⟩ := key_ask ha.1 ha.len
  have hat : ∀ (j : Nat) (e : MapEntry), es.toList[j]? = some e → ∃ p, K[j]? = some p ∧ e.key = askV p.1 ∧ e.val = replyV p.2 := fun j e hj => by
    have h1 : (es.toList.map (fun x => (x.key, x.val)))[j]? = some (e.key, e.val) := by rw [List.getElem?_map, hj]; rfl
    rw [he, List.getElem?_map] at h1
    cases hp : K[j]? with
    | none => rw [hp] at h1; cases h1
    | some p =>
      rw [hp] at h1
      simp only [Option.map_some, Option.some.injEq, Prod.mk.injEq] at h1
      exact ⟨p, rfl, h1.1.symm, h1.2.symm⟩
  have hkeys : ∀ e ∈ es.toList, ∃ l, keyOf Tryz.prog 117 e.key = some l := fun e hm => by
    obtain ⟨j, hj, e1⟩ := List.getElem_of_mem hm
    obtain ⟨p, hp, h1, _⟩ := hat j e (by rw [List.getElem?_eq_getElem hj, e1])
    have hk := (hK.key p (List.mem_of_getElem? hp)).1
    rw [h1]
    exact key_ask hk.1 hk.len
  rcases askLaw.find w hx es.toList hkeys with ⟨h1, h2⟩ | ⟨j, e, h1, h2, h3⟩
  · refine Or.inl ⟨h1, getK_none fun p hp e => ?_⟩
    have hm : (askV p.1, replyV p.2) ∈ es.toList.map (fun x => (x.key, x.val)) := by rw [he]; exact List.mem_map.2 ⟨p, hp, rfl⟩
    obtain ⟨x, hx, ex⟩ := List.mem_map.1 hm
    simp only [Prod.mk.injEq] at ex
    exact h2 x hx (ex.1.trans (by rw [e]))
  · obtain ⟨p, hp, e1, e2⟩ := hat j e h2
    obtain ⟨hj, hp'⟩ := List.getElem?_eq_some_iff.1 hp
    have hpk := (hK.key p (List.mem_of_getElem? hp)).1
    have ep : p.1 = a := askV_inj hpk.1 ha.1 (by rw [← e1, h3])
    have hsplit : K = K.take j ++ (a, p.2) :: K.drop (j + 1) := by
      have h4 : K = K.take j ++ K.drop j := (List.take_append_drop j K).symm
      rw [List.drop_eq_getElem_cons hj, hp'] at h4
      rw [← ep]; exact h4
    have hnd := hK.nd
    rw [hsplit, List.map_append, List.nodup_append] at hnd
    have hq : getK (K.take j) a = none := getK_none fun y hy ey => hnd.2.2 y.1 (List.mem_map.2 ⟨y, hy, rfl⟩) a (by simp) ey
    have hg : getK K a = some p.2 := by
      rw [hsplit]
      generalize K.take j = q at hq
      induction q with
      | nil => simp [getK]
      | cons y t ih =>
        simp only [getK] at hq
        split at hq
        · cases hq
        · rename_i hy
          simp only [List.cons_append, getK]
          rw [if_neg hy]
          exact ih hq
    exact Or.inr ⟨j, K.take j, p.2, by rw [← e2]; exact h1, hsplit, by rw [List.length_take]; omega, hg, hq⟩
theorem MapIs.look (h : MapIs m K W) (hK : KOk K) {a : AskP} (ha : a.Key) :
    (Instr.lookup 112 (.map (some m)) (askV a) true).run Tryz.prog W = .ok (.tuple #[replyV ((getK K a).getD ReplyP.zero), .bool (getK K a).isSome]) W := by
  obtain ⟨es, c, hb, he⟩ := h
  obtain ⟨lx, hx⟩ := key_ask ha.1 ha.len
  have hck := askLaw.check W es.isEmpty hx
  rcases MapIs.find he hK ha W with ⟨h1, h2⟩ | ⟨j, q, r, h1, _, _, h2, _⟩
  · rw [h2]
    simp [Instr.lookup, run_underlying Tryz.underlying112, MapKept.run_getObj_map hb, hck, h1, Result.andThen]
    rfl
  · rw [h2]
    simp [Instr.lookup, run_underlying Tryz.underlying112, MapKept.run_getObj_map hb, hck, h1, Result.andThen]
theorem putK_at {q t : KL} {a : AskP} {r r' : ReplyP} (hq : getK q a = none) : putK (q ++ (a, r) :: t) a r' = q ++ (a, r') :: t := by
  induction q with
  | nil => simp [putK]
  | cons y u ih =>
    simp only [getK] at hq
    split at hq
    · cases hq
    · rename_i hy
      simp only [List.cons_append, putK]
      rw [if_neg hy, ih hq]
theorem MapIs.put (h : MapIs m K W) (hK : KOk K) {a : AskP} (ha : a.Key) (r : ReplyP) :
    ∃ o, (Instr.mapUpdate 112 (.map (some m)) (askV a) (replyV r)).run Tryz.prog W = .ok () (ChangeMaps.setBlock W m o) ∧ MapIs m (putK K a r) (ChangeMaps.setBlock W m o) := by
  have hlt := h.lt
  obtain ⟨es, c, hb, he⟩ := h
  obtain ⟨lx, hx⟩ := key_ask ha.1 ha.len
  have hck := askLaw.check W false hx
  have hset : ∀ o, (ChangeMaps.setBlock W m o).heap[m]? = some o := fun o => by simp [ChangeMaps.setBlock, hlt]
  rcases MapIs.find he hK ha W with ⟨h1, h2⟩ | ⟨j, q, r0, h1, h2, h3, _, h4⟩
  · refine ⟨_, by simp [Instr.mapUpdate, run_underlying Tryz.underlying112, MapKept.run_getObj_map hb, hck, h1, MapKept.run_setObj_map _ hb, Result.andThen, ChangeMaps.setBlock]; rfl, ?_⟩
    refine ⟨_, _, hset _, ?_⟩
    rw [putK_new h2, Array.toList_push, List.map_append, List.map_append, he]
    rfl
  · have hst := askLaw.stays W hx
    have hj : ∃ e0, es.toList[j]? = some e0 ∧ e0.key = askV a := by
      have hlen : es.toList.length = K.length := by simpa using congrArg List.length he
      have hjk : j < K.length := by rw [h2, List.length_append, List.length_cons]; omega
      obtain ⟨e0, he0⟩ : ∃ e0, es.toList[j]? = some e0 := ⟨_, List.getElem?_eq_getElem (by omega)⟩
      clear hlen hjk
      refine ⟨e0, he0, ?_⟩
      have h5 : (es.toList.map (fun x => (x.key, x.val)))[j]? = some (e0.key, e0.val) := by rw [List.getElem?_map, he0]; rfl
      rw [he, List.getElem?_map, h2, List.getElem?_append_right (by omega), h3, Nat.sub_self] at h5
      simp only [List.getElem?_cons_zero, Option.map_some, Option.some.injEq, Prod.mk.injEq] at h5
      exact h5.1.symm
    obtain ⟨e0, hj1, hj2⟩ := hj
    have hj' : es[j]? = some e0 := by simpa using hj1
    refine ⟨_, by simp [Instr.mapUpdate, run_underlying Tryz.underlying112, MapKept.run_getObj_map hb, hck, h1, hj', hj2, hst, MapKept.run_setObj_map _ hb, Result.andThen, ChangeMaps.setBlock]; rfl, ?_⟩
    refine ⟨_, _, hset _, ?_⟩
    rw [Array.toList_modify, ChangeMaps.modify_eq_set _ _ _ _ hj1, List.map_set, he]
    have hp := putK_at (t := K.drop (j + 1)) (r := r0) (r' := r) h4
    rw [← h2] at hp
    rw [hp]
    conv => lhs; rw [h2]
    rw [List.map_append, List.map_append, List.set_append_right _ _ (by rw [List.length_map]; omega), List.length_map, h3, Nat.sub_self]
    rfl
theorem setBlock_other {o : Obj} {k : Nat} (hk : k ≠ m) : (ChangeMaps.setBlock W m o).heap[k]? = W.heap[k]? := by
  simp [ChangeMaps.setBlock, Array.getElem?_setIfInBounds_ne (Ne.symm hk)]
theorem setBlock_size {o : Obj} : (ChangeMaps.setBlock W m o).heap.size = W.heap.size := by simp [ChangeMaps.setBlock]
end
end Go.Proofs.YtekoaheiapddiaaGreat
end
section
namespace Go.Proofs.YtekoaheiapddiaaGreat.Dz
open Go.RowKit

theorem askIs_ex (s : List UInt8) : ∃ o, AskIs s o := by
  by_cases h : ∃ a : AskP, a.Wf ∧ a.Ok ∧ a.enc = s
  · obtain ⟨a, h⟩ := h; exact ⟨some a, h⟩
  · exact ⟨none, fun a h1 h2 h3 => h ⟨a, h1, h2, h3⟩⟩
theorem replyIs_ex (kind : Int) (s : List UInt8) : ∃ o, ReplyIs kind s o := by
  by_cases h : ∃ r : ReplyP, r.Wf ∧ r.Ok kind ∧ r.enc kind = s
  · obtain ⟨a, h⟩ := h; exact ⟨some a, h⟩
  · exact ⟨none, fun a h1 h2 h3 => h ⟨a, h1, h2, h3⟩⟩
noncomputable def getA (s : List UInt8) : Option AskP := Classical.choose (askIs_ex s)
theorem getA_is (s : List UInt8) : AskIs s (getA s) := Classical.choose_spec (askIs_ex s)
noncomputable def getR (kind : Int) (s : List UInt8) : Option ReplyP := Classical.choose (replyIs_ex kind s)
theorem getR_is (kind : Int) (s : List UInt8) : ReplyIs kind s (getR kind s) := Classical.choose_spec (replyIs_ex kind s)
theorem getA_enc {a : AskP} (h : a.Wf) (ho : a.Ok) : getA a.enc = some a := (getA_is _).one ⟨h, ho, rfl⟩
theorem getR_enc {kind : Int} {r : ReplyP} (h : r.Wf) (ho : r.Ok kind) : getR kind (r.enc kind) = some r := (getR_is _ _).one ⟨h, ho, rfl⟩
theorem getA_some {s : List UInt8} {a : AskP} (h : getA s = some a) : a.Wf ∧ a.Ok ∧ a.enc = s := by have := getA_is s; rwa [h] at this
theorem getR_some {kind : Int} {s : List UInt8} {r : ReplyP} (h : getR kind s = some r) : r.Wf ∧ r.Ok kind ∧ r.enc kind = s := by have := getR_is kind s; rwa [h] at this
def txtsF : Fo → List (List UInt8)
  | .nil => []
  | .text s r => s :: txtsF r
  | .list _ r => [] :: txtsF r
theorem txtsF_len (f : Fo) : (txtsF f).length = f.len := by
  induction f with
  | nil => rfl
  | text s r ih => simp [txtsF, Fo.len, ih]
  | list i r _ ih => simp [txtsF, Fo.len, ih]
noncomputable def pairV (t1 t2 : List UInt8) : Option (AskP × ReplyP) :=
  match getA t1 with
  | none => none
  | some a => match getR a.kind t2 with
    | none => none
    | some r => if a.id = 0 ∧ r.id = 0 then some (a, r) else none
/-- What a text of a cache is of. -/
noncomputable def factV (s : List UInt8) : Option (AskP × ReplyP) :=
  if (decV s).2 ≠ 0 then none else match txtsF (decV s).1.inner with
  | [t1, t2] => pairV t1 t2
  | _ => none
theorem pairV_some {t1 t2 : List UInt8} {p : AskP × ReplyP} (h : pairV t1 t2 = some p) : p.1.Key ∧ p.2.Wf ∧ p.2.Ok p.1.kind ∧ p.2.id = 0 := by
  unfold pairV at h
  split at h
  · cases h
  · rename_i a ha
    split at h
    · cases h
    · rename_i r hr
      split at h
      · rename_i hi
        cases h
        exact ⟨⟨(getA_some ha).1, (getA_some ha).2.1, hi.1⟩, (getR_some hr).1, (getR_some hr).2.1, hi.2⟩
      · cases h
theorem factV_some {s : List UInt8} {p : AskP × ReplyP} (h : factV s = some p) : p.1.Key ∧ p.2.Wf ∧ p.2.Ok p.1.kind ∧ p.2.id = 0 := by
  unfold factV at h
  split at h
  · cases h
  · split at h
    · exact pairV_some h
    · cases h
noncomputable def knowT (K : KL) (s : List UInt8) : KL := match factV s with
  | none => K
  | some p => putK K p.1 p.2
noncomputable def knownOf (l : List (List UInt8)) : KL := l.foldl knowT []
/-- The item that stands in a cache. -/
def recF (a : AskP) (r : ReplyP) : Fo := .text a.enc (.text (r.enc a.kind) .nil)
def recE (a : AskP) (r : ReplyP) : List UInt8 := (It.list (recF a r)).enc
theorem recF_len {a : AskP} {r : ReplyP} (ha : a.Key) (hw : r.Wf) (ho : r.Ok a.kind) : (recF a r).enc.length ≤ 24820 := by
  have h1 := AskP.enc_len ha.1 ha.2.1
  have h2 := ReplyP.body_len hw ho
  have h3 := encT_le3 a.enc (by omega)
  have h4 : (r.enc a.kind).length ≤ 24707 := by unfold ReplyP.enc; rw [List.length_append, sum4_len]; omega
  have h5 := encT_le3 (r.enc a.kind) (by omega)
  simp only [recF, Fo.enc, List.length_append, List.length_nil]
  omega
theorem recE_len {a : AskP} {r : ReplyP} (ha : a.Key) (hw : r.Wf) (ho : r.Ok a.kind) : (recE a r).length ≤ 24823 := by
  have h1 := recF_len ha hw ho
  have h2 := It.list_len (recF a r) (by omega)
  unfold recE
  omega
theorem factV_rec {a : AskP} {r : ReplyP} (ha : a.Key) (hw : r.Wf) (ho : r.Ok a.kind) (hi : r.id = 0) : factV (recE a r) = some (a, r) := by
  have hl := recE_len ha hw ho
  have hd : decV (recE a r) = (It.list (recF a r), 0) := decV_of rfl (by unfold recE at hl; omega) (by simp [It.dep, recF, Fo.dep])
  unfold factV
  rw [hd]
  simp only [ne_eq, not_true_eq_false, if_false, It.inner, recF, txtsF]
  unfold pairV
  rw [getA_enc ha.1 ha.2.1]
  simp only
  rw [getR_enc hw ho]
  simp only
  rw [if_pos ⟨ha.2.2, hi⟩]

/-- A client: what it knows, what will come, what it asked. -/
structure Cl where
  known : KL
  script : List (List UInt8)
  asked : List (List UInt8)
noncomputable def Cl.tries (a : AskP) : Nat → Cl → Option ReplyP × Cl
  | 0, c => (none, c)
  | n + 1, c =>
    match getR a.kind (c.script.headD []) with
    | none => Cl.tries a n ⟨c.known, c.script.tail, c.asked ++ [({ a with id := c.asked.length + 1 } : AskP).enc]⟩
    | some r => if r.id = c.asked.length + 1 then (some { r with id := 0 }, ⟨c.known, c.script.tail, c.asked ++ [({ a with id := c.asked.length + 1 } : AskP).enc]⟩)
      else Cl.tries a n ⟨c.known, c.script.tail, c.asked ++ [({ a with id := c.asked.length + 1 } : AskP).enc]⟩
/-- What is told of an ask that is not known: the reply, the error; the disk, the client. -/
noncomputable def learnP (name : List UInt8) (p : Pd) (c : Cl) (a : AskP) : (ReplyP × Int) × Pd × Cl :=
  match c.tries a 3 with
  | (none, c1) => ((ReplyP.zero, 4), p, c1)
  | (some r, c1) => if (p.add name (recE a r)).1 = 0 then ((r, 0), (p.add name (recE a r)).2, { c1 with known := putK c1.known a r })
    else ((ReplyP.zero, (p.add name (recE a r)).1), (p.add name (recE a r)).2, c1)
noncomputable def askP (name : List UInt8) (p : Pd) (c : Cl) (a : AskP) : (ReplyP × Int) × Pd × Cl :=
  if a.addr.length ≠ 20 then ((ReplyP.zero, 1), p, c) else match getK c.known a with
  | some r => ((r, 0), p, c)
  | none => learnP name p c a
theorem tries_known (a : AskP) (n : Nat) : ∀ c : Cl, (c.tries a n).2.known = c.known ∧ (c.tries a n).2.asked.length ≤ c.asked.length + n ∧ ∀ r, (c.tries a n).1 = some r → r.Wf ∧ r.Ok a.kind ∧ r.id = 0 := by
  induction n with
  | zero => exact fun c => ⟨rfl, Nat.le_refl _, fun r h => by cases h⟩
  | succ n ih =>
    intro c
    have h2 := ih ⟨c.known, c.script.tail, c.asked ++ [({ a with id := c.asked.length + 1 } : AskP).enc]⟩
    simp only [List.length_append, List.length_singleton] at h2
    simp only [Cl.tries]
    cases hg : getR a.kind (c.script.headD []) with
    | none => simp only; exact ⟨h2.1, by omega, h2.2.2⟩
    | some r =>
      simp only
      by_cases hi : r.id = c.asked.length + 1
      · rw [if_pos hi]
        refine ⟨rfl, by simp only [List.length_append, List.length_singleton]; omega, fun r' h => ?_⟩
        cases h
        obtain ⟨w, o, _⟩ := getR_some hg
        exact ⟨⟨by show 0 < M64; unfold M64; omega, w.nonce, w.bal, w.value⟩, o, rfl⟩
      · rw [if_neg hi]
        exact ⟨h2.1, by omega, h2.2.2⟩
end Go.Proofs.YtekoaheiapddiaaGreat.Dz
end
