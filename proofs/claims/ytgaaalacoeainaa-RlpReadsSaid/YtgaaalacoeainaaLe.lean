/- The reader's items and item: they go down together. -/
import Derived.Test.YtgaaalacoeainaaLd
import Derived.Maps.AppendAt
namespace Go.Proofs.Ytgaaalacoeainaa
open Go.RowKit

theorem infoItem : (Try.prog.info? 27).map (fun i => (i.zero, i.size, i.bytes)) = some (some (.agg #[.bool false, .string ⟨#[]⟩, .slice none 0 0]), 3, 48) := by kernel_rfl
/-- A slice of items that the call has made, from block B on, and that may grow. -/
def Own (B : Nat) (f : Fo) (v : Value) (W : World) : Prop :=
  ∃ (S : Nat → Prop) (xs : List Value), W.ownsRow B 27 3 v f.len xs ∧ Cel S f xs W ∧ ∀ k, S k → B ≤ k ∧ k < W.heap.size ∧ v.ownBlock ≠ some k
theorem Own.sl {B : Nat} {f : Fo} {v : Value} {W : World} (h : Own B f v W) : SlF (fun k => B ≤ k ∧ k < W.heap.size) f v W := by
  obtain ⟨S, xs, ho, hc, hS⟩ := h
  have hc' := hc.mono (T := fun k => B ≤ k ∧ k < W.heap.size) (fun k hk => ⟨(hS k hk).1, (hS k hk).2.1⟩) f xs
  rcases ho.2 with ⟨rfl, h0⟩ | ⟨g, cap, cur, rfl, hb, hg, hn, _, _, _⟩
  · left
    refine ⟨rfl, ?_⟩
    cases f with
    | nil => rfl
    | text s r => simp [Fo.len] at h0
    | list i r => simp [Fo.len] at h0
  · right
    refine ⟨g, 0, cap, rfl, ⟨hb, lt_of hg⟩, hn, ?_⟩
    refine Cel.at f xs 0 (fun j u hj => ?_) hc'
    have h := ho.cells (g := g) rfl j u hj
    have e : (⟨g, 0, none⟩ : Addr).add j = ⟨g, j, none⟩ := by unfold Addr.add; split <;> simp_all
    rw [e] at h
    rw [Nat.zero_add]; exact h
theorem Own.nil (B : Nat) (W : World) : Own B .nil (.slice none 0 0) W := ⟨fun _ => False, [], World.ownsRow_nil _ _ _ _, rfl, fun _ h => h.elim⟩
/-- It stays while its blocks stay. -/
theorem Own.kept {B : Nat} {f : Fo} {v : Value} {W W' : World} (h : Own B f v W) (hb : ∀ k, B ≤ k → k < W.heap.size → W'.heap[k]? = W.heap[k]?) (hs : W.heap.size ≤ W'.heap.size) : Own B f v W' := by
  obtain ⟨S, xs, ho, hc, hS⟩ := h
  refine ⟨S, xs, ?_, hc.kept (fun k hk => hb k (hS k hk).1 (hS k hk).2.1) f xs, fun k hk => ⟨(hS k hk).1, Nat.lt_of_lt_of_le (hS k hk).2.1 hs, (hS k hk).2.2⟩⟩
  refine ⟨ho.1, ?_⟩
  rcases ho.2 with h0 | ⟨g, cap, cur, rfl, hbg, hg, rest⟩
  · exact Or.inl h0
  · exact Or.inr ⟨g, cap, cur, rfl, hbg, (hb g hbg (lt_of hg)).trans hg, rest⟩
theorem Own.blk {B : Nat} {f : Fo} {v : Value} {W : World} (h : Own B f v W) : ∀ k, v.ownBlock = some k → B ≤ k ∧ k < W.heap.size := by
  obtain ⟨S, xs, ho, _⟩ := h
  exact ho.lt
theorem Own.later2 {B g : Nat} {f : Fo} {v : Value} {W W1 : World} (o : Obj) (h : Own B f v W) (hg : g < B) (ho : Only (fun k => k = g) W.heap.size W W1) : Own B f v (W1.alloc o) := by
  refine (h.kept (fun k hk hk2 => ho.block k hk2 (by omega)) ho.size).kept (fun k _ hk2 => Below.heap_alloc _ _ _ hk2) (by simp)
/-- One item more. -/
theorem wpList_append_item {ops : Array Oper} {rest : List Oper} {o : Oper} {a : Act} {Q : Exit → Act → World → Prop} {W : World} (hgd : o.guard = none) (s x : Operand)
    (ho : o.op = .call { callee := .builtin .append, args := #[s, x], argTypes := #[25, 25] })
    (B : Nat) (v : Value) (f : Fo) (it : It) (b : Bool) (t : ByteArray) (l : Value) (S : Nat → Prop) (hs : a.eval s = v) (h : Own B f v W) (hS : ∀ k, S k → B ≤ k ∧ k < W.heap.size ∧ v.ownBlock ≠ some k)
    (hone : l.oneCell' = true) (hcel : Cel S (it.fo .nil) [.bool b, .string t, l] W)
    (q : Nat) (hx : a.eval x = .slice (some ⟨q, 0, none⟩) 1 1) (hz : W.heap[q]? = some (.cells #[.bool b, .string t, l] 27 (0, 0))) (hB : B ≤ W.heap.size) (hn : f.len < 1000000)
    (hK : ∀ v' W', Own B (f.app (it.fo .nil)) v' W' → W.grownBy W' v.ownBlock → (v'.ownBlock = v.ownBlock ∨ v'.ownBlock = some W.heap.size) → wpList Try.prog ops Q rest (a.put o.dst v') W') : wpList Try.prog ops Q (o :: rest) a W := by
  obtain ⟨i0, hi, hz0, hz1, hz2⟩ := info_parts infoItem
  obtain ⟨S0, xs, hown, hc, hS0⟩ := h
  have hlen : (it.fo .nil).len = 1 := by cases it <;> rfl
  refine wpList_append_own_at W hgd s x 25 ho B 27 i0 _ 3 48 Try.underlying25 hi hz0 hz1 hz2 rfl (by omega) v f.len xs hs hown ⟨q, 0, none⟩ 1 1 [.bool b, .string t, l] hx rfl ?_ ?_ (by unfold maxLen; omega) (by omega) hB ?_
  · intro j u hj
    have e : (⟨q, 0, none⟩ : Addr).add j = ⟨q, j, none⟩ := by unfold Addr.add; split <;> simp_all
    rw [e, cell_of hz]
    simpa using hj
  · intro u hu
    simp only [List.mem_cons, List.not_mem_nil, or_false] at hu
    rcases hu with rfl | rfl | rfl
    · rfl
    · rfl
    · exact hone
  · intro v' W' h1 h2 h3 h4
    refine hK v' W' ?_ h2 h4
    have hk0 : ∀ k, S0 k → W'.heap[k]? = W.heap[k]? := fun k hk => h2.block k (hS0 k hk).2.1 (fun e => (hS0 k hk).2.2 e.symm)
    have hk1 : ∀ k, S k → W'.heap[k]? = W.heap[k]? := fun k hk => h2.block k (hS k hk).2.1 (fun e => (hS k hk).2.2 e.symm)
    refine ⟨fun k => S0 k ∨ S k, xs ++ [.bool b, .string t, l], ?_, ?_, ?_⟩
    · rw [Fo.len_app, hlen]; exact h1
    · exact Cel.app ((hcel.kept hk1 _ _).mono (fun _ h => Or.inr h) _ _) _ _ ((hc.kept hk0 _ _).mono (fun _ h => Or.inl h) _ _)
    · intro k hk
      have hkk : B ≤ k ∧ k < W.heap.size ∧ v.ownBlock ≠ some k := hk.elim (hS0 k) (hS k)
      refine ⟨hkk.1, Nat.lt_of_lt_of_le hkk.2.1 h2.size, ?_⟩
      rcases h4 with h4 | h4
      · rw [h4]; exact hkk.2.2
      · rw [h4]; intro e; injection e with e; omega

theorem tk_le {n : Nat} {s a b : List UInt8} (h : tk n s = some (a, b)) : b.length ≤ s.length ∧ a.length ≤ s.length := by
  have := tk_length h; omega
theorem bodyP_le {a : Nat} {s x r : List UInt8} (h : bodyP a s = some (x, r)) : r.length ≤ s.length ∧ x.length ≤ s.length := by
  unfold bodyP at h
  split at h
  · exact tk_le h
  · cases hk : tk (a - 55) s with
    | none => rw [hk] at h; cases h
    | some q =>
      obtain ⟨n, q⟩ := q
      rw [hk] at h
      simp only at h
      split at h
      · have h1 := tk_le hk
        have h2 := tk_le h
        omega
      · cases h
theorem itemP_lt {d : Nat} {s r : List UInt8} {f : Fo} (h : itemP d s = some (f, r)) : r.length < s.length := by
  rcases d with _ | d
  · exact absurd (show none = some (f, r) from h) (by simp)
  · rcases s with _ | ⟨b, s⟩
    · exact absurd (show none = some (f, r) from h) (by simp)
    · change itemS (itemP d) (b :: s) = some (f, r) at h
      generalize itemP d = p at h
      unfold itemS at h
      simp only at h
      split at h
      · simp at h; rw [← h.2]; simp
      · split at h
        · generalize hk : bodyP (b.toNat - 128) s = q at h
          rcases q with _ | ⟨x, q⟩
          · simp [textS] at h
          · have := bodyP_le hk
            simp only [textS] at h
            split at h
            · simp at h
            · simp at h; rw [← h.2]; simp; omega
        · generalize hk : bodyP (b.toNat - 192) s = q at h
          rcases q with _ | ⟨x, q⟩
          · simp [listS] at h
          · have := bodyP_le hk
            simp only [listS] at h
            generalize itemsP p x.length x = g at h
            rcases g with _ | g
            · simp at h
            · simp at h; rw [← h.2]; simp; omega
theorem Only.grown {may : Nat → Prop} {B : Nat} {W W' : World} {row : Option Nat} (hg : W.grownBy W' row) (hrow : ∀ k, row = some k → B ≤ k) (hs : B ≤ W.heap.size) : Only may B W W' :=
  ⟨hg.os, hg.tape, hg.output, hg.size, fun k hk _ => hg.block k (by omega) (fun e => by have := hrow k e.symm; omega)⟩
/-- What item hands back. -/
def ItR (g : Nat) (w : World) (r : Option (Fo × List UInt8)) (e : Ending) (w' : World) : Prop :=
  Only (fun k => k = g) w.heap.size w w' ∧ match r with
    | some (f, s) => (∃ (x : It) (v : Value), f = x.fo .nil ∧ e = .returned v ∧ ItV (fun k => w.heap.size ≤ k ∧ k < w'.heap.size) x v w') ∧ Rd g s w'
    | none => e = .panicked boom
/-- What items hands back. -/
def ItsR (g : Nat) (w : World) (r : Option Fo) (e : Ending) (w' : World) : Prop :=
  Only (fun k => k = g) w.heap.size w w' ∧ match r with
    | some f => ∃ v : Value, e = .returned v ∧ SlF (fun k => w.heap.size ≤ k ∧ k < w'.heap.size) f v w'
    | none => e = .panicked boom
def ItemC (d : Nat) : Prop := ∀ (g : Nat) (s : List UInt8) (n : Nat) (w : World), n + d = 65 → s.length ≤ 100000 → Rd g s w →
  Calls Try.prog 39 #[.pointer (some ⟨g, 0, none⟩), .int .i64 n] w (ItR g w (itemP d s))
def ItemsC (d : Nat) : Prop := ∀ (g : Nat) (s : List UInt8) (n : Nat) (w : World), n + d = 65 → s.length ≤ 100000 → Rd g s w →
  Calls Try.prog 54 #[.pointer (some ⟨g, 0, none⟩), .int .i64 n] w (ItsR g w (itemsP (itemP d) s.length s))

/-- What items knows at the head of a round. -/
def ItsI (p : List UInt8 → Option (Fo × List UInt8)) (g : Nat) (w : World) (s : List UInt8) (v : Value) (W : World) : Prop :=
  ∃ (f : Fo) (s' : List UInt8) (n : Nat), Rd g s' W ∧ s'.length ≤ n ∧ f.len + s'.length ≤ s.length ∧ Only (fun k => k = g) w.heap.size w W ∧
    itemsP p s.length s = (itemsP p n s').map (f.app ·) ∧ Own w.heap.size f v W
def leftOf (g : Nat) (W : World) : Nat := match W.cell? ⟨g, 0, none⟩ with
  | some (.string x) => x.size
  | _ => 0
theorem leftOf_rd {g : Nat} {s : List UInt8} {W : World} (h : Rd g s W) : leftOf g W = s.length := by
  unfold leftOf
  rw [cell_of h 0]
  exact str_size s
set_option maxRecDepth 100000 in
set_option maxHeartbeats 1000000 in
theorem items_c {d : Nat} (IH : ItemC d) : ItemsC d := by
  intro g s n w hn hs h
  have hg : g < w.heap.size := lt_of h
  have HI := Lib.hid (show ItsI (itemP d) g w s (.slice none 0 0) w from ⟨.nil, s, s.length, h, Nat.le_refl _, by simp [Fo.len], Only.refl _ _ _, by simp [Fo.app], Own.nil _ _⟩)
  have HC := Lib.hid (fun t W ht hr => IH g t n W hn ht hr)
  clear h IH
  go_enter Try.func54, Try.ntmps54
  go_wp2_with fail
  go_loopw [5] (fun v wr => ItsI (itemP d) g w s v wr) (fun _ wr => leftOf g wr)
  case atStart => exact HI.out
  case round =>
    clear HI
    obtain ⟨f, s', m, hr, hm, hl, ho, he, hown⟩ := hrel
    rcases s' with _ | ⟨b, s'⟩
    · have c0 : wr.cell? ⟨g, 0, none⟩ = some (.string ⟨#[]⟩) := cell_of hr 0
      have he2 : itemsP (itemP d) s.length s = some f := by
        rw [he]
        rcases m with _ | m <;> simp [itemsP, Fo.app_nil]
      have HE := Lib.hid (show ItsR g w (itemsP (itemP d) s.length s) (.returned u5) wr from by
        rw [he2]
        exact ⟨ho, u5, rfl, hown.sl⟩)
      clear hr hm hl ho he hown he2
      go_wp2_with fail
      go_ret
      exact HE.out
    · have c0 : wr.cell? ⟨g, 0, none⟩ = some (.string (str (b :: s'))) := cell_of hr 0
      have hne : (str (b :: s')).toList.isEmpty = false := by rw [ByteArray.toList_eq]; rfl
      obtain ⟨m, rfl⟩ : ∃ k, m = k + 1 := ⟨m - 1, by simp at hm; omega⟩
      have HL := Lib.hid (And.intro (leftOf_rd hr) (And.intro hm hl))
      have HQ := Lib.hid (HC.out (b :: s') wr (by simp at hl ⊢; omega) hr)
      have HI := Lib.hid (And.intro ho hown)
      clear hr hm hl ho hown
      cases hp : itemP d (b :: s') with
      | none =>
        rw [hp] at HQ
        have HE := Lib.hid (show itemsP (itemP d) s.length s = none by rw [he]; simp [itemsP, hp])
        clear he hp HL
        generalize str (b :: s') = x at *
        go_wp2_with (go_at_call 39; refine HQ.out.mono ?_; rintro e w1 ⟨ho, rfl⟩; have HO := Lib.hid ho; clear ho)
        refine ⟨rfl, ?_⟩
        rw [HE.out]
        exact ⟨HI.out.1.thenO HO.out, rfl⟩
      | some q =>
        obtain ⟨f1, r⟩ := q
        rw [hp] at HQ
        have hrl := itemP_lt hp
        have HE := Lib.hid (show itemsP (itemP d) s.length s = (itemsP (itemP d) m r).map ((f.app f1).app ·) by
          rw [he]
          simp only [itemsP, hp]
          cases itemsP (itemP d) m r <;> simp [Fo.app_assoc])
        have HR := Lib.hid hrl
        clear he hp hrl
        generalize hx : str (b :: s') = x at *
        clear hx
        go_wp2_with (first
          | (go_at_call 39; refine HQ.out.mono ?_; rintro e w1 ⟨ho, ⟨it, v, rfl, rfl, hv⟩, hr⟩; obtain ⟨b2, t2, l2, rfl, hone, hcel⟩ := hv.cel; have HO := Lib.hid ho; have HV := Lib.hid (And.intro hone hcel); have HR1 := Lib.hid hr; clear ho hr hv hone hcel; clear HQ)
          | (at_builtin; refine wpList_append_item (by rfl) _ _ (by rfl) w.heap.size _ f it b2 t2 l2 (fun k => wr.heap.size ≤ k ∧ k < w1.heap.size) (by rfl) (HI.out.2.later2 _ hg HO.out)
              (fun k hk => ⟨Nat.le_trans HI.out.1.size hk.1, Nat.lt_trans (show k < w1.heap.size from hk.2) (by simp), fun e => absurd (HI.out.2.blk k e).2 (Nat.not_lt.2 hk.1)⟩) HV.out.1
              (HV.out.2.kept (fun k hk => Below.heap_alloc _ _ _ hk.2) _ _) w1.heap.size (by rfl) (heap_alloc_new _ _) (Nat.le_trans HI.out.1.size (Nat.le_trans HO.out.size (by simp))) (by have := HL.out.2.2; simp at this; omega) ?_; intro v2 w2 hown2 hgr hbl; have HG := Lib.hid (And.intro hown2 hgr); clear hown2 hgr hbl))
        have hb := HI.out.2.blk
        have hs1 := HI.out.1.size
        have hs2 := HO.out.size
        have hrd : Rd g r w2 := by
          refine (HG.out.2.block g (by simp; omega) (fun e => ?_)).trans ((Below.heap_alloc _ _ _ (by omega)).trans HR1.out)
          have := (hb g e.symm).1
          omega
        have hl1 := HL.out
        have hl2 := HR.out
        simp only [List.length_cons] at hl1 hl2
        refine ⟨⟨f.app (it.fo .nil), r, m, hrd, by omega, ?_, ?_, HE.out, HG.out.1⟩, ?_⟩
        · rw [Fo.len_app, show (it.fo .nil).len = 1 by cases it <;> rfl]; omega
        · refine ((HI.out.1.thenO HO.out).alloc (by omega) _).trans (Only.grown HG.out.2 (fun k e => (hb k e).1) (by simp; omega))
        · rw [leftOf_rd hrd, hl1.1]; omega
end Go.Proofs.Ytgaaalacoeainaa
