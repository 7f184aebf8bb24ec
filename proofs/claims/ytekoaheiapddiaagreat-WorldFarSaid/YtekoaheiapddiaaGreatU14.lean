/- Merged: Le, Lf. -/
import Derived.Test.YtekoaheiapddiaaGreatU13
import Derived.Maps.AppendAt
section
namespace Go.Proofs.YtekoaheiapddiaaGreat
open Go.RowKit

theorem infoItem : (Tryz.prog.info? 198).map (fun i => (i.zero, i.size, i.bytes)) = some (some (.agg #[.bool false, .string ⟨#[]⟩, .slice none 0 0]), 3, 48) := by kernel_rfl
/-- A slice of items that the call has made, from block B on, and that may grow. -/
def Own (B : Nat) (f : Fo) (v : Value) (W : World) : Prop :=
  ∃ (S : Nat → Prop) (xs : List Value), W.ownsRow B 198 3 v f.len xs ∧ Cel S f xs W ∧ ∀ k, S k → B ≤ k ∧ k < W.heap.size ∧ v.ownBlock ≠ some k
theorem Own.sl {B : Nat} {f : Fo} {v : Value} {W : World} (h : Own B f v W) : SlF (fun k => B ≤ k ∧ k < W.heap.size) f v W := by
  obtain ⟨S, xs, ho, hc, hS⟩ := h
  have hc' := hc.mono (T := fun k => B ≤ k ∧ k < W.heap.size) (fun k hk => ⟨(hS k hk).1, (hS k hk).2.1⟩) f xs
  rcases ho.2 with ⟨rfl, h0⟩ | ⟨g, cap, cur, rfl, hb, hg, hn, _, _, _⟩
  · left
    refine ⟨rfl, ?_⟩
    cases f with
    | nil => rfl
    | text s r => simp [Fo.len] at h0
    | list i r => simp [Fo.len] at h0
  · right
    refine ⟨g, 0, cap, rfl, ⟨hb, lt_of hg⟩, hn, ?_⟩
    refine Cel.at f xs 0 (fun j u hj => ?_) hc'
    have h := ho.cells (g := g) rfl j u hj
    have e : (⟨g, 0, none⟩ : Addr).add j = ⟨g, j, none⟩ := by unfold Addr.add; split <;> simp_all
    rw [e] at h
    rw [Nat.zero_add]; exact h
theorem Own.nil (B : Nat) (W : World) : Own B .nil (.slice none 0 0) W := ⟨fun _ => False, [], World.ownsRow_nil _ _ _ _, rfl, fun _ h => h.elim⟩
/-- It stays while its blocks stay. -/
theorem Own.kept {B : Nat} {f : Fo} {v : Value} {W W' : World} (h : Own B f v W) (hb : ∀ k, B ≤ k → k < W.heap.size → W'.heap[k]? = W.heap[k]?) (hs : W.heap.size ≤ W'.heap.size) : Own B f v W' := by
  obtain ⟨S, xs, ho, hc, hS⟩ := h
  refine ⟨S, xs, ?_, hc.kept (fun k hk => hb k (hS k hk).1 (hS k hk).2.1) f xs, fun k hk => ⟨(hS k hk).1, Nat.lt_of_lt_of_le (hS k hk).2.1 hs, (hS k hk).2.2⟩⟩
  refine ⟨ho.1, ?_⟩
  rcases ho.2 with h0 | ⟨g, cap, cur, rfl, hbg, hg, rest⟩
  · exact Or.inl h0
  · exact Or.inr ⟨g, cap, cur, rfl, hbg, (hb g hbg (lt_of hg)).trans hg, rest⟩
theorem Own.blk {B : Nat} {f : Fo} {v : Value} {W : World} (h : Own B f v W) : ∀ k, v.ownBlock = some k → B ≤ k ∧ k < W.heap.size := by
  obtain ⟨S, xs, ho, _⟩ := h
  exact ho.lt
theorem Own.later2 {B g : Nat} {f : Fo} {v : Value} {W W1 : World} (o : Obj) (h : Own B f v W) (hg : g < B) (ho : Only (fun k => k = g) W.heap.size W W1) : Own B f v (W1.alloc o) := by
  refine (h.kept (fun k hk hk2 => ho.block k hk2 (by omega)) ho.size).kept (fun k _ hk2 => Below.heap_alloc _ _ _ hk2) (by simp)
/-- One item more. -/
theorem wpList_append_item {ops : Array Oper} {rest : List Oper} {o : Oper} {a : Act} {Q : Exit → Act → World → Prop} {W : World} (hgd : o.guard = none) (s x : Operand)
    (ho : o.op = .call { callee := .builtin .append, args := #[s, x], argTypes := #[196, 196] })
    (B : Nat) (v : Value) (f : Fo) (it : It) (b : Bool) (t : ByteArray) (l : Value) (S : Nat → Prop) (hs : a.eval s = v) (h : Own B f v W) (hS : ∀ k, S k → B ≤ k ∧ k < W.heap.size ∧ v.ownBlock ≠ some k)
    (hone : l.oneCell' = true) (hcel : Cel S (it.fo .nil) [.bool b, .string t, l] W)
    (q : Nat) (hx : a.eval x = .slice (some ⟨q, 0, none⟩) 1 1) (hz : W.heap[q]? = some (.cells #[.bool b, .string t, l] 198 (0, 0))) (hB : B ≤ W.heap.size) (hn : f.len < 1000000)
    (hK : ∀ v' W', Own B (f.app (it.fo .nil)) v' W' → W.grownBy W' v.ownBlock → (v'.ownBlock = v.ownBlock ∨ v'.ownBlock = some W.heap.size) → wpList Tryz.prog ops Q rest (a.put o.dst v') W') : wpList Tryz.prog ops Q (o :: rest) a W := by
  obtain ⟨i0, hi, hz0, hz1, hz2⟩ := info_parts infoItem
  obtain ⟨S0, xs, hown, hc, hS0⟩ := h
  have hlen : (it.fo .nil).len = 1 := by cases it <;> rfl
  refine wpList_append_own_at W hgd s x 196 ho B 198 i0 _ 3 48 Tryz.underlying196 hi hz0 hz1 hz2 rfl (by omega) v f.len xs hs hown ⟨q, 0, none⟩ 1 1 [.bool b, .string t, l] hx rfl ?_ ?_ (by unfold maxLen; omega) (by omega) hB ?_
  · intro j u hj
    have e : (⟨q, 0, none⟩ : Addr).add j = ⟨q, j, none⟩ := by unfold Addr.add; split <;> simp_all
    rw [e, cell_of hz]
    simpa using hj
  · intro u hu
    simp only [List.mem_cons, List.not_mem_nil, or_false] at hu
    rcases hu with rfl | rfl | rfl
    · rfl
    · rfl
    · exact hone
  · intro v' W' h1 h2 h3 h4
    refine hK v' W' ?_ h2 h4
    have hk0 : ∀ k, S0 k → W'.heap[k]? = W.heap[k]? := fun k hk => h2.block k (hS0 k hk).2.1 (fun e => (hS0 k hk).2.2 e.symm)
    have hk1 : ∀ k, S k → W'.heap[k]? = W.heap[k]? := fun k hk => h2.block k (hS k hk).2.1 (fun e => (hS k hk).2.2 e.symm)
    refine ⟨fun k => S0 k ∨ S k, xs ++ [.bool b, .string t, l], ?_, ?_, ?_⟩
    · rw [Fo.len_app, hlen]; exact h1
    · exact Cel.app ((hcel.kept hk1 _ _).mono (fun _ h => Or.inr h) _ _) _ _ ((hc.kept hk0 _ _).mono (fun _ h => Or.inl h) _ _)
    · intro k hk
      have hkk : B ≤ k ∧ k < W.heap.size ∧ v.ownBlock ≠ some k := hk.elim (hS0 k) (hS k)
      refine ⟨hkk.1, Nat.lt_of_lt_of_le hkk.2.1 h2.size, ?_⟩
      rcases h4 with h4 | h4
      · rw [h4]; exact hkk.2.2
      · rw [h4]; intro e; injection e with e; omega

theorem tk_le {n : Nat} {s a b : List UInt8} (h : tk n s = some (a, b)) : b.length ≤ s.length ∧ a.length ≤ s.length := by
  have := tk_length h; omega
theorem bodyP_le {a : Nat} {s x r : List UInt8} (h : bodyP a s = some (x, r)) : r.length ≤ s.length ∧ x.length ≤ s.length := by
  unfold bodyP at h
  split at h
  · exact tk_le h
  · cases hk : tk (a - 55) s with
    | none => rw [hk] at h; cases h
    | some q =>
      obtain ⟨n, q⟩ := q
      rw [hk] at h
      simp only at h
      split at h
      · have h1 := tk_le hk
        have h2 := tk_le h
        omega
      · cases h
theorem itemP_lt {d : Nat} {s r : List UInt8} {f : Fo} (h : itemP d s = some (f, r)) : r.length < s.length := by
  rcases d with _ | d
  · exact absurd (show none = some (f, r) from h) (by simp)
  · rcases s with _ | ⟨b, s⟩
    · exact absurd (show none = some (f, r) from h) (by simp)
    · change itemS (itemP d) (b :: s) = some (f, r) at h
      generalize itemP d = p at h
      unfold itemS at h
      simp only at h
      split at h
      · simp at h; rw [← h.2]; simp
      · split at h
        · generalize hk : bodyP (b.toNat - 128) s = q at h
          rcases q with _ | ⟨x, q⟩
          · simp [textS] at h
          · have := bodyP_le hk
            simp only [textS] at h
            split at h
            · simp at h
            · simp at h; rw [← h.2]; simp; omega
        · generalize hk : bodyP (b.toNat - 192) s = q at h
          rcases q with _ | ⟨x, q⟩
          · simp [listS] at h
          · have := bodyP_le hk
            simp only [listS] at h
            generalize itemsP p x.length x = g at h
            rcases g with _ | g
            · simp at h
            · simp at h; rw [← h.2]; simp; omega
theorem Only.grown {may : Nat → Prop} {B : Nat} {W W' : World} {row : Option Nat} (hg : W.grownBy W' row) (hrow : ∀ k, row = some k → B ≤ k) (hs : B ≤ W.heap.size) : Only may B W W' :=
  ⟨hg.os, hg.tape, hg.output, hg.size, fun k hk _ => hg.block k (by omega) (fun e => by have := hrow k e.symm; omega)⟩
/-- What item hands back. -/
def ItR (g : Nat) (w : World) (r : Option (Fo × List UInt8)) (e : Ending) (w' : World) : Prop :=
  Only (fun k => k = g) w.heap.size w w' ∧ match r with
    | some (f, s) => (∃ (x : It) (v : Value), f = x.fo .nil ∧ e = .returned v ∧ ItV (fun k => w.heap.size ≤ k ∧ k < w'.heap.size) x v w') ∧ Rd g s w'
    | none => e = .panicked boom
/-- What items hands back. -/
def ItsR (g : Nat) (w : World) (r : Option Fo) (e : Ending) (w' : World) : Prop :=
  Only (fun k => k = g) w.heap.size w w' ∧ match r with
    | some f => ∃ v : Value, e = .returned v ∧ SlF (fun k => w.heap.size ≤ k ∧ k < w'.heap.size) f v w'
    | none => e = .panicked boom
def ItemC (d : Nat) : Prop := ∀ (g : Nat) (s : List UInt8) (n : Nat) (w : World), n + d = 65 → s.length ≤ 100000 → Rd g s w →
  Calls Tryz.prog 145 #[.pointer (some ⟨g, 0, none⟩), .int .i64 n] w (ItR g w (itemP d s))
def ItemsC (d : Nat) : Prop := ∀ (g : Nat) (s : List UInt8) (n : Nat) (w : World), n + d = 65 → s.length ≤ 100000 → Rd g s w →
  Calls Tryz.prog 184 #[.pointer (some ⟨g, 0, none⟩), .int .i64 n] w (ItsR g w (itemsP (itemP d) s.length s))

/-- What items knows at the head of a round. -/
def ItsI (p : List UInt8 → Option (Fo × List UInt8)) (g : Nat) (w : World) (s : List UInt8) (v : Value) (W : World) : Prop :=
  ∃ (f : Fo) (s' : List UInt8) (n : Nat), Rd g s' W ∧ s'.length ≤ n ∧ f.len + s'.length ≤ s.length ∧ Only (fun k => k = g) w.heap.size w W ∧
    itemsP p s.length s = (itemsP p n s').map (f.app ·) ∧ Own w.heap.size f v W
def leftOf (g : Nat) (W : World) : Nat := match W.cell? ⟨g, 0, none⟩ with
  | some (.string x) => x.size
  | _ => 0
theorem leftOf_rd {g : Nat} {s : List UInt8} {W : World} (h : Rd g s W) : leftOf g W = s.length := by
  unfold leftOf
  rw [cell_of h 0]
  exact str_size s
set_option maxRecDepth 100000 in
set_option maxHeartbeats 1000000 in
theorem items_c {d : Nat} (IH : ItemC d) : ItemsC d := by
  intro g s n w hn hs h
  have hg : g < w.heap.size := lt_of h
  have HI := Lib.hid (show ItsI (itemP d) g w s (.slice none 0 0) w from ⟨.nil, s, s.length, h, Nat.le_refl _, by simp [Fo.len], Only.refl _ _ _, by simp [Fo.app], Own.nil _ _⟩)
  have HC := Lib.hid (fun t W ht hr => IH g t n W hn ht hr)
  clear h IH
  go_enter Tryz.func184, Tryz.ntmps184
  go_wp2_with fail
  go_loopw [5] (fun v wr => ItsI (itemP d) g w s v wr) (fun _ wr => leftOf g wr)
  case atStart => exact HI.out
  case round =>
    clear HI
    obtain ⟨f, s', m, hr, hm, hl, ho, he, hown⟩ := hrel
    rcases s' with _ | ⟨b, s'⟩
    · have c0 : wr.cell? ⟨g, 0, none⟩ = some (.string ⟨#[]⟩) := cell_of hr 0
      have he2 : itemsP (itemP d) s.length s = some f := by
        rw [he]
        rcases m with _ | m <;> simp [itemsP, Fo.app_nil]
      have HE := Lib.hid (show ItsR g w (itemsP (itemP d) s.length s) (.returned u5) wr from by
        rw [he2]
        exact ⟨ho, u5, rfl, hown.sl⟩)
      clear hr hm hl ho he hown he2
      go_wp2_with fail
      go_ret
      exact HE.out
    · have c0 : wr.cell? ⟨g, 0, none⟩ = some (.string (str (b :: s'))) := cell_of hr 0
      have hne : (str (b :: s')).toList.isEmpty = false := by rw [ByteArray.toList_eq]; rfl
      obtain ⟨m, rfl⟩ : ∃ k, m = k + 1 := ⟨m - 1, by simp at hm; omega⟩
      have HL := Lib.hid (And.intro (leftOf_rd hr) (And.intro hm hl))
      have HQ := Lib.hid (HC.out (b :: s') wr (by simp at hl ⊢; omega) hr)
      have HI := Lib.hid (And.intro ho hown)
      clear hr hm hl ho hown
      cases hp : itemP d (b :: s') with
      | none =>
        rw [hp] at HQ
        have HE := Lib.hid (show itemsP (itemP d) s.length s = none by rw [he]; simp [itemsP, hp])
        clear he hp HL
        generalize str (b :: s') = x at *
        go_wp2_with (go_at_call 145; refine HQ.out.mono ?_; rintro e w1 ⟨ho, rfl⟩; have HO := Lib.hid ho; clear ho)
        refine ⟨rfl, ?_⟩
        rw [HE.out]
        exact ⟨HI.out.1.thenO HO.out, rfl⟩
      | some q =>
        obtain ⟨f1, r⟩ := q
        rw [hp] at HQ
        have hrl := itemP_lt hp
        have HE := Lib.hid (show itemsP (itemP d) s.length s = (itemsP (itemP d) m r).map ((f.app f1).app ·) by
          rw [he]
          simp only [itemsP, hp]
          cases itemsP (itemP d) m r <;> simp [Fo.app_assoc])
        have HR := Lib.hid hrl
        clear he hp hrl
        generalize hx : str (b :: s') = x at *
        clear hx
        go_wp2_with (first
          | (go_at_call 145; refine HQ.out.mono ?_; rintro e w1 ⟨ho, ⟨it, v, rfl, rfl, hv⟩, hr⟩; obtain ⟨b2, t2, l2, rfl, hone, hcel⟩ := hv.cel; have HO := Lib.hid ho; have HV := Lib.hid (And.intro hone hcel); have HR1 := Lib.hid hr; clear ho hr hv hone hcel; clear HQ)
          | (at_builtin; refine wpList_append_item (by rfl) _ _ (by rfl) w.heap.size _ f it b2 t2 l2 (fun k => wr.heap.size ≤ k ∧ k < w1.heap.size) (by rfl) (HI.out.2.later2 _ hg HO.out)
              (fun k hk => ⟨Nat.le_trans HI.out.1.size hk.1, Nat.lt_trans (show k < w1.heap.size from hk.2) (by simp), fun e => absurd (HI.out.2.blk k e).2 (Nat.not_lt.2 hk.1)⟩) HV.out.1
              (HV.out.2.kept (fun k hk => Below.heap_alloc _ _ _ hk.2) _ _) w1.heap.size (by rfl) (heap_alloc_new _ _) (Nat.le_trans HI.out.1.size (Nat.le_trans HO.out.size (by simp))) (by have := HL.out.2.2; simp at this; omega) ?_; intro v2 w2 hown2 hgr hbl; have HG := Lib.hid (And.intro hown2 hgr); clear hown2 hgr hbl))
        have hb := HI.out.2.blk
        have hs1 := HI.out.1.size
        have hs2 := HO.out.size
        have hrd : Rd g r w2 := by
          refine (HG.out.2.block g (by simp; omega) (fun e => ?_)).trans ((Below.heap_alloc _ _ _ (by omega)).trans HR1.out)
          have := (hb g e.symm).1
          omega
        have hl1 := HL.out
        have hl2 := HR.out
        simp only [List.length_cons] at hl1 hl2
        refine ⟨⟨f.app (it.fo .nil), r, m, hrd, by omega, ?_, ?_, HE.out, HG.out.1⟩, ?_⟩
        · rw [Fo.len_app, show (it.fo .nil).len = 1 by cases it <;> rfl]; omega
        · refine ((HI.out.1.thenO HO.out).alloc (by omega) _).trans (Only.grown HG.out.2 (fun k e => (hb k e).1) (by simp; omega))
        · rw [leftOf_rd hrd, hl1.1]; omega
end Go.Proofs.YtekoaheiapddiaaGreat
end
section
namespace Go.Proofs.YtekoaheiapddiaaGreat
open Go.RowKit

theorem item_zero : ItemC 0 := by
  intro g s n w hn hs h
  have hi : ¬ (n : Int) ≤ 64 := by omega
  go_enter Tryz.func145, Tryz.ntmps145
  go_wp2_with (go_at_call 146; refine (must_no _).mono ?_; rintro e w1 ⟨rfl, rfl⟩)
  exact ⟨rfl, (Only.refl _ _ _).alloc (Nat.le_refl _) _, rfl⟩
theorem index1 (b : UInt8) (W : World) : (Instr.index 9 (.string (str [b])) (.int .i64 0)).run Tryz.prog W = .ok (.int .u8 (b.toNat : Nat)) W := by
  rw [run_index_string W _ _ _ _ Tryz.underlying9, dif_pos ⟨by omega, by simp [str_size]⟩]
  rfl
/-- What item knows behind its first byte. -/
structure ItA (w : World) (g : Nat) (r : List UInt8) (W : World) : Prop where
  only : Only (fun k => k = g) w.heap.size w W
  rd : Rd g r W
  row : W.heap[w.heap.size]? = some (.cells #[.bool false, .string ⟨#[]⟩, .slice none 0 0] 198 (0, 0))
theorem ItA.lt {w : World} {g : Nat} {r : List UInt8} {W : World} (h : ItA w g r W) : w.heap.size < W.heap.size := lt_of h.row
theorem ItA.laterB {w : World} {g : Nat} {r : List UInt8} {W W' : World} (h : ItA w g r W) (hb : Below W.heap.size W W') : ItA w g r W' :=
  ⟨h.only.thenB hb, h.rd.later hb, (hb.block _ h.lt).trans h.row⟩
theorem ItA.laterO {w : World} {g : Nat} {r r' : List UInt8} {W W' : World} (hg : g < w.heap.size) (h : ItA w g r W) (ho : Only (fun k => k = g) W.heap.size W W') (hr : Rd g r' W') : ItA w g r' W' :=
  ⟨h.only.thenO ho, hr, (ho.block _ h.lt (by omega)).trans h.row⟩
theorem ItA.set {w : World} {g : Nat} {r : List UInt8} {W : World} (hg : g < w.heap.size) (h : ItA w g r W) (u0 u1 u2 : Value) :
    Only (fun k => k = g) w.heap.size w (((W.setCell ⟨w.heap.size, 0, none⟩ u0).setCell ⟨w.heap.size, 1, none⟩ u1).setCell ⟨w.heap.size, 2, none⟩ u2) ∧ Rd g r (((W.setCell ⟨w.heap.size, 0, none⟩ u0).setCell ⟨w.heap.size, 1, none⟩ u1).setCell ⟨w.heap.size, 2, none⟩ u2) := by
  refine ⟨((h.only.setCell (Or.inl (Nat.le_refl _)) _).setCell (Or.inl (Nat.le_refl _)) _).setCell (Or.inl (Nat.le_refl _)) _, ?_⟩
  have hb : Below w.heap.size W (((W.setCell ⟨w.heap.size, 0, none⟩ u0).setCell ⟨w.heap.size, 1, none⟩ u1).setCell ⟨w.heap.size, 2, none⟩ u2) := below_set3 (Below.refl _ _) (Nat.le_refl _) _ _ _
  exact (hb.block _ hg).trans h.rd
theorem takeOne {s : List UInt8} {b : UInt8} {r : List UInt8} (h : s = b :: r) : tk 1 s = some ([b], r) := by subst h; simp [tk]
set_option maxRecDepth 100000 in
set_option maxHeartbeats 1000000 in
theorem item_short (d : Nat) (g : Nat) (b : UInt8) (r : List UInt8) (hb : b.toNat < 128) (n : Nat) (w : World) (hn : n + (d + 1) = 65) (hs : (b :: r).length ≤ 100000) (h : Rd g (b :: r) w) :
    Calls Tryz.prog 145 #[.pointer (some ⟨g, 0, none⟩), .int .i64 n] w (ItR g w (some (.text [b] .nil, r))) := by
  have hi : (n : Int) ≤ 64 := by omega
  have hg := Lib.hid (lt_of h)
  have HR := Lib.hid h; clear h
  have HT := Lib.hid (fun W h => take_c g (b :: r) 1 (by omega) W h)
  rw [takeOne rfl] at HT
  have hx := index1 b
  have HB := Lib.hid (fun W => bare_c [b] W)
  rw [show bareL [b] = true by simpa [bareL] using hb] at HB
  have hb2 := b.toNat_lt
  generalize hs1 : str [b] = s1 at *
  have HS1 := Lib.hid hs1; clear hs1 hs hn
  go_enter Tryz.func145, Tryz.ntmps145
  go_wp2_with (first
    | (go_at_call 146; refine (must_ok _).mono ?_; rintro e w1 ⟨rfl, rfl⟩; have HA := Lib.hid (show ItA w g (b :: r) (w.alloc (.cells #[.bool false, .string ⟨#[]⟩, .slice none 0 0] 198)) from ⟨(Only.refl _ _ _).alloc (Nat.le_refl _) _, HR.out.later ((Below.refl _ _).alloc (Nat.le_refl _) _), heap_alloc_new _ _⟩))
    | (go_at_call 180; refine (HT.out _ HA.out.rd).mono ?_; rintro e w2 ⟨ho, rfl, hr⟩; have HA2 := Lib.hid (HA.out.laterO hg.out ho hr); clear HT ho hr; rw [HS1.out])
    | (go_at_call 181; refine (HB.out _).mono ?_; rintro e w3 ⟨rfl, rfl⟩)
    | (go_at_call 182; refine (text_c _ _).mono ?_; rintro e w3 ⟨rfl, hb3⟩; have HA3 := Lib.hid (HA2.out.laterB hb3); clear hb3; obtain ⟨⟨c0, c1, c2⟩, z0, z1, z2⟩ := cells3 HA3.out.row; unfold textV))
  have hE := HA3.out.set hg.out (.bool false) (.string s1) (.slice none 0 0)
  exact bodyPost_ret (results_cell_row Tryz.results145 _ _ _ _ _ _ _ rfl (heap_set3 HA3.out.row _ _ _) Tryz.underlying198 rfl (by kernel_rfl)) rfl
    ⟨hE.1, ⟨.text [b], _, rfl, rfl, by rw [← HS1.out]; rfl⟩, hE.2⟩
set_option maxRecDepth 100000 in
set_option maxHeartbeats 1000000 in
theorem item_text (d : Nat) (g : Nat) (b : UInt8) (r : List UInt8) (hb : 128 ≤ b.toNat) (hb2 : b.toNat < 192) (n : Nat) (w : World) (hn : n + (d + 1) = 65) (hs : (b :: r).length ≤ 100000) (h : Rd g (b :: r) w) :
    Calls Tryz.prog 145 #[.pointer (some ⟨g, 0, none⟩), .int .i64 n] w (ItR g w (textS (bodyP (b.toNat - 128) r))) := by
  have hi : (n : Int) ≤ 64 := by omega
  have hg := Lib.hid (lt_of h)
  have HR := Lib.hid h; clear h
  have HT := Lib.hid (fun W h => take_c g (b :: r) 1 (by omega) W h)
  rw [takeOne rfl] at HT
  have hx := index1 b
  have HB := Lib.hid (fun W => bare_c [b] W)
  rw [show bareL [b] = false by simp [bareL]; omega] at HB
  have hb3 := b.toNat_lt
  have HY := Lib.hid (fun W h => body_c g r (b.toNat - 128) (by omega) (by simp at hs; omega) W h)
  have hbi : (128 : Int) ≤ (b.toNat : Int) := by omega
  have hbj : (b.toNat : Int) < 192 := by omega
  have hbk : (b.toNat : Int) < 256 := by omega
  rw [show ((b.toNat - 128 : Nat) : Int) = (b.toNat : Int) - 128 by omega] at HY
  generalize hs1 : str [b] = s1 at *
  have HS1 := Lib.hid hs1; clear hs1 hn
  have HR2 := Lib.hid hb
  generalize bodyP (b.toNat - 128) r = y at *
  clear hb hb2
  generalize b.toNat = k at *
  rcases y with _ | ⟨x, r'⟩
  · go_enter Tryz.func145, Tryz.ntmps145
    go_wp2_with (first
      | (go_at_call 146; refine (must_ok _).mono ?_; rintro e w1 ⟨rfl, rfl⟩; have HA := Lib.hid (show ItA w g (b :: r) (w.alloc (.cells #[.bool false, .string ⟨#[]⟩, .slice none 0 0] 198)) from ⟨(Only.refl _ _ _).alloc (Nat.le_refl _) _, HR.out.later ((Below.refl _ _).alloc (Nat.le_refl _) _), heap_alloc_new _ _⟩))
      | (go_at_call 180; refine (HT.out _ HA.out.rd).mono ?_; rintro e w2 ⟨ho, rfl, hr⟩; have HA2 := Lib.hid (HA.out.laterO hg.out ho hr); clear HT ho hr; rw [HS1.out])
      | (go_at_call 181; refine (HB.out _).mono ?_; rintro e w3 ⟨rfl, rfl⟩; clear HB)
      | (go_at_call 183; refine (HY.out _ HA2.out.rd).mono ?_; rintro e w4 ⟨ho, rfl⟩; have HO := Lib.hid ho; clear ho))
    exact ⟨rfl, HA2.out.only.thenO HO.out, rfl⟩
  · have HBX := Lib.hid (fun W => bare_c x W)
    simp only [textS]
    cases hbx : bareL x
    · rw [hbx] at HBX
      clear hbx
      go_enter Tryz.func145, Tryz.ntmps145
      go_wp2_with (first
        | (go_at_call 146; refine (must_ok _).mono ?_; rintro e w1 ⟨rfl, rfl⟩; clear HR2; have HA := Lib.hid (show ItA w g (b :: r) (w.alloc (.cells #[.bool false, .string ⟨#[]⟩, .slice none 0 0] 198)) from ⟨(Only.refl _ _ _).alloc (Nat.le_refl _) _, HR.out.later ((Below.refl _ _).alloc (Nat.le_refl _) _), heap_alloc_new _ _⟩))
        | (go_at_call 180; refine (HT.out _ HA.out.rd).mono ?_; rintro e w2 ⟨ho, rfl, hr⟩; have HA2 := Lib.hid (HA.out.laterO hg.out ho hr); clear HT ho hr; rw [HS1.out])
        | (go_at_call 181; refine (HB.out _).mono ?_; rintro e w3 ⟨rfl, rfl⟩; clear HB)
        | (go_at_call 146; refine (must_ok _).mono ?_; rintro e w1 ⟨rfl, rfl⟩)
        | (go_at_call 183; refine (HY.out _ HA2.out.rd).mono ?_; rintro e w4 ⟨ho, rfl, hr⟩; have HA3 := Lib.hid (HA2.out.laterO hg.out ho hr); clear ho hr; clear HY)
        | (go_at_call 181; refine (HBX.out _).mono ?_; rintro e w3 ⟨rfl, rfl⟩)
        | (go_at_call 182; refine (text_c _ _).mono ?_; rintro e w5 ⟨rfl, hb5⟩; have HA5 := Lib.hid (HA3.out.laterB hb5); clear hb5; obtain ⟨⟨c0, c1, c2⟩, z0, z1, z2⟩ := cells3 HA5.out.row; unfold textV))
      have hE := HA5.out.set hg.out (.bool false) (.string (str x)) (.slice none 0 0)
      exact bodyPost_ret (results_cell_row Tryz.results145 _ _ _ _ _ _ _ rfl (heap_set3 HA5.out.row _ _ _) Tryz.underlying198 rfl (by kernel_rfl)) rfl
        ⟨hE.1, ⟨.text x, _, rfl, rfl, rfl⟩, hE.2⟩
    · rw [hbx] at HBX
      clear hbx
      go_enter Tryz.func145, Tryz.ntmps145
      go_wp2_with (first
        | (go_at_call 146; refine (must_ok _).mono ?_; rintro e w1 ⟨rfl, rfl⟩; clear HR2; have HA := Lib.hid (show ItA w g (b :: r) (w.alloc (.cells #[.bool false, .string ⟨#[]⟩, .slice none 0 0] 198)) from ⟨(Only.refl _ _ _).alloc (Nat.le_refl _) _, HR.out.later ((Below.refl _ _).alloc (Nat.le_refl _) _), heap_alloc_new _ _⟩))
        | (go_at_call 180; refine (HT.out _ HA.out.rd).mono ?_; rintro e w2 ⟨ho, rfl, hr⟩; have HA2 := Lib.hid (HA.out.laterO hg.out ho hr); clear HT ho hr; rw [HS1.out])
        | (go_at_call 181; refine (HB.out _).mono ?_; rintro e w3 ⟨rfl, rfl⟩; clear HB)
        | (go_at_call 146; refine (must_no _).mono ?_; rintro e w1 ⟨rfl, rfl⟩)
        | (go_at_call 183; refine (HY.out _ HA2.out.rd).mono ?_; rintro e w4 ⟨ho, rfl, hr⟩; have HA3 := Lib.hid (HA2.out.laterO hg.out ho hr); clear ho hr; clear HY)
        | (go_at_call 181; refine (HBX.out _).mono ?_; rintro e w3 ⟨rfl, rfl⟩))
      exact ⟨rfl, HA3.out.only, rfl⟩
theorem ItA.laterI {w : World} {g : Nat} {r : List UInt8} {W W' : World} {o : Obj} (hg : g < w.heap.size) (h : ItA w g r W) (ho : Only (fun k => k = W.heap.size) (W.alloc o).heap.size (W.alloc o) W') : ItA w g r W' := by
  have hl := h.lt
  have hk : ∀ k, k < W.heap.size → W'.heap[k]? = W.heap[k]? := fun k hk => (ho.block k (by simp; omega) (by omega)).trans (Below.heap_alloc _ _ _ hk)
  have hs := ho.size
  simp at hs
  refine ⟨(h.only.alloc h.only.size o).trans (ho.mono (by simp; omega) (fun k hk e => by omega)), (hk g (by omega)).trans h.rd, (hk _ hl).trans h.row⟩
set_option maxRecDepth 100000 in
set_option maxHeartbeats 1000000 in
theorem item_list (d : Nat) (IH : ItemsC d) (g : Nat) (b : UInt8) (r : List UInt8) (hb : 192 ≤ b.toNat) (n : Nat) (w : World) (hn : n + (d + 1) = 65) (hs : (b :: r).length ≤ 100000) (h : Rd g (b :: r) w) :
    Calls Tryz.prog 145 #[.pointer (some ⟨g, 0, none⟩), .int .i64 n] w (ItR g w (listS (itemP d) (bodyP (b.toNat - 192) r))) := by
  have hi : (n : Int) ≤ 64 := by omega
  have hg := Lib.hid (lt_of h)
  have HR := Lib.hid h; clear h
  have HT := Lib.hid (fun W h => take_c g (b :: r) 1 (by omega) W h)
  rw [takeOne rfl] at HT
  have hx := index1 b
  have HB := Lib.hid (fun W => bare_c [b] W)
  rw [show bareL [b] = false by simp [bareL]; omega] at HB
  have hb3 := b.toNat_lt
  have HY := Lib.hid (fun W h => body_c g r (b.toNat - 192) (by omega) (by simp at hs; omega) W h)
  have hbi : (192 : Int) ≤ (b.toNat : Int) := by omega
  have hbj : ¬ (b.toNat : Int) < 192 := by omega
  have hbk : (b.toNat : Int) < 256 := by omega
  rw [show ((b.toNat - 192 : Nat) : Int) = (b.toNat : Int) - 192 by omega] at HY
  generalize hs1 : str [b] = s1 at *
  have HS1 := Lib.hid hs1; clear hs1
  have HR2 := Lib.hid hb
  have hY2 : ∀ x r', bodyP (b.toNat - 192) r = some (x, r') → x.length ≤ 100000 := fun x r' h => by have := bodyP_le h; simp at hs; omega
  generalize bodyP (b.toNat - 192) r = y at *
  clear hb
  generalize b.toNat = k at *
  rcases y with _ | ⟨x, r'⟩
  · clear hn hY2
    go_enter Tryz.func145, Tryz.ntmps145
    go_wp2_with (first
      | (go_at_call 146; refine (must_ok _).mono ?_; rintro e w1 ⟨rfl, rfl⟩; clear HR2; have HA := Lib.hid (show ItA w g (b :: r) (w.alloc (.cells #[.bool false, .string ⟨#[]⟩, .slice none 0 0] 198)) from ⟨(Only.refl _ _ _).alloc (Nat.le_refl _) _, HR.out.later ((Below.refl _ _).alloc (Nat.le_refl _) _), heap_alloc_new _ _⟩))
      | (go_at_call 180; refine (HT.out _ HA.out.rd).mono ?_; rintro e w2 ⟨ho, rfl, hr⟩; have HA2 := Lib.hid (HA.out.laterO hg.out ho hr); clear HT ho hr; rw [HS1.out])
      | (go_at_call 181; refine (HB.out _).mono ?_; rintro e w3 ⟨rfl, rfl⟩; clear HB)
      | (go_at_call 183; refine (HY.out _ HA2.out.rd).mono ?_; rintro e w4 ⟨ho, rfl⟩; have HO := Lib.hid ho; clear ho))
    exact ⟨rfl, HA2.out.only.thenO HO.out, rfl⟩
  · have HI := Lib.hid (fun (W : World) => IH W.heap.size x (n + 1) (W.alloc (.cells #[.string (str x)] 245)) (by omega) (hY2 x r' rfl) (heap_alloc_new _ _))
    rw [show ((n + 1 : Nat) : Int) = (n : Int) + 1 by omega] at HI
    clear hn hY2
    simp only [listS]
    generalize itemsP (itemP d) x.length x = z at *
    rcases z with _ | f
    · go_enter Tryz.func145, Tryz.ntmps145
      go_wp2_with (first
        | (go_at_call 146; refine (must_ok _).mono ?_; rintro e w1 ⟨rfl, rfl⟩; clear HR2; have HA := Lib.hid (show ItA w g (b :: r) (w.alloc (.cells #[.bool false, .string ⟨#[]⟩, .slice none 0 0] 198)) from ⟨(Only.refl _ _ _).alloc (Nat.le_refl _) _, HR.out.later ((Below.refl _ _).alloc (Nat.le_refl _) _), heap_alloc_new _ _⟩))
        | (go_at_call 180; refine (HT.out _ HA.out.rd).mono ?_; rintro e w2 ⟨ho, rfl, hr⟩; have HA2 := Lib.hid (HA.out.laterO hg.out ho hr); clear HT ho hr; rw [HS1.out])
        | (go_at_call 181; refine (HB.out _).mono ?_; rintro e w3 ⟨rfl, rfl⟩; clear HB)
        | (go_at_call 183; refine (HY.out _ HA2.out.rd).mono ?_; rintro e w4 ⟨ho, rfl, hr⟩; have HA3 := Lib.hid (HA2.out.laterO hg.out ho hr); clear ho hr; clear HY)
        | (go_at_call 184; refine (HI.out _).mono ?_; rintro e w5 ⟨ho, rfl⟩; have HA4 := Lib.hid (HA3.out.laterI hg.out ho); clear ho))
      exact ⟨rfl, HA4.out.only, rfl⟩
    · go_enter Tryz.func145, Tryz.ntmps145
      go_wp2_with (first
        | (go_at_call 146; refine (must_ok _).mono ?_; rintro e w1 ⟨rfl, rfl⟩; clear HR2; have HA := Lib.hid (show ItA w g (b :: r) (w.alloc (.cells #[.bool false, .string ⟨#[]⟩, .slice none 0 0] 198)) from ⟨(Only.refl _ _ _).alloc (Nat.le_refl _) _, HR.out.later ((Below.refl _ _).alloc (Nat.le_refl _) _), heap_alloc_new _ _⟩))
        | (go_at_call 180; refine (HT.out _ HA.out.rd).mono ?_; rintro e w2 ⟨ho, rfl, hr⟩; have HA2 := Lib.hid (HA.out.laterO hg.out ho hr); clear HT ho hr; rw [HS1.out])
        | (go_at_call 181; refine (HB.out _).mono ?_; rintro e w3 ⟨rfl, rfl⟩; clear HB)
        | (go_at_call 183; refine (HY.out _ HA2.out.rd).mono ?_; rintro e w4 ⟨ho, rfl, hr⟩; have HA3 := Lib.hid (HA2.out.laterO hg.out ho hr); clear ho hr; clear HY)
        | (go_at_call 184; refine (HI.out _).mono ?_; rintro e w5 ⟨ho, v, rfl, hv⟩; obtain ⟨va, vn, vc, rfl⟩ := hv.form; have HA4 := Lib.hid (HA3.out.laterI hg.out ho); have HV := Lib.hid (And.intro hv HA3.out.lt); clear ho hv; obtain ⟨⟨c0, c1, c2⟩, z0, z1, z2⟩ := cells3 HA4.out.row))
      have hE := HA4.out.set hg.out (.bool true) (.string ⟨#[]⟩) (.slice va vn vc)
      have hV := HV.out.1
      have hl := HV.out.2
      refine bodyPost_ret (results_cell_row Tryz.results145 _ _ _ _ _ _ _ rfl (heap_set3 HA4.out.row _ _ _) Tryz.underlying198 rfl (by kernel_rfl)) rfl
        ⟨hE.1, ⟨.list f, _, rfl, rfl, _, rfl, ?_⟩, hE.2⟩
      have hb : Below (w.heap.size + 1) w5 w5 := Below.refl _ _
      refine (hV.kept (W' := ((w5.setCell ⟨w.heap.size, 0, none⟩ (.bool true)).setCell ⟨w.heap.size, 1, none⟩ (.string ⟨#[]⟩)).setCell ⟨w.heap.size, 2, none⟩ (.slice va vn vc)) (fun k hk => ?_)).mono (fun k hk => ?_)
      · have h1 := hk.1
        simp at h1
        rw [heap_setCell_other _ _ _ _ (by simp; omega), heap_setCell_other _ _ _ _ (by simp; omega), heap_setCell_other _ _ _ _ (by simp; omega)]
      · have h1 := hk.1
        have h2 := hk.2
        simp at h1
        refine ⟨by omega, ?_⟩
        simpa [World.setCell] using h2
theorem item_succ {d : Nat} (IH : ItemsC d) : ItemC (d + 1) := by
  intro g s n w hn hs h
  rcases s with _ | ⟨b, r⟩
  · have hi : (n : Int) ≤ 64 := by omega
    have HR := Lib.hid h
    have HT := Lib.hid (fun W h => take_c g [] 1 (by simp) W h)
    have HA := Lib.hid (show Only (fun k => k = g) w.heap.size w (w.alloc (.cells #[.bool false, .string ⟨#[]⟩, .slice none 0 0] 198)) from (Only.refl _ _ _).alloc (Nat.le_refl _) _)
    clear h
    go_enter Tryz.func145, Tryz.ntmps145
    go_wp2_with (first
      | (go_at_call 146; refine (must_ok _).mono ?_; rintro e w1 ⟨rfl, rfl⟩)
      | (go_at_call 180; refine (HT.out _ (HR.out.later ((Below.refl _ _).alloc (Nat.le_refl _) _))).mono ?_; rintro e w2 ⟨ho, rfl⟩; have HA2 := Lib.hid (HA.out.thenO ho); clear ho HT))
    exact ⟨rfl, HA2.out, rfl⟩
  · show Calls _ _ _ _ (ItR g w (itemS (itemP d) (b :: r)))
    have hS : itemS (itemP d) (b :: r) = if b.toNat < 128 then some (.text [b] .nil, r) else if b.toNat < 192 then textS (bodyP (b.toNat - 128) r) else listS (itemP d) (bodyP (b.toNat - 192) r) := rfl
    rw [hS]
    by_cases h1 : b.toNat < 128
    · rw [if_pos h1]
      exact item_short d g b r h1 n w hn hs h
    · rw [if_neg h1]
      by_cases h2 : b.toNat < 192
      · rw [if_pos h2]
        exact item_text d g b r (by omega) h2 n w hn hs h
      · rw [if_neg h2]
        exact item_list d IH g b r (by omega) n w hn hs h
theorem item_any : ∀ d, ItemC d
  | 0 => item_zero
  | d + 1 => item_succ (items_c (item_any d))
end Go.Proofs.YtekoaheiapddiaaGreat
end
