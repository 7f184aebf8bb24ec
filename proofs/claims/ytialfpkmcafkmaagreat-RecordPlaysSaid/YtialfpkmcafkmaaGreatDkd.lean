/- write. -/
import Derived.Test.YtialfpkmcafkmaaGreatDkc
namespace Go.Proofs.YtialfpkmcafkmaaGreat
open Go.RowKit Go.Maps Go.WideElems Go.ChangeMaps Go.MapKept Go.WideMaps

section
variable {x : Dk} {W : World}
theorem upd_upd (fs : Nm → Option Fl) (s : Nm) (a b : Option Fl) : updF (updF fs s a) s b = updF fs s b := by
  funext t; unfold updF; split <;> rfl
theorem byteCells_app (a b : List UInt8) : Lib.byteCells a ++ Lib.byteCells b = Lib.byteCells (a ++ b) := by simp [Lib.byteCells]
set_option maxRecDepth 100000 in
/-- .. a file that is there. -/
theorem write_some (h : DiskAt x W) {s xs : List UInt8} {f : Fl} (hf : x.fs s = some f) (hs : s.length ≤ maxLen) (hb : f.bs.length + xs.length ≤ 1000000000) (hu : -1000000000000 ≤ x.used ∧ x.used ≤ 1000000000000) :
    Calls Tryz.prog 48 #[.pointer (some ⟨x.d, 0, none⟩), .string (str s), .string (str xs)] W fun e W' => e = .returned (.tuple #[]) ∧ ∃ v, DiskAt { x with fs := updF x.fs s (some ⟨f.b, v, f.bs ++ xs, f.syn⟩), used := x.used + xs.length } W' ∧
      Chg x.ft (Dk.ft { x with fs := updF x.fs s (some ⟨f.b, v, f.bs ++ xs, f.syn⟩), used := x.used + xs.length }) W W' := by
  obtain ⟨⟨_, c1, _⟩, _⟩ := h.reads
  have hl := h.look hs
  rw [hf] at hl
  simp only [ptrF] at hl
  obtain ⟨h1, h2⟩ := h.file s f hf
  have d0 : W.cell? ⟨f.b, 0, none⟩ = some f.v := cell_of h1 0
  have hxs := str_size xs
  have hsc := strCells_str xs
  have H := Lib.hid (And.intro h (And.intro hf (And.intro h2 hsc)))
  clear h hf h1 h2 hs hsc
  generalize str s = y at *
  generalize str xs = z at *
  obtain ⟨va, vc, hv⟩ := own_any H.out.2.2.1
  rw [hv] at d0
  have HV := Lib.hid hv
  clear hv
  go_enter Tryz.func48, Tryz.ntmps48
  go_wp2_with (at_builtin; refine wpList_append_text (by rfl) _ _ (by rfl) 0 _ f.bs.length (Lib.byteCells f.bs) (by rfl) (HV.out ▸ H.out.2.2.1) z (by rfl) (by omega) (Nat.zero_le _) ?_; intro v' W2 hown hgr hl2; obtain ⟨a2, c2, rfl⟩ := own_any hown; have HZ := Lib.hid (H.out.1.grow H.out.2.1 (xs := xs) (v' := .slice a2 (f.bs.length + z.size) c2) (W2 := W2) (by rw [List.length_append, ← hxs, ← byteCells_app, ← H.out.2.2.2]; exact hown) (HV.out ▸ hgr) (by rw [HV.out]; exact hl2)); obtain ⟨⟨e0, e1⟩, e2, e3⟩ := HZ.out.2.2; rw [HV.out] at e0; clear hown hgr hl2)
  go_end0
  have hz := HZ.out
  rw [hxs] at hz
  have h2 := hz.1.set 2 (.int .i64 (x.used + xs.length)) { x with fs := updF x.fs s (some ⟨f.b, .slice a2 (f.bs.length + xs.length) c2, f.bs ++ xs, f.syn⟩), used := x.used + xs.length } rfl rfl rfl rfl rfl
  exact ⟨rfl, _, h2.1, hz.2.1.trans h2.2⟩
set_option maxRecDepth 100000 in
/-- .. a file that begins. -/
theorem write_none (h : DiskAt x W) {s xs : List UInt8} (hf : x.fs s = none) (hs : s.length ≤ maxLen) (hb : xs.length ≤ 1000000000) (hn : x.n < 1000000) (hu : -1000000000000 ≤ x.used ∧ x.used ≤ 1000000000000) :
    Calls Tryz.prog 48 #[.pointer (some ⟨x.d, 0, none⟩), .string (str s), .string (str xs)] W fun e W' => e = .returned (.tuple #[]) ∧ ∃ b v, DiskAt { x with n := x.n + 1, fs := updF x.fs s (some ⟨b, v, xs, 0⟩), used := x.used + xs.length } W' ∧
      Chg x.ft (Dk.ft { x with n := x.n + 1, fs := updF x.fs s (some ⟨b, v, xs, 0⟩), used := x.used + xs.length }) W W' := by
  obtain ⟨⟨_, c1, _⟩, _⟩ := h.reads
  have hl := h.look hs
  rw [hf] at hl
  simp only [ptrF] at hl
  obtain ⟨D, ho, hat, hhas⟩ := h.own
  have hkey := key_str hs
  have hxs := str_size xs
  have hsc := strCells_str xs
  have H := Lib.hid (And.intro h (And.intro hf (And.intro ho (And.intro hat (And.intro hhas hsc)))))
  have hdl := h.lt (Or.inl rfl : x.ft x.d)
  clear h hf hs hsc ho hat hhas
  generalize str s = y at *
  generalize str xs = z at *
  have HB := Lib.hid (And.intro hb (And.intro hn hu))
  have hbz : z.size ≤ 1000000000 := by omega
  go_enter Tryz.func48, Tryz.ntmps48
  go_wp2_with (first
    | (at_mapUpdate; refine wpList_mapUpdate_own _ rfl _ _ _ 66 rfl 9 79 law Tryz.underlying66 ptrElem x.m x.n D rfl (H.out.2.2.1.alloc _) (by have := HB.out.2.1; unfold maxLen; omega) _ _ (.string s) rfl rfl hkey (.lit (.int .i64 (W.heap.size : Nat))) [] rfl ?_; intro W1 ho1 hg1; have HF := Lib.hid (H.out.1.fresh H.out.2.1 H.out.2.2.1.isMap H.out.2.2.2.1 H.out.2.2.2.2.1 ho1 hg1); have d0 : W1.cell? ⟨W.heap.size, 0, none⟩ = some (.slice none 0 0) := cell_of (HF.out.1.file s ⟨W.heap.size, .slice none 0 0, [], 0⟩ (updF_same _ _ _)).cell 0; have ⟨⟨_, e1, _⟩, _⟩ := HF.out.1.reads; simp only at e1; clear ho1 hg1)
    | (at_builtin; refine wpList_append_text (by rfl) _ _ (by rfl) 0 _ 0 [] (by rfl) ⟨rfl, Or.inl ⟨rfl, rfl⟩⟩ z (by rfl) (by omega) (Nat.zero_le _) ?_; intro v' W2 hown hgr hl2; obtain ⟨a2, c2, rfl⟩ := own_any hown; have HZ := Lib.hid (HF.out.1.grow (s := s) (updF_same _ _ _) (xs := xs) (v' := .slice a2 (0 + z.size) c2) (W2 := W2) (by rw [List.nil_append, ← hxs, ← H.out.2.2.2.2.2]; simpa using hown) hgr hl2); obtain ⟨⟨e0, e1⟩, e2, e3⟩ := HZ.out.2.2; simp only at e0 e1 e2 e3; clear hown hgr hl2))
  go_end0
  have hz := HZ.out
  rw [hxs, Nat.zero_add, List.nil_append, upd_upd] at hz
  have h2 := hz.1.set 2 (.int .i64 (x.used + xs.length)) { x with n := x.n + 1, fs := updF x.fs s (some ⟨W.heap.size, .slice a2 xs.length c2, xs, 0⟩), used := x.used + xs.length } rfl rfl rfl rfl rfl
  exact ⟨rfl, _, _, h2.1, HF.out.2.trans (hz.2.1.trans h2.2)⟩
theorem DiskAt.more (h : DiskAt x W) {n : Nat} (hn : x.n ≤ n) : DiskAt { x with n := n } W := by
  obtain ⟨D, ho, h2⟩ := h.own
  exact ⟨h.cell, ⟨D, ho.mono hn, h2⟩, h.file, h.apart⟩
theorem write_c (h : DiskAt x W) {s xs : List UInt8} (hs : s.length ≤ maxLen) (hb : (bytesF (x.fs s)).length + xs.length ≤ 1000000000) (hn : x.n < 1000000) (hu : -1000000000000 ≤ x.used ∧ x.used ≤ 1000000000000) :
    Calls Tryz.prog 48 #[.pointer (some ⟨x.d, 0, none⟩), .string (str s), .string (str xs)] W fun e W' => e = .returned (.tuple #[]) ∧ ∃ f, f.bs = bytesF (x.fs s) ++ xs ∧ f.syn = synF (x.fs s) ∧
      DiskAt { x with n := x.n + 1, fs := updF x.fs s (some f), used := x.used + xs.length } W' ∧ Chg x.ft (Dk.ft { x with n := x.n + 1, fs := updF x.fs s (some f), used := x.used + xs.length }) W W' := by
  cases hf : x.fs s with
  | none =>
    rw [hf] at hb
    refine (write_none h hf hs (by simpa [bytesF] using hb) hn hu).mono ?_
    rintro e W' ⟨rfl, b, v, h1, h2⟩
    exact ⟨rfl, ⟨b, v, xs, 0⟩, rfl, rfl, h1, h2⟩
  | some f =>
    rw [hf] at hb
    refine (write_some h hf hs hb hu).mono ?_
    rintro e W' ⟨rfl, v, h1, h2⟩
    exact ⟨rfl, ⟨f.b, v, f.bs ++ xs, f.syn⟩, rfl, rfl, h1.more (n := x.n + 1) (by simp), h2⟩
set_option maxRecDepth 100000 in
theorem secure_c (h : DiskAt x W) {s : List UInt8} {f : Fl} (hf : x.fs s = some f) (hs : s.length ≤ maxLen) :
    Calls Tryz.prog 55 #[.pointer (some ⟨x.d, 0, none⟩), .string (str s)] W fun e W' => e = .returned (.tuple #[]) ∧ DiskAt { x with fs := updF x.fs s (some ⟨f.b, f.v, f.bs, f.bs.length⟩) } W' ∧
      Chg x.ft (Dk.ft { x with fs := updF x.fs s (some ⟨f.b, f.v, f.bs, f.bs.length⟩) }) W W' := by
  obtain ⟨⟨_, c1, _⟩, _⟩ := h.reads
  have hl := h.look hs
  rw [hf] at hl
  simp only [ptrF] at hl
  obtain ⟨h1, h2⟩ := h.file s f hf
  have d0 : W.cell? ⟨f.b, 0, none⟩ = some f.v := cell_of h1 0
  have d1 : W.cell? ⟨f.b, 1, none⟩ = some (.int .i64 f.syn) := cell_of h1 1
  have z1 : W.frozen? ⟨f.b, 1, none⟩ = false := free_of h1 1
  have HT := Lib.hid (h.turn hf (f' := ⟨f.b, f.v, f.bs, f.bs.length⟩) (W2 := W.setCell ⟨f.b, 1, none⟩ (.int .i64 (f.bs.length : Nat))) rfl
    (fun k _ hk2 _ => heap_setCell_other _ _ _ _ (by simpa using hk2))
    ⟨by simpa using heap_setCell_same _ _ 1 _ _ (.int .i64 (f.bs.length : Nat)) h1, own_keep h2 fun k hk => heap_setCell_other _ _ _ _ (by simpa using h.ne.2.2 s s f f k hf hf hk)⟩
    (fun k hk => Or.inl hk) rfl rfl rfl (by simp [World.setCell]))
  obtain ⟨va, vc, hv⟩ := own_any h2
  rw [hv] at d0
  clear h hf h1 h2 hs hv
  generalize str s = y at *
  go_enter Tryz.func55, Tryz.ntmps55
  go_wp2_with fail
  go_end0
  exact ⟨rfl, HT.out⟩
/-- A file that is gone. -/
theorem DiskAt.gone (h : DiskAt x W) {s : Nm} {f : Fl} (hf : x.fs s = some f) {D : DataW Unit} (hat : ∀ t, D.atKey (.string t) .nil = encF (x.fs t)) (hhas : ∀ t, Maps.has D (.string t) = (x.fs t).isSome) {W2 : World}
    (ho : W2.ownsMap Tryz.prog 9 ptrElem x.m x.n (D.del (.string s))) (hg : W.grownBy W2 (some x.m)) :
    DiskAt { x with fs := updF x.fs s none } W2 ∧ Chg x.ft (Dk.ft { x with fs := updF x.fs s none }) W W2 := by
  obtain ⟨hmd, hne, _⟩ := h.ne
  have hk : ∀ k, k < W.heap.size → k ≠ x.m → W2.heap[k]? = W.heap[k]? := fun k hk hm => hg.block k hk (by simpa using hm)
  refine ⟨⟨?_, ⟨_, ho, fun t => ?_, fun t => ?_⟩, fun t f ht => ?_, fun t t' f g ht ht' htt => ?_⟩, ⟨hg.os, hg.tape, hg.output, hg.size, fun k hk1 hk2 => hk k hk1 (fun e => hk2 (Or.inr (Or.inl e))), fun k hk1 => Or.inl ?_⟩⟩
  · exact (hk _ (h.lt (Or.inl rfl)) (Ne.symm hmd)).trans h.cell
  · by_cases e : t = s
    · subst e; rw [Maps.atKey_del_same]; simp [updF, encF]
    · rw [Maps.atKey_del_other (by simpa using e), hat]; simp [updF, e]
  · by_cases e : t = s
    · subst e; rw [Maps.has_del_same]; simp [updF]
    · rw [Maps.has_del_other (by simpa using e), hhas]; simp [updF, e]
  · simp only [updF] at ht
    split at ht
    · cases ht
    · have hf := h.file t f ht
      exact hf.kept (hk _ (h.lt (Or.inr (Or.inr ⟨t, f, ht, Or.inl rfl⟩))) (hne t f ht).2.1) (fun k hb => hk _ (h.lt (Or.inr (Or.inr ⟨t, f, ht, Or.inr hb⟩))) ((hne t f ht).2.2 k hb).2)
  · simp only [updF] at ht ht'
    split at ht
    · cases ht
    · split at ht'
      · cases ht'
      · exact h.apart t t' f g ht ht' htt
  · rcases hk1 with e | e | ⟨t, f, ht, hk1⟩
    · exact Or.inl e
    · exact Or.inr (Or.inl e)
    · simp only [updF] at ht
      split at ht
      · cases ht
      · exact Or.inr (Or.inr ⟨t, f, ht, hk1⟩)
end
end Go.Proofs.YtialfpkmcafkmaaGreat
