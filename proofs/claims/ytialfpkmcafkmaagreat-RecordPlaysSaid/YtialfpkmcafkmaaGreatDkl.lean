/- move, Rename: a file has another name, over one that is there. -/
import Derived.Test.YtialfpkmcafkmaaGreatDki
namespace Go.Proofs.YtialfpkmcafkmaaGreat
open Go.RowKit Go.Maps Go.WideElems Go.ChangeMaps Go.MapKept Go.WideMaps
section
variable {x : Dk} {W : World}
/-- A file that lies there has a name. -/
theorem DiskAt.regain (h : DiskAt x W) {s : Nm} {f : Fl} (hff : FileAt f W) (hfb : ¬ x.ft f.b) (hfr : ∀ k, f.v.ownBlock = some k → ¬ x.ft k) {D : DataW Unit} (hD : Maps.IsMap D) (hat : ∀ t, D.atKey (.string t) .nil = encF (x.fs t)) (hhas : ∀ t, Maps.has D (.string t) = (x.fs t).isSome) {W2 : World}
    (ho : W2.ownsMap Tryz.prog 9 ptrElem x.m (x.n + 1) (D.put (.string s) (.lit (.int .i64 (f.b : Nat))))) (hg : W.grownBy W2 (some x.m)) : DiskAt { x with n := x.n + 1, fs := updF x.fs s (some f) } W2 := by
  obtain ⟨hmd, hne, _⟩ := h.ne
  have hk : ∀ k, k < W.heap.size → k ≠ x.m → W2.heap[k]? = W.heap[k]? := fun k hk hm => hg.block k hk (by simpa using hm)
  have hrl : ∀ k, f.v.ownBlock = some k → k < W.heap.size := fun k hk => by obtain ⟨cs, hg⟩ := own_block hff.row hk; exact lt_of hg
  refine ⟨?_, ⟨_, ho, fun t => ?_, fun t => ?_⟩, fun t g ht => ?_, fun t t' g g' ht ht' htt => ?_⟩
  · exact (hk _ (h.lt (Or.inl rfl)) (Ne.symm hmd)).trans h.cell
  · by_cases e : t = s
    · subst e; rw [Maps.atKey_put_same (k := .string t) hD (by simp [WideAt.IsKeyLit])]; simp [updF, encF]
    · rw [Maps.atKey_put_other (by simpa using e), hat]; simp [updF, e]
  · by_cases e : t = s
    · subst e; rw [Maps.has_put_same (k := .string t) hD (by simp [WideAt.IsKeyLit])]; simp [updF]
    · rw [Maps.has_put_other (by simpa using e), hhas]; simp [updF, e]
  · simp only [updF] at ht
    split at ht
    · cases ht
      exact hff.kept (hk _ (lt_of hff.cell) (fun e => hfb (Or.inr (Or.inl e)))) (fun k hb => hk _ (hrl k hb) (fun e => hfr k hb (Or.inr (Or.inl e))))
    · have hf := h.file t g ht
      exact hf.kept (hk _ (h.lt (Or.inr (Or.inr ⟨t, g, ht, Or.inl rfl⟩))) (hne t g ht).2.1) (fun k hb => hk _ (h.lt (Or.inr (Or.inr ⟨t, g, ht, Or.inr hb⟩))) ((hne t g ht).2.2 k hb).2)
  · simp only [updF] at ht ht'
    split at ht <;> split at ht'
    · rename_i e1 e2; exact absurd (e1.trans e2.symm) htt
    · cases ht; exact ⟨fun e => hfb (Or.inr (Or.inr ⟨t', g', ht', Or.inl e⟩)), fun k hb hb' => hfr k hb (Or.inr (Or.inr ⟨t', g', ht', Or.inr hb'⟩))⟩
    · cases ht'; exact ⟨fun e => hfb (Or.inr (Or.inr ⟨t, g, ht, Or.inl e.symm⟩)), fun k hb hb' => hfr k hb' (Or.inr (Or.inr ⟨t, g, ht, Or.inr hb⟩))⟩
    · exact h.apart t t' g g' ht ht' htt
/-- Behind a file that is gone: it is no longer the disk's. -/
theorem DiskAt.left (h : DiskAt x W) {s : Nm} {f : Fl} (hf : x.fs s = some f) : (¬ (Dk.ft { x with fs := updF x.fs s none }) f.b) ∧ (∀ k, f.v.ownBlock = some k → ¬ (Dk.ft { x with fs := updF x.fs s none }) k) ∧ ∀ k, (Dk.ft { x with fs := updF x.fs s none }) k → x.ft k := by
  obtain ⟨hmd, hne, hrb⟩ := h.ne
  refine ⟨?_, fun k hk => ?_, ?_⟩
  · rintro (e | e | ⟨t, g, ht, hg⟩)
    · exact (hne s f hf).1 e
    · exact (hne s f hf).2.1 e
    · simp only [updF] at ht
      split at ht
      · cases ht
      · rename_i e
        rcases hg with hg | hg
        · exact (h.apart t s g f ht hf e).1 hg.symm
        · exact hrb t s g f _ ht hf hg rfl
  · rintro (e | e | ⟨t, g, ht, hg⟩)
    · exact ((hne s f hf).2.2 k hk).1 e
    · exact ((hne s f hf).2.2 k hk).2 e
    · simp only [updF] at ht
      split at ht
      · cases ht
      · rename_i e
        rcases hg with hg | hg
        · exact hrb s t f g k hf ht hk hg
        · exact (h.apart t s g f ht hf e).2 k hg hk
  · rintro k (e | e | ⟨t, g, ht, hg⟩)
    · exact Or.inl e
    · exact Or.inr (Or.inl e)
    · simp only [updF] at ht
      split at ht
      · cases ht
      · exact Or.inr (Or.inr ⟨t, g, ht, hg⟩)
def Dk.mv (x : Dk) (s t : Nm) (f g : Fl) : Dk := { x with n := x.n + 1, fs := updF (updF x.fs s none) t (some f), used := x.used - g.bs.length }
set_option maxRecDepth 100000 in
set_option maxHeartbeats 1000000 in
theorem move_c (h : DiskAt x W) {s t : Nm} {f g : Fl} (hst : t ≠ s) (hf : x.fs s = some f) (hg : x.fs t = some g) (hs : s.length ≤ maxLen) (ht : t.length ≤ maxLen) (hb : g.bs.length ≤ 1000000000) (hu : -1000000000000 ≤ x.used ∧ x.used ≤ 1000000000000) (hn : x.n < 1000000) :
    Calls Tryz.prog 85 #[.pointer (some ⟨x.d, 0, none⟩), .string (str s), .string (str t)] W fun e W' => e = .returned (.tuple #[]) ∧ DiskAt (x.mv s t f g) W' ∧ Chg x.ft (x.mv s t f g).ft W W' := by
  obtain ⟨⟨_, c1, _⟩, _⟩ := h.reads
  have hl := h.look hs
  rw [hf] at hl
  simp only [ptrF] at hl
  obtain ⟨D, ho, hat, hhas⟩ := h.own
  have hks := key_str hs
  have hkt := key_str ht
  have H := Lib.hid (And.intro h (And.intro hf (And.intro hg (And.intro ho (And.intro hat (And.intro hhas (And.intro hst (And.intro hb (And.intro hu (And.intro hn (And.intro hs ht)))))))))))
  clear h hf hg hs ho hat hhas hst hb hu hn ht
  generalize hys : str s = ys at *
  generalize hyt : str t = yt at *
  have HY := Lib.hid (And.intro hys hyt)
  clear hys hyt
  go_enter Tryz.func85, Tryz.ntmps85
  go_wp2_with (at_delete; refine wpList_delete_own _ rfl _ _ 66 9 rfl 79 law Tryz.underlying66 ptrElem x.m x.n D rfl H.out.2.2.2.1 _ _ rfl hks ?_; intro W1 ho1 ht1; have hG := H.out.1.gone (s := s) H.out.2.1 H.out.2.2.2.2.1 H.out.2.2.2.2.2.1 ho1 ht1.grown; have hl1 := hG.1.look H.out.2.2.2.2.2.2.2.2.2.2.2; rw [HY.out.2] at hl1; simp only [updF_other _ _ H.out.2.2.2.2.2.2.1, H.out.2.2.1, ptrF] at hl1; obtain ⟨⟨_, d1, _⟩, _⟩ := hG.1.reads; simp only at d1; have HG := Lib.hid hG; have HT := Lib.hid ht1; clear hG ho1 ht1)
  have hr := remove_c (s := t) HG.out.1 (show updF x.fs s none t = some g by rw [updF_other _ _ H.out.2.2.2.2.2.2.1]; exact H.out.2.2.1) H.out.2.2.2.2.2.2.2.2.2.2.2 H.out.2.2.2.2.2.2.2.1 H.out.2.2.2.2.2.2.2.2.1
  rw [HY.out.2] at hr
  refine hr.mono ?_
  rintro e W2 ⟨rfl, h2, hc2⟩
  obtain ⟨hl1, hl2, hl3⟩ := H.out.1.left H.out.2.1
  have hff := H.out.1.file s f H.out.2.1
  have hf1 : FileAt f W1 := hff.kept (HT.out.grown.block _ (lt_of hff.cell) (by simpa using (H.out.1.ne.2.1 s f H.out.2.1).2.1)) (fun k hk => HT.out.grown.block _ (by obtain ⟨cs, hg⟩ := own_block hff.row hk; exact lt_of hg) (by simpa using ((H.out.1.ne.2.1 s f H.out.2.1).2.2 k hk).2))
  have hf2 : FileAt f W2 := hf1.kept (hc2.block _ (lt_of hf1.cell) hl1) (fun k hk => hc2.block _ (by obtain ⟨cs, hg⟩ := own_block hf1.row hk; exact lt_of hg) (hl2 k hk))
  have hl4 := (HG.out.1.left (s := t) (f := g) (by show updF x.fs s none t = some g; rw [updF_other _ _ H.out.2.2.2.2.2.2.1]; exact H.out.2.2.1)).2.2
  obtain ⟨D2, ho2, hat2, hhas2⟩ := h2.own
  obtain ⟨⟨_, d2, _⟩, _⟩ := h2.reads
  simp only at d2
  have HM := Lib.hid (And.intro h2 (And.intro hc2 (And.intro hf2 (And.intro ho2 (And.intro hat2 (And.intro hhas2 (And.intro hl1 (And.intro hl2 (And.intro hl3 hl4)))))))))
  clear hr h2 hc2 hf1 hf2 ho2 hat2 hhas2 hl1 hl2 hl3 hl4 hff
  go_wp2_with (at_mapUpdate; refine wpList_mapUpdate_own _ rfl _ _ _ 66 rfl 9 79 law Tryz.underlying66 ptrElem x.m x.n D2 rfl HM.out.2.2.2.1 (by have := H.out.2.2.2.2.2.2.2.2.2.1; unfold maxLen; omega) _ _ (.string t) rfl rfl hkt (.lit (.int .i64 (f.b : Nat))) [] rfl ?_; intro W3 ho3 hg3; have HR := Lib.hid (And.intro (HM.out.1.regain HM.out.2.2.1 (fun h => HM.out.2.2.2.2.2.2.1 (HM.out.2.2.2.2.2.2.2.2.2 _ h)) (fun k hk h => HM.out.2.2.2.2.2.2.2.1 k hk (HM.out.2.2.2.2.2.2.2.2.2 _ h)) HM.out.2.2.2.1.isMap HM.out.2.2.2.2.1 HM.out.2.2.2.2.2.1 ho3 hg3) hg3); clear ho3 hg3)
  go_end0
  have hz := HR.out.1
  simp only [upd_upd] at hz
  refine ⟨rfl, hz, ((HG.out.2.trans HM.out.2.1).mono (G' := x.ft) (fun _ h => h) (fun _ h => Or.inr h)).trans ⟨HR.out.2.os, HR.out.2.tape, HR.out.2.output, HR.out.2.size, fun k hk hn => HR.out.2.block k hk (fun e => hn (Or.inr (Or.inl (by simpa using e)))), fun k hk => Or.inl ?_⟩⟩
  rcases hk with e | e | ⟨u, z, hu, hz⟩
  · exact Or.inl e
  · exact Or.inr (Or.inl e)
  · simp only [Dk.mv, updF] at hu
    split at hu
    · cases hu; exact Or.inr (Or.inr ⟨s, f, H.out.2.1, hz⟩)
    · split at hu
      · cases hu
      · exact Or.inr (Or.inr ⟨u, z, hu, hz⟩)
set_option maxRecDepth 100000 in
theorem ren1_c (h : DiskAt x W) {s t : Nm} {f g : Fl} (hst : t ≠ s) (hf : x.fs s = some f) (hg : x.fs t = some g) (hs : s.length ≤ maxLen) (ht : t.length ≤ maxLen) (hb : g.bs.length ≤ 1000000000) (hu : -1000000000000 ≤ x.used ∧ x.used ≤ 1000000000000) (hn : x.n < 1000000) {b : Nat} (hc : W.cell? ⟨b, 0, none⟩ = some (.string (str t))) :
    Calls Tryz.prog 84 #[.pointer (some ⟨x.d, 0, none⟩), .string (str s), .pointer (some ⟨b, 0, none⟩)] W fun e W' => e = .returned (.tuple #[]) ∧ DiskAt (x.mv s t f g) W' ∧ Chg x.ft (x.mv s t f g).ft W W' := by
  have HC := Lib.hid (move_c h hst hf hg hs ht hb hu hn)
  clear h hst hf hg hs ht hb hu hn
  generalize str s = ys at *
  generalize str t = yt at *
  go_enter Tryz.func84, Tryz.ntmps84
  go_wp2_with fail
  refine HC.out.mono ?_
  rintro e W2 ⟨rfl, hq⟩
  have HQ := Lib.hid hq
  clear hq HC
  go_wp2_with fail
  go_end0
  exact ⟨rfl, HQ.out⟩
set_option maxRecDepth 100000 in
theorem rename_some (h : DiskAt x W) (hd : x.dead = false) (ha : x.after ≠ 0) (hx : Fine x) {s t : Nm} {f g : Fl} (hst : t ≠ s) (hf : x.fs s = some f) (hg : x.fs t = some g) (hs : s.length ≤ maxLen) (ht : t.length ≤ maxLen) (hb : g.bs.length ≤ 1000000000) :
    Calls Tryz.prog 71 #[.pointer (some ⟨x.d, 0, none⟩), .string (str s), .string (str t)] W fun e W' => e = .returned (.int .i64 0) ∧ DiskAt (x.tick.mv s t f g) W' ∧ Chg x.ft (x.tick.mv s t f g).ft W W' := by
  have HC := Lib.hid (change_some (W := W.alloc (.cells #[.string (str t)] 9)) (h.alloc _) hd ha hx hf hs 84 #[.pointer (some ⟨W.heap.size, 0, none⟩)] (enter_rename _ _ _) (fun W' => DiskAt (x.tick.mv s t f g) W' ∧ Chg x.ft (x.tick.mv s t f g).ft W W') fun W1 h1 hc1 => by
    have hcell : W1.cell? ⟨W.heap.size, 0, none⟩ = some (.string (str t)) := cell_of ((hc1.block _ (by simp) (fun hf => by have := h.lt hf; omega)).trans (heap_alloc_new _ _)) 0
    refine (ren1_c h1 hst hf hg hs ht hb ⟨by have := hx.used; show (-1000000000000 : Int) ≤ x.used; omega, by have := hx.used; show x.used ≤ (1000000000000 : Int); omega⟩ hx.n hcell).mono ?_
    rintro e W2 ⟨rfl, q1, q2⟩
    exact ⟨rfl, q1, ((Chg.of_below ((Below.refl _ _).alloc (Nat.le_refl _) _)).trans hc1).trans q2⟩)
  clear h hd ha hx hst hf hg hs ht hb
  generalize str s = ys at *
  generalize str t = yt at *
  go_enter Tryz.func71, Tryz.ntmps71
  go_wp2_with fail
  refine HC.out.mono ?_
  rintro e W2 ⟨rfl, hq⟩
  have HQ := Lib.hid hq
  clear hq HC
  go_wp2_with fail
  go_ret
  exact ⟨rfl, HQ.out⟩
set_option maxRecDepth 100000 in
theorem rename_none (h : DiskAt x W) (hd : x.dead = false) (ha : x.after ≠ 0) (hx : Fine x) {s : Nm} (t : Nm) (hf : x.fs s = none) (hs : s.length ≤ maxLen) :
    Calls Tryz.prog 71 #[.pointer (some ⟨x.d, 0, none⟩), .string (str s), .string (str t)] W fun e W' => e = .returned (.int .i64 6) ∧ DiskAt x.tick W' ∧ Chg x.ft x.ft W W' := by
  have HC := Lib.hid (change_none (W := W.alloc (.cells #[.string (str t)] 9)) (h.alloc _) hd ha hx hf hs 84 #[.pointer (some ⟨W.heap.size, 0, none⟩)])
  clear h hd ha hx hf hs
  generalize str s = ys at *
  generalize str t = yt at *
  go_enter Tryz.func71, Tryz.ntmps71
  go_wp2_with fail
  refine HC.out.mono ?_
  rintro e W2 ⟨rfl, h1, hc1⟩
  have HQ := Lib.hid (And.intro h1 ((Chg.of_below (F := x.ft) ((Below.refl _ W).alloc (Nat.le_refl _) (.cells #[.string yt] 9))).trans hc1))
  clear h1 hc1 HC
  go_wp2_with fail
  go_ret
  exact ⟨rfl, HQ.out⟩
end
end Go.Proofs.YtialfpkmcafkmaaGreat
