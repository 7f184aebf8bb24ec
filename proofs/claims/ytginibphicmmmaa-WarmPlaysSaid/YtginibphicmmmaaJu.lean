/- Logs: all logs, with their topics copied. -/
import Derived.Test.YtginibphicmmmaaJt
import Derived.Laws.MakeOwn
namespace Go.Proofs.Ytginibphicmmmaa
open Go.RowKit Go.Maps Go.Shelf Mp

/-- Logs that lie in a slice, wherever. -/
def LogsAt (V : World) (v : Value) (ls : List LogP) : Prop :=
  ∃ pa c, v = .slice pa ls.length c ∧ ∀ i l, ls[i]? = some l → ∃ g o tv, pa = some ⟨g, o, none⟩ ∧ g < V.heap.size ∧ V.cell? ⟨g, o + i * 3, none⟩ = some (.string (str l.addr)) ∧ V.cell? ⟨g, o + (i * 3 + 1), none⟩ = some tv ∧ V.cell? ⟨g, o + (i * 3 + 2), none⟩ = some (.string (str l.data)) ∧ WordsAt V tv l.tops
theorem cell_below {V V' : World} {g j : Nat} (hg : g < V.heap.size) (hb : Below V.heap.size V V') : V'.cell? ⟨g, j, none⟩ = V.cell? ⟨g, j, none⟩ := World.cell?_of_block (hb.block g hg)
theorem LogsAt.below {V V' : World} {v : Value} {ls : List LogP} (h : LogsAt V v ls) (hb : Below V.heap.size V V') : LogsAt V' v ls := by
  obtain ⟨pa, c, rfl, h⟩ := h
  refine ⟨pa, c, rfl, fun i l hl => ?_⟩
  obtain ⟨g, o, tv, h1, h2, h3, h4, h5, h6⟩ := h i l hl
  exact ⟨g, o, tv, h1, Nat.lt_of_lt_of_le h2 hb.size, (cell_below h2 hb).trans h3, (cell_below h2 hb).trans h4, (cell_below h2 hb).trans h5, h6.below hb⟩
theorem TopAt.words {fx : List (Nat × Obj)} {V : World} {t : Value} {ws : List Wq} (h : TopAt fx t ws) (hf : ∀ p ∈ fx, V.heap[p.1]? = some p.2) : WordsAt V t ws := by
  rcases h with ⟨rfl, rfl⟩ | ⟨q, cap, cur, rfl, hm, h1, h2, h3, h4⟩
  · exact ⟨none, 0, rfl, fun _ => ⟨rfl, rfl⟩, fun _ h => (by cases h)⟩
  · have hq := hf _ hm
    refine ⟨_, cap, rfl, fun h => (by cases h), fun ad had => ?_⟩
    cases had
    refine ⟨fun _ => lt_of hq, fun j u hj => ?_⟩
    have e : (⟨q, 0, none⟩ : Addr).add j = ⟨q, j, none⟩ := by unfold Addr.add; split <;> simp_all
    have hjl : j < ws.length * 4 := by
      rcases Nat.lt_or_ge j (ws.length * 4) with h | h
      · exact h
      · rw [List.getElem?_eq_none (by rw [wordsC_len]; exact h)] at hj; cases hj
    rw [e, cell_of hq]
    have e1 : cur[j]? = (cur.toList.take (ws.length * 4))[j]? := by rw [List.getElem?_take_of_lt hjl]; simp
    rw [e1, h4]; exact hj
theorem row_words {V : World} {B : Nat} {t : Value} {ws : List Wq} (h : V.ownsRow B 46 4 t ws.length (wordsC ws)) : WordsAt V t ws := by
  rcases h.2 with ⟨e1, e2⟩ | ⟨g2, cap2, cur, e1, hB, hg, h1, h2, h3, h4⟩
  · exact TopAt.words (fx := []) (Or.inl ⟨List.length_eq_zero_iff.1 e2, e1⟩) (fun _ h => by cases h)
  · exact TopAt.words (fx := [(g2, .cells cur 46 (0, 0))]) (Or.inr ⟨g2, cap2, cur, e1, List.mem_singleton.2 rfl, h1, h2, h3, h4⟩) (fun p hp => by rw [List.mem_singleton] at hp; subst hp; exact hg)
theorem logCells_at : ∀ {ls : List LogP} {ts : List Value} {i : Nat} {l : LogP} {t : Value}, ls[i]? = some l → ts[i]? = some t → ∀ j, j < 3 → (logCells ls ts)[i * 3 + j]? = (logE l t)[j]?
  | [], _, _, _, _, h, _, _, _ => by simp at h
  | _ :: _, [], _, _, _, _, h, _, _ => by simp at h
  | l0 :: ls, t0 :: ts, 0, l, t, h1, h2, j, hj => by
    simp at h1 h2
    subst h1 h2
    unfold logCells
    simp only [List.zipWith_cons_cons, List.flatten_cons]
    rw [List.getElem?_append_left (by simp [logE]; omega)]
    simp
  | l0 :: ls, t0 :: ts, i + 1, l, t, h1, h2, j, hj => by
    have := logCells_at (ls := ls) (ts := ts) (i := i) (l := l) (t := t) (by simpa using h1) (by simpa using h2) j hj
    unfold logCells at this ⊢
    simp only [List.zipWith_cons_cons, List.flatten_cons]
    rw [List.getElem?_append_right (by simp [logE]; omega), ← this]
    congr 1
    simp [logE]
    omega
/-- A set's own logs. -/
theorem WAt.logsAt {x : Sx} {b n : Nat} {L : List Cg} {W : World} (h : WAt x b L n W) : LogsAt W x.lv (logsOf L) := by
  rcases h.lrow.2 with ⟨e1, e2⟩ | ⟨g, cap, cur, e1, _, hg, h1, h2, h3, h4⟩
  · refine ⟨none, 0, by rw [e1, e2], fun i l hl => ?_⟩
    rw [List.length_eq_zero_iff.1 e2] at hl
    simp at hl
  · refine ⟨some ⟨g, 0, none⟩, cap, e1, fun i l hl => ?_⟩
    obtain ⟨t, ht, htop⟩ := h.tops.get hl
    have hi : i < (logsOf L).length := (List.getElem?_eq_some_iff.1 hl).1
    have hc : ∀ j, j < 3 → W.cell? ⟨g, 0 + (i * 3 + j), none⟩ = (logE l t)[j]? := fun j hj => by
      rw [Nat.zero_add, cell_of hg, ← logCells_at hl ht j hj, ← h4]
      rw [List.getElem?_take_of_lt (by omega)]; simp
    exact ⟨g, 0, t, rfl, lt_of hg, hc 0 (by omega), hc 1 (by omega), hc 2 (by omega), htop.words fun p hp => (h.fix p hp).1⟩
/-- The slice that is filled: its first i logs. -/
structure OutI (ls : List LogP) (g0 i : Nat) (W V : World) : Prop where
  below : Below W.heap.size W V
  row : ∃ cur : Array Value, V.heap[g0]? = some (.cells cur 33 (0, 0)) ∧ cur.size = ls.length * 3 ∧ ∀ j l, j < i → ls[j]? = some l → ∃ tv, cur[j * 3]? = some (.string (str l.addr)) ∧ cur[j * 3 + 1]? = some tv ∧ cur[j * 3 + 2]? = some (.string (str l.data)) ∧ WordsAt V tv l.tops ∧ tv.ownBlock ≠ some g0
  own : W.heap.size ≤ g0
theorem OutI.call {ls : List LogP} {g0 i : Nat} {W V V' : World} (h : OutI ls g0 i W V) (hb : Below V.heap.size V V') : OutI ls g0 i W V' := by
  obtain ⟨h1, ⟨cur, h2, h3, h4⟩, h5⟩ := h
  refine ⟨h1.trans (hb.mono h1.size), ⟨cur, (hb.block _ (lt_of h2)).trans h2, h3, fun j l hj hl => ?_⟩, h5⟩
  obtain ⟨tv, k1, k2, k3, k4, k5⟩ := h4 j l hj hl
  exact ⟨tv, k1, k2, k3, k4.below hb, k5⟩
/-- One log more. -/
theorem OutI.fill {ls : List LogP} {g0 i : Nat} {W V : World} (h : OutI ls g0 i W V) {l : LogP} (hl : ls[i]? = some l) {tv : Value} (hw : WordsAt V tv l.tops) (hne : tv.ownBlock ≠ some g0) :
    OutI ls g0 (i + 1) W (((V.setCell ⟨g0, i * 3, none⟩ (.string (str l.addr))).setCell ⟨g0, i * 3 + 1, none⟩ tv).setCell ⟨g0, i * 3 + 2, none⟩ (.string (str l.data))) := by
  obtain ⟨h1, ⟨cur, h2, h3, h4⟩, h5⟩ := h
  have hi : i < ls.length := (List.getElem?_eq_some_iff.1 hl).1
  have hset := heap_setCell_same _ _ (i * 3 + 2) _ _ (.string (str l.data)) (heap_setCell_same _ _ (i * 3 + 1) _ _ tv (heap_setCell_same _ _ (i * 3) _ _ (.string (str l.addr)) h2))
  have hoth : ∀ k, k ≠ g0 → (((V.setCell ⟨g0, i * 3, none⟩ (.string (str l.addr))).setCell ⟨g0, i * 3 + 1, none⟩ tv).setCell ⟨g0, i * 3 + 2, none⟩ (.string (str l.data))).heap[k]? = V.heap[k]? := fun k hk => by
    rw [heap_setCell_other _ _ _ _ (by simpa using hk), heap_setCell_other _ _ _ _ (by simpa using hk), heap_setCell_other _ _ _ _ (by simpa using hk)]
  have hsz : V.heap.size ≤ (((V.setCell ⟨g0, i * 3, none⟩ (.string (str l.addr))).setCell ⟨g0, i * 3 + 1, none⟩ tv).setCell ⟨g0, i * 3 + 2, none⟩ (.string (str l.data))).heap.size := by simp [World.setCell]
  have hkeep : ∀ {tv' : Value} {ws : List Wq}, WordsAt V tv' ws → tv'.ownBlock ≠ some g0 → WordsAt (((V.setCell ⟨g0, i * 3, none⟩ (.string (str l.addr))).setCell ⟨g0, i * 3 + 1, none⟩ tv).setCell ⟨g0, i * 3 + 2, none⟩ (.string (str l.data))) tv' ws := fun hw' hn' => hw'.kept hsz fun _ k hk => hoth k fun e => hn' (e ▸ hk)
  refine ⟨((h1.setCell (p := ⟨g0, i * 3, none⟩) h5 _).setCell (p := ⟨g0, i * 3 + 1, none⟩) h5 _).setCell (p := ⟨g0, i * 3 + 2, none⟩) h5 _, ⟨_, hset, by simp [h3], fun j m hj hm => ?_⟩, h5⟩
  by_cases hji : j = i
  · subst hji
    obtain rfl : l = m := by rw [hl] at hm; cases hm; rfl
    refine ⟨tv, ?_, ?_, ?_, hkeep hw hne, hne⟩
    · rw [Array.getElem?_setIfInBounds_ne (by omega), Array.getElem?_setIfInBounds_ne (by omega), Array.getElem?_setIfInBounds_self]; simp; omega
    · rw [Array.getElem?_setIfInBounds_ne (by omega), Array.getElem?_setIfInBounds_self]; simp; omega
    · rw [Array.getElem?_setIfInBounds_self]; simp; omega
  · obtain ⟨tv', k1, k2, k3, k4, k5⟩ := h4 j m (by omega) hm
    refine ⟨tv', ?_, ?_, ?_, hkeep k4 k5, k5⟩
    · rw [Array.getElem?_setIfInBounds_ne (by omega), Array.getElem?_setIfInBounds_ne (by omega), Array.getElem?_setIfInBounds_ne (by omega)]; exact k1
    · rw [Array.getElem?_setIfInBounds_ne (by omega), Array.getElem?_setIfInBounds_ne (by omega), Array.getElem?_setIfInBounds_ne (by omega)]; exact k2
    · rw [Array.getElem?_setIfInBounds_ne (by omega), Array.getElem?_setIfInBounds_ne (by omega), Array.getElem?_setIfInBounds_ne (by omega)]; exact k3
theorem OutI.done {ls : List LogP} {g0 c : Nat} {W V : World} (h : OutI ls g0 ls.length W V) : LogsAt V (.slice (some ⟨g0, 0, none⟩) ls.length c) ls := by
  obtain ⟨h1, ⟨cur, h2, h3, h4⟩, h5⟩ := h
  refine ⟨_, c, rfl, fun i l hl => ?_⟩
  have hi : i < ls.length := (List.getElem?_eq_some_iff.1 hl).1
  obtain ⟨tv, k1, k2, k3, k4, _⟩ := h4 i l hi hl
  exact ⟨g0, 0, tv, rfl, lt_of h2, by rw [Nat.zero_add, cell_of h2]; exact k1, by rw [Nat.zero_add, cell_of h2]; exact k2, by rw [Nat.zero_add, cell_of h2]; exact k3, k4⟩
end Go.Proofs.Ytginibphicmmmaa
