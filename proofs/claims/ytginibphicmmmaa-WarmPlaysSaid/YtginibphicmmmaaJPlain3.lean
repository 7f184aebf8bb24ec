/- Logs among a law's arguments. -/
import Derived.Test.YtginibphicmmmaaJPlain2
import Derived.Test.YtginibphicmmmaaJu
namespace Go.Proofs.Ytginibphicmmmaa
open Go.ChangeShapes Go.WideShapes Go.ChangeAt Go.RowKit Go.Deep Go.Joins
set_option maxRecDepth 100000

theorem cellsLog : Try.prog.cellsOf 33 = 3 := by kernel_rfl
theorem cellsWords : Try.prog.cellsOf 31 = 1 := by kernel_rfl
theorem bytesWord : Try.prog.bytesOf 46 = 32 := by kernel_rfl
theorem bytesLog : Try.prog.bytesOf 33 = 56 := by kernel_rfl
instance : Inhabited Wq := ⟨Wq.zero⟩
instance : Inhabited LogP := ⟨⟨[], [], []⟩⟩
instance : Inhabited (LogP × Value) := ⟨(default, .slice none 0 0)⟩
section
variable {H : Type} {enc : TypeId × Value → H} {w : World} {base : Nat} {held : Bool}
theorem word_of (m : Nat) (cs : List Value) (d : DataW H) (p : List MemPlace) (hl : cs.length = 4) (h : DataW.trod enc Try.prog w base (fun _ => true) held m 46 cs = some (d, p)) : ∃ k : Wq, k.Ok ∧ cs = k.cells := by
  obtain ⟨xs, k, _, hxy, _, hxl, hfs⟩ := DataW.trod_struct Try.underlying46 h
  match xs, hxl, cs, hl with
  | [y0, y1, y2, y3], _, [v0, v1, v2, v3], _ =>
    have g0 := hfs 0 _ rfl
    have g1 := hfs 1 _ rfl
    have g2 := hfs 2 _ rfl
    have g3 := hfs 3 _ rfl
    simp [cellsOfU64] at g0 g1 g2 g3
    obtain ⟨n0, e0, _, w0⟩ := DataW.trod_int Try.underlying44 g0
    obtain ⟨n1, e1, _, w1⟩ := DataW.trod_int Try.underlying44 g1
    obtain ⟨n2, e2, _, w2⟩ := DataW.trod_int Try.underlying44 g2
    obtain ⟨n3, e3, _, w3⟩ := DataW.trod_int Try.underlying44 g3
    obtain ⟨n0, rfl, b0⟩ := u64_of w0
    obtain ⟨n1, rfl, b1⟩ := u64_of w1
    obtain ⟨n2, rfl, b2⟩ := u64_of w2
    obtain ⟨n3, rfl, b3⟩ := u64_of w3
    simp at e0 e1 e2 e3
    subst e0 e1 e2 e3
    exact ⟨⟨n0, n1, n2, n3⟩, ⟨b0, b1, b2, b3⟩, rfl⟩
/-- What is asked of a log that is handed in. -/
structure LogOk (w : World) (u : LogP × Value) : Prop where
  words : WordsAt w u.2 u.1.tops
  addr : u.1.addr.length ≤ 140737488351232
  data : u.1.data.length ≤ 140737488351232
  tops : u.1.tops.length * 32 ≤ 140737488351232
theorem flat_at : ∀ (ws : List Wq) (j : Nat) (u : Value), (wordsC ws)[j]? = some u → ∃ i r k, j = i * 4 + r ∧ r < 4 ∧ ws[i]? = some k ∧ (Wq.cells k)[r]? = some u := by
  intro ws j u hj
  have hl : j < ws.length * 4 := by
    rcases Nat.lt_or_ge j (ws.length * 4) with h | h
    · exact h
    · rw [List.getElem?_eq_none (by rw [wordsC_len]; exact h)] at hj; cases hj
  have hi : j / 4 < ws.length := by omega
  refine ⟨j / 4, j % 4, ws[j / 4], by omega, Nat.mod_lt _ (by omega), List.getElem?_eq_getElem hi, ?_⟩
  rw [← wordsC_at ws (j / 4) _ (List.getElem?_eq_getElem hi) (j % 4) (Nat.mod_lt _ (by omega)), show j / 4 * 4 + j % 4 = j from by omega]
  exact hj
theorem words_of {fuel : Nat} {cs : List Value} {d : DataW H} {p : List MemPlace} (h : DataW.trod enc Try.prog w base (fun _ => true) held fuel 31 cs = some (d, p)) (hz : ∀ x ∈ d.weights Try.prog 31, x ≤ reachBytes) :
    ∃ (tv : Value) (ws : List Wq), cs = [tv] ∧ WordsAt w tv ws ∧ ws.length * 32 ≤ 140737488351232 := by
  obtain ⟨pa, pc, l, e, hR, hlen, hc, hn⟩ := open_rowsT (St := 31) (T := 46) (n := 4) Try.underlying31 cellsOfWord (by omega) Wq.cells Wq.Ok h hz (fun m cs' d' p' hl ht _ => word_of m cs' d' p' hl ht)
  rw [bytesWord, reach_big] at hlen
  refine ⟨_, l, e, ⟨pa, pc, rfl, fun hp => ⟨?_, hn hp⟩, fun ad had => ?_⟩, hlen⟩
  · rcases hR with h | ⟨g, o, h, _⟩
    · exact h
    · rw [hp] at h; cases h
  · rcases hR with rfl | ⟨g, o, h, hg, hall⟩
    · exact ⟨fun h => absurd rfl h, fun j u hj => by simp [wordsC] at hj⟩
    · rw [h] at had
      cases had
      refine ⟨fun _ => hg, fun j u hj => ?_⟩
      obtain ⟨i, r, k, rfl, hr, hi, hu⟩ := flat_at l j u hj
      rw [Go.WideShapes.add_plain, ← Nat.add_assoc, (hall i k hi).2 r hr]
      exact hu
theorem log_of (m : Nat) (cs : List Value) (d : DataW H) (p : List MemPlace) (hl : cs.length = 3) (h : DataW.trod enc Try.prog w base (fun _ => true) held m 33 cs = some (d, p)) (hz : ∀ x ∈ d.weights Try.prog 33, x ≤ reachBytes) :
    ∃ u : LogP × Value, LogOk w u ∧ cs = logE u.1 u.2 := by
  obtain ⟨xs, k, _, hxy, _, hxl, hfs⟩ := DataW.trod_struct Try.underlying33 h
  match xs, hxl, cs, hl with
  | [y0, y1, y2], _, [v0, v1, v2], _ =>
    have g0 := hfs 0 _ rfl
    have g1 := hfs 1 _ rfl
    have g2 := hfs 2 _ rfl
    simp [cellsOfStr, cellsWords] at g0 g1 g2
    simp only [Prod.mk.injEq] at hxy
    have hw : d.weights Try.prog 33 = DataW.weightsEach Try.prog [9, 31, 9] [y0.1, y1.1, y2.1] := by
      rw [hxy.1]
      simp [DataW.weights, Try.underlying33]
    rw [hw] at hz
    obtain ⟨s0, e0, f0, _⟩ := DataW.trod_string Try.underlying9 g0
    obtain ⟨s2, e2, f2, _⟩ := DataW.trod_string Try.underlying9 g2
    obtain ⟨tv, ws, e1, hws, hlen⟩ := words_of g1 (fun x hx => hz x (by simp [DataW.weightsEach, hx]))
    have z0 := hz s0.data.toList.length (by rw [f0]; simp [DataW.weightsEach, DataW.weights])
    have z2 := hz s2.data.toList.length (by rw [f2]; simp [DataW.weightsEach, DataW.weights])
    rw [reach_big] at z0 z2
    simp at e0 e1 e2
    subst e0 e1 e2
    exact ⟨(⟨s0.data.toList, ws, s2.data.toList⟩, v1), ⟨hws, z0, z2, hlen⟩, by simp [logE, str_of]⟩
theorem open_log {r : Reach} {b0 : Nat} {v : Value} {d : DataW H} {p : List MemPlace} (hv : Value.okWide Try.prog w r b0 33 v) (h : DataW.Trod enc Try.prog w base (fun _ => true) held 33 v d p) (hz : ∀ {x}, x ∈ d.weights Try.prog 33 → x ≤ reachBytes) :
    ∃ (x : LogP) (tv : Value), v = logV x tv ∧ LogOk w (x, tv) := by
  obtain ⟨cs, rfl, hsz⟩ := okWide_struct Try.underlying33 hv
  obtain ⟨fuel, hf⟩ := h
  obtain ⟨u, hu, e⟩ := log_of fuel cs.toList d p (by simpa using hsz.trans cellsLog) (by simpa [Value.cells] using hf) (fun x hx => hz hx)
  refine ⟨u.1, u.2, ?_, hu⟩
  have : cs = (logE u.1 u.2).toArray := by rw [← e]
  rw [this]; rfl
/-- What is asked of logs that are handed in: where they lie, and how long their texts are. -/
def LogsHere (w : World) (pa : Option Addr) (ls : List LogP) : Prop := ∀ i l, ls[i]? = some l → ∃ g o tv, pa = some ⟨g, o, none⟩ ∧ g < w.heap.size ∧ w.cell? ⟨g, o + i * 3, none⟩ = some (.string (str l.addr)) ∧ w.cell? ⟨g, o + (i * 3 + 1), none⟩ = some tv ∧ w.cell? ⟨g, o + (i * 3 + 2), none⟩ = some (.string (str l.data)) ∧ WordsAt w tv l.tops
theorem open_logs {r : Reach} {b0 : Nat} {v : Value} {d : DataW H} {p : List MemPlace} (hv : Value.okWide Try.prog w r b0 39 v) (h : DataW.Trod enc Try.prog w base (fun _ => true) held 39 v d p) (hz : ∀ {x}, x ∈ d.weights Try.prog 39 → x ≤ reachBytes) :
    ∃ (a : Option Addr) (c : Nat) (ls : List LogP), v = .slice a ls.length c ∧ LogsHere w a ls ∧ ls.length ≤ c ∧ (a = none → c = 0) ∧ ∀ l ∈ ls, l.addr.length ≤ 140737488351232 ∧ l.data.length ≤ 140737488351232 ∧ l.tops.length * 32 ≤ 140737488351232 := by
  obtain ⟨a0, len, cap, rfl⟩ := okWide_slice Try.underlying39 hv
  obtain ⟨fuel, h⟩ := h
  obtain ⟨pa, pc, l, e, hR, _, hc, hn⟩ := open_rowsT (St := 39) (T := 33) (n := 3) Try.underlying39 cellsLog (by omega) (fun u : LogP × Value => logE u.1 u.2) (LogOk w) h (fun x hx => hz hx) (fun m cs' d' p' hl ht hz' => log_of m cs' d' p' hl ht hz')
  cases e
  have hlen : (l.map Prod.fst).length = l.length := List.length_map _
  refine ⟨_, _, l.map Prod.fst, by rw [hlen], fun i u hu => ?_, by rw [hlen]; exact hc, hn, fun u hu => ?_⟩
  · rw [List.getElem?_map] at hu
    cases hx : l[i]? with
    | none => rw [hx] at hu; cases hu
    | some x =>
      rw [hx] at hu
      simp at hu
      subst hu
      rcases hR with rfl | ⟨g, o, h1, hg, hall⟩
      · simp at hx
      · obtain ⟨hok, hcell⟩ := hall i x hx
        have c0 := hcell 0 (by omega)
        have c1 := hcell 1 (by omega)
        have c2 := hcell 2 (by omega)
        exact ⟨g, o, x.2, h1, hg, c0, by rw [← Nat.add_assoc]; exact c1, by rw [← Nat.add_assoc]; exact c2, hok.words⟩
  · obtain ⟨x, hx, rfl⟩ := List.mem_map.1 hu
    obtain ⟨i, hi⟩ := List.getElem?_of_mem hx
    rcases hR with rfl | ⟨g, o, h1, hg, hall⟩
    · cases hx
    · have hok := (hall i x hi).1
      exact ⟨hok.addr, hok.data, hok.tops⟩
end
end Go.Proofs.Ytginibphicmmmaa
