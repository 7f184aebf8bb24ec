/- Merged: Vt, Vs. -/
import Derived.Test.YtbhijjegkpjkcaaW01
import Derived.Test.YtbhijjegkpjkcaaW08
import Derived.Deep.Strs
import Derived.Test.YtbhijjegkpjkcaaW13
import Derived.Lib.ConvBytes
import Derived.StillTailTactics
section
set_option maxRecDepth 100000
namespace Go.Proofs.Ytbhijjegkpjkcaa
open Go.ChangeShapes Go.WideShapes Go.ChangeAt Go.RowKit Go.Deep Go.Joins

theorem size6 {α : Type} {cs : Array α} (h : cs.size = 6) : ∃ c0 c1 c2 c3 c4 c5, cs = #[c0, c1, c2, c3, c4, c5] := by
  obtain ⟨l⟩ := cs
  match l, h with
  | [c0, c1, c2, c3, c4, c5], _ => exact ⟨c0, c1, c2, c3, c4, c5, rfl⟩
theorem size7 {α : Type} {cs : Array α} (h : cs.size = 7) : ∃ c0 c1 c2 c3 c4 c5 c6, cs = #[c0, c1, c2, c3, c4, c5, c6] := by
  obtain ⟨l⟩ := cs
  match l, h with
  | [c0, c1, c2, c3, c4, c5, c6], _ => exact ⟨c0, c1, c2, c3, c4, c5, c6, rfl⟩
theorem size11 {α : Type} {cs : Array α} (h : cs.size = 11) : ∃ c0 c1 c2 c3 c4 c5 c6 c7 c8 c9 c10, cs = #[c0, c1, c2, c3, c4, c5, c6, c7, c8, c9, c10] := by
  obtain ⟨l⟩ := cs
  match l, h with
  | [c0, c1, c2, c3, c4, c5, c6, c7, c8, c9, c10], _ => exact ⟨c0, c1, c2, c3, c4, c5, c6, c7, c8, c9, c10, rfl⟩
theorem cellsU64 : Try.prog.cellsOf 22 = 1 := by kernel_rfl
theorem cellsStr : Try.prog.cellsOf 9 = 1 := by kernel_rfl
theorem cellsInt : Try.prog.cellsOf 3 = 1 := by kernel_rfl
theorem cellsAcc : Try.prog.cellsOf 40 = 6 := by kernel_rfl
theorem cellsAsk : Try.prog.cellsOf 26 = 7 := by kernel_rfl
theorem cellsReply : Try.prog.cellsOf 42 = 11 := by kernel_rfl
section
variable {H : Type} {enc : TypeId × Value → H} {w : World} {base : Nat} {spare : Nat → Bool} {held : Bool}
/-- Cells that read as d. -/
def Trd (enc : TypeId × Value → H) (w : World) (base : Nat) (spare : Nat → Bool) (held : Bool) (t : TypeId) (cs : List Value) (d : DataW H) (p : List MemPlace) : Prop := ∃ n, DataW.trod enc Try.prog w base spare held n t cs = some (d, p)
theorem trd_word {c0 c1 c2 c3 : Value} {d : DataW H} {p : List MemPlace} (h : Trd enc w base spare held 24 [c0, c1, c2, c3] d p) :
    ∃ n d3 d2 d1 d0 : Nat, c0 = .int .u64 d3 ∧ c1 = .int .u64 d2 ∧ c2 = .int .u64 d1 ∧ c3 = .int .u64 d0 ∧ d = wordD d3 d2 d1 d0 ∧ p = [] ∧ Dig n d0 d1 d2 d3 := by
  obtain ⟨fuel, h⟩ := h
  obtain ⟨y0, y1, y2, y3, n, hx, _, h0, h1, h2, h3⟩ := trod_struct4 Try.underlying24 h
  simp only [cellsU64] at h0 h1 h2 h3
  obtain ⟨n3, e0, rfl, w3⟩ := DataW.trod_int Try.underlying22 h0
  obtain ⟨n2, e1, rfl, w2⟩ := DataW.trod_int Try.underlying22 h1
  obtain ⟨n1, e2, rfl, w1⟩ := DataW.trod_int Try.underlying22 h2
  obtain ⟨n0, e3, rfl, w0⟩ := DataW.trod_int Try.underlying22 h3
  obtain ⟨k3, rfl, l3⟩ := u64_of w3
  obtain ⟨k2, rfl, l2⟩ := u64_of w2
  obtain ⟨k1, rfl, l1⟩ := u64_of w1
  obtain ⟨k0, rfl, l0⟩ := u64_of w0
  simp at e0 e1 e2 e3
  simp at hx
  exact ⟨_, k3, k2, k1, k0, e0, e1, e2, e3, hx.1, hx.2, ⟨l0, l1, l2, l3, rfl⟩⟩
theorem trd_word_mk {n d3 d2 d1 d0 : Nat} (h : Dig n d0 d1 d2 d3) : Trd enc w base spare held 24 [.int .u64 d3, .int .u64 d2, .int .u64 d1, .int .u64 d0] (wordD d3 d2 d1 d0) [] := by
  obtain ⟨m, hm⟩ := shut_word (enc := enc) (w := w) (base := base) (spare := spare) (held := held) h
  exact ⟨m, by simpa [Value.cells] using hm⟩
theorem trd_account {c0 c1 c2 c3 c4 c5 : Value} {d : DataW H} {p : List MemPlace} (h : Trd enc w base spare held 40 [c0, c1, c2, c3, c4, c5] d p) :
    ∃ (k n d3 d2 d1 d0 : Nat) (s : ByteArray), c0 = .int .u64 k ∧ c1 = .int .u64 d3 ∧ c2 = .int .u64 d2 ∧ c3 = .int .u64 d1 ∧ c4 = .int .u64 d0 ∧ c5 = .string s ∧ d = .agg [.lit (.int .u64 k), wordD d3 d2 d1 d0, .lit (.string s.data.toList)] ∧ p = [] ∧ k < M64 ∧ Dig n d0 d1 d2 d3 ∧ s.size ≤ maxLen := by
  obtain ⟨fuel, h⟩ := h
  obtain ⟨y0, y1, y2, n, hx, _, h0, h1, h2⟩ := trod_struct3 Try.underlying40 h
  simp only [cellsU64, cellsWord, cellsStr] at h0 h1 h2
  obtain ⟨k, e0, rfl, w0⟩ := DataW.trod_int Try.underlying22 h0
  obtain ⟨m, d3, d2, d1, d0, q0, q1, q2, q3, ed, ep, hd⟩ := trd_word ⟨n, h1⟩
  obtain ⟨s, e5, rfl, hs⟩ := DataW.trod_string Try.underlying9 h2
  obtain ⟨k0, rfl, l0⟩ := u64_of w0
  simp at e0 e5
  simp [ed, ep] at hx
  exact ⟨k0, m, d3, d2, d1, d0, s, e0, q0, q1, q2, q3, e5, hx.1, hx.2, l0, hd, hs⟩
theorem trd_account_mk {k n d3 d2 d1 d0 : Nat} {s : ByteArray} (hk : k < M64) (h : Dig n d0 d1 d2 d3) (hs : s.size ≤ maxLen) :
    Trd enc w base spare held 40 [.int .u64 k, .int .u64 d3, .int .u64 d2, .int .u64 d1, .int .u64 d0, .string s] (.agg [.lit (.int .u64 k), wordD d3 d2 d1 d0, .lit (.string s.data.toList)]) [] := by
  obtain ⟨m, hm⟩ := trd_word_mk (enc := enc) (w := w) (base := base) (spare := spare) (held := held) h
  exact ⟨m + 1 + 1, trod_struct3_mk Try.underlying40 (by rw [cellsAcc]; rfl) (y0 := (_, [])) (y1 := (_, [])) (y2 := (_, []))
    (by simp only [cellsU64]; exact trod_int_mk m Try.underlying22 (wf_of hk)) (by simp only [cellsWord]; exact DataW.trod_le (Nat.le_succ m) hm) (by simp only [cellsStr]; exact show DataW.trod enc Try.prog w base spare held (m + 1) 9 [.string s] = _ by simp [DataW.trod, Try.underlying9, hs])⟩
theorem open_account {r : Reach} {b0 : Nat} {v : Value} {d : DataW H} {p : List MemPlace} (hv : Value.okWide Try.prog w r b0 40 v) (h : DataW.Trod enc Try.prog w base spare held 40 v d p) :
    ∃ (k n d3 d2 d1 d0 : Nat) (s : ByteArray), v = .agg #[.int .u64 k, .int .u64 d3, .int .u64 d2, .int .u64 d1, .int .u64 d0, .string s] ∧ d = .agg [.lit (.int .u64 k), wordD d3 d2 d1 d0, .lit (.string s.data.toList)] ∧ p = [] ∧ k < M64 ∧ Dig n d0 d1 d2 d3 ∧ s.size ≤ maxLen := by
  obtain ⟨cs, rfl, hsz⟩ := okWide_struct Try.underlying40 hv
  obtain ⟨c0, c1, c2, c3, c4, c5, rfl⟩ := size6 (hsz.trans cellsAcc)
  obtain ⟨fuel, hf⟩ := h
  obtain ⟨k, n, d3, d2, d1, d0, s, rfl, rfl, rfl, rfl, rfl, rfl, hd, hp, h1, h2, h3⟩ := trd_account ⟨fuel, by simpa [Value.cells] using hf⟩
  exact ⟨k, n, d3, d2, d1, d0, s, rfl, hd, hp, h1, h2, h3⟩
theorem shut_account {k n d3 d2 d1 d0 : Nat} {s : ByteArray} (hk : k < M64) (h : Dig n d0 d1 d2 d3) (hs : s.size ≤ maxLen) :
    DataW.Trod enc Try.prog w base spare held 40 (.agg #[.int .u64 k, .int .u64 d3, .int .u64 d2, .int .u64 d1, .int .u64 d0, .string s]) (.agg [.lit (.int .u64 k), wordD d3 d2 d1 d0, .lit (.string s.data.toList)]) [] := by
  obtain ⟨m, hm⟩ := trd_account_mk (enc := enc) (w := w) (base := base) (spare := spare) (held := held) hk h hs
  exact ⟨m, by simpa [Value.cells] using hm⟩
theorem open_askT {r : Reach} {b0 : Nat} {v : Value} {d : DataW H} {p : List MemPlace} (hv : Value.okWide Try.prog w r b0 26 v) (h : DataW.Trod enc Try.prog w base spare held 26 v d p) :
    ∃ (k n d3 d2 d1 d0 : Nat) (s : ByteArray) (z : Int), v = .agg #[.int .u64 k, .string s, .int .u64 d3, .int .u64 d2, .int .u64 d1, .int .u64 d0, .int .i64 z] ∧ d = .agg [.lit (.int .u64 k), .lit (.string s.data.toList), wordD d3 d2 d1 d0, .lit (.int .i64 z)] ∧ p = [] ∧ k < M64 ∧ Dig n d0 d1 d2 d3 ∧ s.size ≤ maxLen ∧ (Lit.int .i64 z).wf = true := by
  obtain ⟨cs, rfl, hsz⟩ := okWide_struct Try.underlying26 hv
  obtain ⟨c0, c1, c2, c3, c4, c5, c6, rfl⟩ := size7 (hsz.trans cellsAsk)
  obtain ⟨fuel, hf⟩ := h
  have hf' : DataW.trod enc Try.prog w base spare held fuel 26 [c0, c1, c2, c3, c4, c5, c6] = some (d, p) := by simpa [Value.cells] using hf
  obtain ⟨y0, y1, y2, y3, n, hx, _, h0, h1, h2, h3⟩ := trod_struct4 Try.underlying26 hf'
  simp only [cellsU64, cellsWord, cellsStr, cellsInt] at h0 h1 h2 h3
  obtain ⟨k, e0, rfl, w0⟩ := DataW.trod_int Try.underlying22 h0
  obtain ⟨s, e1, rfl, hs⟩ := DataW.trod_string Try.underlying9 h1
  obtain ⟨m, d3, d2, d1, d0, q0, q1, q2, q3, ed, ep, hd⟩ := trd_word ⟨n, h2⟩
  obtain ⟨z, e6, rfl, w6⟩ := DataW.trod_int Try.underlying3 h3
  obtain ⟨k0, rfl, l0⟩ := u64_of w0
  simp at e0 e1 e6
  subst e0 e1 q0 q1 q2 q3 e6
  simp [ed, ep] at hx
  exact ⟨k0, m, d3, d2, d1, d0, s, z, rfl, hx.1, hx.2, l0, hd, hs, w6⟩
theorem shut_askT {k n d3 d2 d1 d0 : Nat} {s : ByteArray} {z : Int} (hk : k < M64) (h : Dig n d0 d1 d2 d3) (hs : s.size ≤ maxLen) (hz : (Lit.int .i64 z).wf = true) :
    DataW.Trod enc Try.prog w base spare held 26 (.agg #[.int .u64 k, .string s, .int .u64 d3, .int .u64 d2, .int .u64 d1, .int .u64 d0, .int .i64 z]) (.agg [.lit (.int .u64 k), .lit (.string s.data.toList), wordD d3 d2 d1 d0, .lit (.int .i64 z)]) [] := by
  obtain ⟨m, hm⟩ := trd_word_mk (enc := enc) (w := w) (base := base) (spare := spare) (held := held) h
  have ht := trod_struct4_mk (enc := enc) (w := w) (base := base) (spare := spare) (held := held) (n := m + 1) (cs := [.int .u64 k, .string s, .int .u64 d3, .int .u64 d2, .int .u64 d1, .int .u64 d0, .int .i64 z]) Try.underlying26 (by rw [cellsAsk]; rfl) (y0 := (.lit (.int .u64 k), [])) (y1 := (.lit (.string s.data.toList), [])) (y2 := (wordD d3 d2 d1 d0, [])) (y3 := (.lit (.int .i64 z), []))
    (by simp only [cellsU64]; exact trod_int_mk m Try.underlying22 (wf_of hk)) (by simp only [cellsStr]; exact show DataW.trod enc Try.prog w base spare held (m + 1) 9 [.string s] = _ by simp [DataW.trod, Try.underlying9, hs]) (by simp only [cellsWord]; exact DataW.trod_le (Nat.le_succ m) hm) (by simp only [cellsInt]; exact trod_int_mk m Try.underlying3 hz)
  exact ⟨_, by simpa [Value.cells] using ht⟩
theorem open_replyT {r : Reach} {b0 : Nat} {v : Value} {d : DataW H} {p : List MemPlace} (hv : Value.okWide Try.prog w r b0 42 v) (h : DataW.Trod enc Try.prog w base spare held 42 v d p) :
    ∃ (i k n d3 d2 d1 d0 : Nat) (s : ByteArray) (m e3 e2 e1 e0 : Nat), v = .agg #[.int .u64 i, .int .u64 k, .int .u64 d3, .int .u64 d2, .int .u64 d1, .int .u64 d0, .string s, .int .u64 e3, .int .u64 e2, .int .u64 e1, .int .u64 e0] ∧
      d = .agg [.lit (.int .u64 i), .agg [.lit (.int .u64 k), wordD d3 d2 d1 d0, .lit (.string s.data.toList)], wordD e3 e2 e1 e0] ∧ p = [] ∧ i < M64 ∧ k < M64 ∧ Dig n d0 d1 d2 d3 ∧ s.size ≤ maxLen ∧ Dig m e0 e1 e2 e3 := by
  obtain ⟨cs, rfl, hsz⟩ := okWide_struct Try.underlying42 hv
  obtain ⟨c0, c1, c2, c3, c4, c5, c6, c7, c8, c9, c10, rfl⟩ := size11 (hsz.trans cellsReply)
  obtain ⟨fuel, hf⟩ := h
  have hf' : DataW.trod enc Try.prog w base spare held fuel 42 [c0, c1, c2, c3, c4, c5, c6, c7, c8, c9, c10] = some (d, p) := by simpa [Value.cells] using hf
  obtain ⟨y0, y1, y2, n, hx, _, h0, h1, h2⟩ := trod_struct3 Try.underlying42 hf'
  simp only [cellsU64, cellsWord, cellsAcc] at h0 h1 h2
  obtain ⟨i, e0, rfl, w0⟩ := DataW.trod_int Try.underlying22 h0
  obtain ⟨k, m, d3, d2, d1, d0, s, q0, q1, q2, q3, q4, q5, ed, ep, hk, hd, hs⟩ := trd_account ⟨n, h1⟩
  obtain ⟨m2, f3, f2, f1, f0, r0, r1, r2, r3, ed2, ep2, hd2⟩ := trd_word ⟨n, h2⟩
  obtain ⟨i0, rfl, l0⟩ := u64_of w0
  simp at e0
  subst e0 q0 q1 q2 q3 q4 q5 r0 r1 r2 r3
  simp [ed, ep, ed2, ep2] at hx
  exact ⟨i0, k, m, d3, d2, d1, d0, s, m2, f3, f2, f1, f0, rfl, hx.1, hx.2, l0, hk, hd, hs, hd2⟩
theorem shut_replyT {i k n d3 d2 d1 d0 : Nat} {s : ByteArray} {m e3 e2 e1 e0 : Nat} (hi : i < M64) (hk : k < M64) (h : Dig n d0 d1 d2 d3) (hs : s.size ≤ maxLen) (h2 : Dig m e0 e1 e2 e3) :
    DataW.Trod enc Try.prog w base spare held 42 (.agg #[.int .u64 i, .int .u64 k, .int .u64 d3, .int .u64 d2, .int .u64 d1, .int .u64 d0, .string s, .int .u64 e3, .int .u64 e2, .int .u64 e1, .int .u64 e0])
      (.agg [.lit (.int .u64 i), .agg [.lit (.int .u64 k), wordD d3 d2 d1 d0, .lit (.string s.data.toList)], wordD e3 e2 e1 e0]) [] := by
  obtain ⟨a, ha⟩ := trd_account_mk (enc := enc) (w := w) (base := base) (spare := spare) (held := held) hk h hs
  obtain ⟨b, hb⟩ := trd_word_mk (enc := enc) (w := w) (base := base) (spare := spare) (held := held) h2
  have ht := trod_struct3_mk (enc := enc) (w := w) (base := base) (spare := spare) (held := held) (n := a + b + 1) (cs := [.int .u64 i, .int .u64 k, .int .u64 d3, .int .u64 d2, .int .u64 d1, .int .u64 d0, .string s, .int .u64 e3, .int .u64 e2, .int .u64 e1, .int .u64 e0]) Try.underlying42 (by rw [cellsReply]; rfl)
    (y0 := (.lit (.int .u64 i), [])) (y1 := (.agg [.lit (.int .u64 k), wordD d3 d2 d1 d0, .lit (.string s.data.toList)], [])) (y2 := (wordD e3 e2 e1 e0, []))
    (by simp only [cellsU64]; exact trod_int_mk (a + b) Try.underlying22 (wf_of hi)) (by simp only [cellsAcc]; exact DataW.trod_le (show a ≤ a + b + 1 by omega) ha) (by simp only [cellsWord]; exact DataW.trod_le (show b ≤ a + b + 1 by omega) hb)
  exact ⟨_, by simpa [Value.cells] using ht⟩
end
end Go.Proofs.Ytbhijjegkpjkcaa
end
section
namespace Go.Proofs.Ytbhijjegkpjkcaa
open Go.RowKit

/-- Bytes in a block, that may be written. -/
def Bt (g n : Nat) (P : Nat → Nat) (W : World) : Prop := ∀ j, j < n → W.cell? ⟨g, j, none⟩ = some (.int .u8 (P j : Nat)) ∧ W.frozen? ⟨g, j, none⟩ = false
theorem Bt.later {g n : Nat} {P : Nat → Nat} {W W' : World} (h : Bt g n P W) (hg : g < W.heap.size) (hb : Below W.heap.size W W') : Bt g n P W' := fun j hj =>
  ⟨(World.cell?_of_block (hb.block g hg)).trans (h j hj).1, (World.frozen?_of_block (hb.block g hg)).trans (h j hj).2⟩
theorem Bt.set {g n : Nat} {P : Nat → Nat} {W : World} (h : Bt g n P W) {k : Nat} (hk : k < n) (v : Nat) : Bt g n (upd P k v) (W.setCell ⟨g, k, none⟩ (.int .u8 (v : Nat))) := fun j hj => by
  refine ⟨?_, by rw [World.frozen?_setCell]; exact (h j hj).2⟩
  by_cases e : j = k
  · subst e
    rw [World.cell?_setCell_same _ _ _ (h j hj).1, upd_same]
  · rw [World.cell?_setCell_other _ _ _ _ (by intro e'; injection e' with e1 e2; omega), upd_other _ _ e]
    exact (h j hj).1
theorem Bt.congr {g n : Nat} {P Q : Nat → Nat} {W : World} (h : Bt g n P W) (e : ∀ j, j < n → P j = Q j) : Bt g n Q W := fun j hj => by rw [← e j hj]; exact h j hj
theorem Bt.conv {g n : Nat} {P : Nat → Nat} {W : World} (h : Bt g n P W) (hP : ∀ j, P j < 256) (cap : Nat) :
    (convert 33 9 (.slice (some ⟨g, 0, none⟩) n cap)).run Try.prog W = .ok (.string (txt n P)) W := by
  have := Lib.run_convert_whole (P := Try.prog) W 33 5 9 Try.underlying33 Try.underlying5 Try.underlying9 g 0 (txt n P) (by
    intro i hi
    rw [txt_size] at hi
    have e : (txt n P)[i]'(by rw [txt_size]; exact hi) = UInt8.ofNat (P i) := by simp [txt, ByteArray.getElem_eq_getElem_data]
    rw [Nat.zero_add, (h i hi).1, e, UInt8.toNat_ofNat_of_lt' (hP i)]) cap
  rwa [txt_size] at this
theorem bytes_of (s : ByteArray) (w : World) :
    ∃ cap W, (convert 9 33 (.string s)).run Try.prog w = .ok (.slice (some ⟨w.heap.size, 0, none⟩) s.size cap) W ∧ Bt w.heap.size s.size (byteAtK s) W ∧ Below w.heap.size w W ∧ w.heap.size < W.heap.size := by
  refine ⟨_, _, Lib.run_convert_string_bytes (P := Try.prog) w 9 33 5 s Try.underlying9 Try.underlying33 Try.underlying5, ?_, ?_, ?_⟩
  · intro j hj
    refine ⟨?_, ?_⟩
    · rw [Lib.bytesWorld_cell w _ s j hj]
      unfold byteAtK
      rw [dif_pos hj]
      simp [List.getD, hj, ByteArray.getElem_eq_getElem_data]
    · have h := Lib.bytesWorld_at_new w 5 s
      have hsz : (Lib.bytesCells w 5 s).size ≥ s.size := by simp [Lib.bytesCells]
      simp [World.frozen?, h]
      try omega
  · exact ⟨rfl, rfl, rfl, Nat.le_of_lt (by rw [Lib.bytesWorld_size]; omega), fun k hk => Lib.bytesWorld_at_old w _ s k hk⟩
  · rw [Lib.bytesWorld_size]; omega
theorem txt_turn {s : List UInt8} {m X : Nat} (hX : X < 256) (hm : m < s.length) : txt s.length (upd (byteAtK (str s)) m (byteAtK (str s) m ^^^ X)) = str (turnB s m (UInt8.ofNat X)) := by
  rw [← txt_byteAt (str (turnB s m (UInt8.ofNat X))), str_size, turnB_len]
  refine txt_congr fun j hj => ?_
  rw [byteAt_strB, byteAt_strB]
  unfold upd turnB
  by_cases e : j = m
  · subst e
    rw [if_pos rfl]
    simp only [List.getD_eq_getElem?_getD, List.getElem?_set_self hj, Option.getD_some]
    rw [UInt8.toNat_xor, UInt8.toNat_ofNat_of_lt' hX]
  · rw [if_neg e, byteAt_strB]
    simp only [List.getD_eq_getElem?_getD]
    rw [List.getElem?_set_ne (by omega)]
theorem wpList_min2 {ops : Array Oper} {rest : List Oper} {o : Oper} {a : Act} {Q : Exit → Act → World → Prop} {W : World} (hgd : o.guard = none) (x y : Operand) (ts : Array TypeId)
    (ho : o.op = .call { callee := .builtin .min, args := #[x, y], argTypes := ts }) (i j : Int) (hx : a.eval x = .int .i64 i) (hy : a.eval y = .int .i64 j)
    (h : ∀ q : Int, q = (if j < i then j else i) → wpList Try.prog ops Q rest (a.put o.dst (.int .i64 q)) W) : wpList Try.prog ops Q (o :: rest) a W := by
  refine wpList_plain hgd fun K hK => ?_
  have hr := run_min_int2 (P := Try.prog) (w := W) ts o.type .i64 .i64 i j
  unfold Oper.wp execOp
  simp only [ho, resolve, invoke, builtin, Sem.run_bind, Sem.run_pure, Result.andThen_ok, List.map_toArray, List.map_cons, List.map_nil, hx, hy, hr]
  exact hK _ _ (h _ rfl)

/-- Blocks that stay as they are. -/
structure Kb (w : World) (L : List (Nat × Array Value × TypeId)) (W : World) : Prop where
  below : Below w.heap.size w W
  blk : ∀ p ∈ L, W.heap[p.1]? = some (.cells p.2.1 p.2.2 (0, 0))
section
variable {w W W' : World} {L : List (Nat × Array Value × TypeId)}
theorem Kb.call (h : Kb w L W) (hb : Below W.heap.size W W') : Kb w L W' :=
  ⟨h.below.trans (hb.mono h.below.size), fun p hp => (hb.block _ (lt_of (h.blk p hp))).trans (h.blk p hp)⟩
theorem Kb.box (h : Kb w L W) (cs : Array Value) (t : TypeId) : Kb w ((W.heap.size, cs, t) :: L) (W.alloc (.cells cs t)) := by
  have hc := h.call ((Below.refl _ _).alloc (Nat.le_refl _) (.cells cs t))
  refine ⟨hc.below, fun p hp => ?_⟩
  rcases List.mem_cons.1 hp with rfl | hp
  · exact heap_alloc_new _ _
  · exact hc.blk p hp
theorem Kb.at (h : Kb w L W) {b : Nat} (hb : W.heap.size = b) (cs : Array Value) (t : TypeId) : Kb w ((b, cs, t) :: L) (W.alloc (.cells cs t)) := hb ▸ h.box cs t
theorem Kb.sub {L' : List (Nat × Array Value × TypeId)} (h : Kb w L W) (hs : ∀ p ∈ L', p ∈ L) : Kb w L' W := ⟨h.below, fun p hp => h.blk p (hs p hp)⟩
theorem Kb.ne (h : Kb w L W) : ∀ p ∈ L, p.1 ≠ W.heap.size := fun p hp => Nat.ne_of_lt (lt_of (h.blk p hp))
theorem Kb.start (w : World) : Kb w [] w := ⟨Below.refl _ _, by simp⟩
theorem Kb.get (h : Kb w L W) {b : Nat} {cs : Array Value} {t : TypeId} (hm : (b, cs, t) ∈ L) : W.heap[b]? = some (.cells cs t (0, 0)) := h.blk _ hm
/-- A block that is not told of is written. -/
theorem Kb.set (h : Kb w L W) {b i : Nat} (hb : w.heap.size ≤ b) (hn : ∀ p ∈ L, p.1 ≠ b) (u : Value) : Kb w L (W.setCell ⟨b, i, none⟩ u) :=
  ⟨h.below.setCell (p := ⟨b, i, none⟩) hb u, fun p hp => (heap_setCell_other _ _ _ _ (by simpa using hn p hp)).trans (h.blk p hp)⟩
end
def backR (id n b : Nat) (c : List UInt8) : ReplyP := ⟨id, n, b, c.take 300, 0⟩
theorem backR_ok {id n b : Nat} {c : List UInt8} (hi : id < M64) (hn : n < M64) (hb : b < W256) : (backR id n b c).Wf ∧ (backR id n b c).Ok 1 :=
  ⟨⟨hi, hn, hb, by show 0 < W256; decide⟩, by show (c.take 300).length ≤ 24576; rw [List.length_take]; omega, Or.inl ⟨rfl, rfl⟩⟩
theorem backR_v (id n b : Nat) (c : List UInt8) : replyV (backR id n b c) = .agg #[.int .u64 id, .int .u64 n, .int .u64 (l3 b : Nat), .int .u64 (l2 b : Nat), .int .u64 (l1 b : Nat), .int .u64 (l0 b : Nat), .string (str (c.take 300)), .int .u64 0, .int .u64 0, .int .u64 0, .int .u64 0] := by
  unfold replyV backR
  simp [lim_zero]
theorem body_ne (kind : Int) (r : ReplyP) : 0 < (r.body kind).length := by
  unfold ReplyP.body ReplyP.it
  have h1 : (hd 192 (r.fo kind).enc.length ++ (r.fo kind).enc).length = (hd 192 (r.fo kind).enc.length).length + (r.fo kind).enc.length := List.length_append
  have h2 : 0 < (hd 192 (r.fo kind).enc.length).length := by unfold hd; split <;> simp
  show 0 < (hd 192 (r.fo kind).enc.length ++ (r.fo kind).enc).length
  omega

theorem bitF {L bit K M s : Nat} (hL : 5 ≤ L ∧ L ≤ 24707) (hK : K = bit % (8 * L)) (hM : M = K / 8) (hs : s = K % 8) :
    (wrap64 (8 * (L : Int)) = 8 * (L : Int) ∧ 8 * (L : Int) % 4294967296 = 8 * (L : Int) ∧ (bit : Int) % (8 * (L : Int)) = (K : Int) ∧ ¬ (8 * (L : Int)) = 0 ∧ wrap64 (K : Int) = (K : Int) ∧ ¬ (L : Int) < 5 ∧ 5 ≤ (L : Int)) ∧
    ((K : Int).tdiv 8 = (M : Int) ∧ (K : Int) / 8 = (M : Int) ∧ (K : Int).tmod 8 = (s : Int) ∧ (K : Int) % 8 = (s : Int) ∧ (M : Int) < (L : Int) ∧ (0 : Int) ≤ (M : Int) ∧ IntKind.i64.wrap (M : Int) = (M : Int) ∧ IntKind.i64.wrap (s : Int) = (s : Int)) ∧ M < L := by
  have hKlt : K < 8 * L := by rw [hK]; exact Nat.mod_lt _ (by omega)
  have hmod : (bit : Int) % (8 * (L : Int)) = (K : Int) := by rw [hK]; simp
  clear hK
  refine ⟨⟨IntWalk.wrap64_in _ (by omega), by omega, hmod, by omega, IntWalk.wrap64_in _ (by omega), by omega, by omega⟩, ⟨?_, by omega, ?_, by omega, by omega, by omega, IntWalk.i64_in _ (by omega), IntWalk.i64_in _ (by omega)⟩, by omega⟩
  · rw [Int.tdiv_eq_ediv_of_nonneg (by omega)]; omega
  · rw [Int.tmod_eq_emod_of_nonneg (by omega)]; omega
set_option maxRecDepth 100000 in
set_option maxHeartbeats 2000000 in
theorem back_c (id : Nat) (hi : id < M64) (k : Nat) (hk : k < W256) (n : Nat) (hn : n < M64) (b : Nat) (hb : b < W256) (c : List UInt8) (v : Nat) (hv : v < W256) (bit : Nat) (hbit : bit < 2 ^ 32) (w : World) : Calls Try.prog 5
    #[.int .u64 id, .agg #[.int .u64 (l3 k : Nat), .int .u64 (l2 k : Nat), .int .u64 (l1 k : Nat), .int .u64 (l0 k : Nat)], .agg #[.int .u64 n, .int .u64 (l3 b : Nat), .int .u64 (l2 b : Nat), .int .u64 (l1 b : Nat), .int .u64 (l0 b : Nat), .string (str c)], .agg #[.int .u64 (l3 v : Nat), .int .u64 (l2 v : Nat), .int .u64 (l1 v : Nat), .int .u64 (l0 v : Nat)], .int .u32 bit] w fun e w' => e = .returned (.bool true) ∧ Below w.heap.size w w' := by
  obtain ⟨wa, oa⟩ := slotA_ok hi hk
  obtain ⟨wr, or'⟩ := backR_ok (c := c) hi hn hb
  obtain ⟨ws, os'⟩ := slotR_ok hi hv
  have hla := body_ne 1 (backR id n b c)
  have hlr := reply_len (kind := 1) (a := backR id n b c)
  have hbr := ReplyP.body_len wr or'
  obtain ⟨L, hL⟩ : ∃ L, L = ((backR id n b c).enc 1).length := ⟨_, rfl⟩
  have hLb : 5 ≤ L ∧ L ≤ 24707 := by omega
  obtain ⟨K, hK⟩ : ∃ K, K = bit % (8 * L) := ⟨_, rfl⟩
  have hKlt : K < 8 * L := by rw [hK]; exact Nat.mod_lt _ (by omega)
  obtain ⟨M, hM⟩ : ∃ M, M = K / 8 := ⟨_, rfl⟩
  obtain ⟨s, hs⟩ : ∃ s, s = K % 8 := ⟨_, rfl⟩
  have hML : M < L := by omega
  have hs8 : s < 8 := by omega
  obtain ⟨X, hX⟩ : ∃ X, X = 2 ^ s := ⟨_, rfl⟩
  have hX2 : IntKind.u8.wrap ((2 : Int) ^ s) = (X : Int) ∧ X < 256 ∧ X ≠ 0 := by
    have : s = 0 ∨ s = 1 ∨ s = 2 ∨ s = 3 ∨ s = 4 ∨ s = 5 ∨ s = 6 ∨ s = 7 := by omega
    rcases this with rfl | rfl | rfl | rfl | rfl | rfl | rfl | rfl <;> subst hX <;> decide
  have hx0 : UInt8.ofNat X ≠ 0 := fun h => hX2.2.2 (by have := congrArg UInt8.toNat h; rw [UInt8.toNat_ofNat_of_lt' hX2.2.1] at this; exact this)
  have C1 := Lib.hid (fun W => putAsk_ok wa oa W)
  have C2 := Lib.hid (fun W => getAsk_some wa oa W)
  have C3 := Lib.hid (fun W => putReply_ok wr or' W)
  have C4 := Lib.hid (fun W => getReply_some wr or' W)
  have C5 := Lib.hid (fun W => getReply_none (kind := 2) (reply_other (r := backR id n b c)) W)
  have C6 := Lib.hid (fun W => putReply_ok ws os' W)
  have C7 := Lib.hid (fun W => getReply_some ws os' W)
  have C8 := Lib.hid (fun W => getReply_none (reply_turn (kind := 1) (r := backR id n b c) (j := M) (by omega) hx0) W)
  have E1 := eq_ask (slotA id k)
  have E2 := eq_reply (backR id n b c)
  have E3 := eq_reply (slotR id v)
  rw [slotA_v] at C1 C2 E1
  rw [backR_v] at C3 C4 E2
  rw [slotR_v] at C6 C7 E3
  have htt := txt_turn (s := (backR id n b c).enc 1) (m := M) hX2.2.1 (by omega)
  rw [← hL] at htt
  have hcs : (str c).size = c.length := str_size c
  obtain ⟨m, hm⟩ : ∃ m, m = min (str c).size 300 := ⟨_, rfl⟩
  have hcut : (str c).extract 0 m = str (c.take 300) := by
    rw [str_take, hm, hcs]
    congr 1
    rcases Nat.lt_or_ge c.length 300 with h | h
    · rw [Nat.min_eq_left (by omega), List.take_of_length_le (by omega), List.take_of_length_le (by omega)]
    · rw [Nat.min_eq_right h]
  have hts : (str ((backR id n b c).enc 1)).size = L := by rw [str_size, hL]
  generalize str (turnB ((backR id n b c).enc 1) M (UInt8.ofNat X)) = tt at *
  generalize str ((backR id n b c).enc 1) = t1 at *
  generalize str (slotA id k).enc = s1 at *
  generalize str ((slotR id v).enc 2) = u1 at *
  generalize str (c.take 300) = cc at *
  clear hcs
  have HM := Lib.hid (show (str c).size ≤ 300 ∧ m = (str c).size ∨ 300 < (str c).size ∧ m = 300 by rcases Nat.lt_or_ge 300 (str c).size with h | h; (· exact Or.inr ⟨h, by rw [hm, Nat.min_eq_right (Nat.le_of_lt h)]⟩); (· exact Or.inl ⟨h, by rw [hm, Nat.min_eq_left h]⟩))
  generalize str c = cy at *
  have HP := Lib.hid (And.intro hX2 htt)
  have HF := Lib.hid (bitF hLb hK hM hs)
  have K0 := Lib.hid ((((Kb.start w).box #[.int .u64 (l3 k : Nat), .int .u64 (l2 k : Nat), .int .u64 (l1 k : Nat), .int .u64 (l0 k : Nat)] 24).box #[.int .u64 n, .int .u64 (l3 b : Nat), .int .u64 (l2 b : Nat), .int .u64 (l1 b : Nat), .int .u64 (l0 b : Nat), .string cy] 40).box #[.int .u64 (l3 v : Nat), .int .u64 (l2 v : Nat), .int .u64 (l1 v : Nat), .int .u64 (l0 v : Nat)] 24)
  simp only [alloc_size] at K0
  have HLb := Lib.hid hLb
  clear hX hX2 htt hM hs hKlt hML hs8 hK hm hx0 wa oa wr or' ws os' hla hlr hbr hi hn hb hk hv hL hLb
  go_enter Try.func5, Try.ntmps5
  go_wp2_with fail
  refine (examples_c _).mono ?_
  rintro e w1 ⟨rfl, hb⟩
  have K1 := Lib.hid (K0.out.call hb)
  clear hb K0
  obtain ⟨⟨c0, c1, c2, c3⟩, z0, z1, z2, z3⟩ := cells4 (K1.out.get (.tail _ (.tail _ (.head _))))
  go_wp2_with fail
  refine (C1.out _).mono ?_
  rintro e w2 ⟨rfl, hb⟩
  have K2 := Lib.hid ((K1.out.box #[.int .u64 id, .string ⟨#[48, 49, 50, 51, 52, 53, 54, 55, 56, 57, 48, 49, 50, 51, 52, 53, 54, 55, 56, 57]⟩, .int .u64 (l3 k : Nat), .int .u64 (l2 k : Nat), .int .u64 (l1 k : Nat), .int .u64 (l0 k : Nat), .int .i64 2] 26).call hb)
  clear c0 c1 c2 c3 z0 z1 z2 z3 hb
  have HG0 := Lib.hid (show w.heap.size + 1 + 1 < w1.heap.size from lt_of (K1.out.get (.head _)))
  clear K1
  generalize hg1 : w1.heap.size = g1 at *
  go_wp2_with fail
  refine (C2.out _).mono ?_
  rintro e w3 ⟨rfl, hb⟩
  have K3 := Lib.hid ((K2.out.call hb).box #[.int .u64 id, .string ⟨#[48, 49, 50, 51, 52, 53, 54, 55, 56, 57, 48, 49, 50, 51, 52, 53, 54, 55, 56, 57]⟩, .int .u64 (l3 k : Nat), .int .u64 (l2 k : Nat), .int .u64 (l1 k : Nat), .int .u64 (l0 k : Nat), .int .i64 2] 26)
  have HG1 := Lib.hid (show w.heap.size + 1 + 1 < g1 ∧ g1 < w3.heap.size by
    have h1 := lt_of (K2.out.get (.head _))
    have h2 := hb.size
    have h3 := HG0.out
    omega)
  clear hb K2
  have HD := Lib.hid (show ∀ p ∈ ([(w3.heap.size, #[.int .u64 id, .string ⟨#[48, 49, 50, 51, 52, 53, 54, 55, 56, 57, 48, 49, 50, 51, 52, 53, 54, 55, 56, 57]⟩, .int .u64 (l3 k : Nat), .int .u64 (l2 k : Nat), .int .u64 (l1 k : Nat), .int .u64 (l0 k : Nat), .int .i64 2], 26), (g1, #[.int .u64 id, .string ⟨#[48, 49, 50, 51, 52, 53, 54, 55, 56, 57, 48, 49, 50, 51, 52, 53, 54, 55, 56, 57]⟩, .int .u64 (l3 k : Nat), .int .u64 (l2 k : Nat), .int .u64 (l1 k : Nat), .int .u64 (l0 k : Nat), .int .i64 2], 26), (w.heap.size + 1 + 1, #[.int .u64 (l3 v : Nat), .int .u64 (l2 v : Nat), .int .u64 (l1 v : Nat), .int .u64 (l0 v : Nat)], 24)] : List (Nat × Array Value × TypeId)), p.1 ≠ w.heap.size + 1 by
    have := HG1.out
    intro p hp
    simp only [List.mem_cons, List.not_mem_nil, or_false] at hp
    rcases hp with rfl | rfl | rfl <;> simp only <;> omega)
  generalize hg3 : w3.heap.size = g3 at *
  have hacc := K3.out.get (.tail _ (.tail _ (.tail _ (.head _))))
  have c0 := cell_of hacc 0
  have c1 := cell_of hacc 1
  have c2 := cell_of hacc 2
  have c3 := cell_of hacc 3
  have c4 := cell_of hacc 4
  have c5 := cell_of hacc 5
  have z5 := free_of hacc 5
  clear hacc
  have hmle : (m : Int) ≤ (cy.size : Int) := by have := HM.out; omega
  have HQ := Lib.hid (fun (q0 : Int) (hq0 : q0 = (if 300 < (cy.size : Int) then 300 else (cy.size : Int))) => show q0 = (m : Int) from by have := HM.out; split at hq0 <;> omega)
  go_wp2_with (refine wpList_min2 (by rfl) _ _ _ (by rfl) (cy.size : Int) 300 (by rfl) (by rfl) ?_; intro q0 hq0; have hq1 := HQ.out q0 hq0; clear hq0; subst hq1)
  refine (C3.out _).mono ?_
  rintro e w4 ⟨rfl, hb⟩
  have hlt3 := K3.out.below.size
  have K4 := Lib.hid (((((K3.out.sub (L' := [(g3, #[.int .u64 id, .string ⟨#[48, 49, 50, 51, 52, 53, 54, 55, 56, 57, 48, 49, 50, 51, 52, 53, 54, 55, 56, 57]⟩, .int .u64 (l3 k : Nat), .int .u64 (l2 k : Nat), .int .u64 (l1 k : Nat), .int .u64 (l0 k : Nat), .int .i64 2], 26), (g1, #[.int .u64 id, .string ⟨#[48, 49, 50, 51, 52, 53, 54, 55, 56, 57, 48, 49, 50, 51, 52, 53, 54, 55, 56, 57]⟩, .int .u64 (l3 k : Nat), .int .u64 (l2 k : Nat), .int .u64 (l1 k : Nat), .int .u64 (l0 k : Nat), .int .i64 2], 26), (w.heap.size + 1 + 1, #[.int .u64 (l3 v : Nat), .int .u64 (l2 v : Nat), .int .u64 (l1 v : Nat), .int .u64 (l0 v : Nat)], 24)]) (by simp)).set (b := w.heap.size + 1) (i := 5) (by omega) HD.out (.string cc)).at (b := g3 + 1) (by simp [World.setCell, hg3]) #[.int .u64 id, .int .u64 n, .int .u64 (l3 b : Nat), .int .u64 (l2 b : Nat), .int .u64 (l1 b : Nat), .int .u64 (l0 b : Nat), .string cc, .int .u64 0, .int .u64 0, .int .u64 0, .int .u64 0] 42)).call hb)
  clear c0 c1 c2 c3 c4 c5 z5 hb K3 hlt3 hmle HQ
  generalize hg4 : g3 + 1 = g4 at *
  go_wp2_with fail
  refine (C4.out _).mono ?_
  rintro e w5 ⟨rfl, hb⟩
  have K5 := Lib.hid ((K4.out.call hb).box #[.int .u64 id, .int .u64 n, .int .u64 (l3 b : Nat), .int .u64 (l2 b : Nat), .int .u64 (l1 b : Nat), .int .u64 (l0 b : Nat), .string cc, .int .u64 0, .int .u64 0, .int .u64 0, .int .u64 0] 42)
  clear hb K4
  go_wp2_with fail
  generalize hg5 : w5.heap.size = g5 at *
  refine (C5.out _).mono ?_
  rintro e w6 ⟨rfl, hb⟩
  have K6 := Lib.hid ((K5.out.call hb).box #[.int .u64 0, .int .u64 0, .int .u64 0, .int .u64 0, .int .u64 0, .int .u64 0, .string ⟨#[]⟩, .int .u64 0, .int .u64 0, .int .u64 0, .int .u64 0] 42)
  clear hb K5
  generalize hg6 : w6.heap.size = g6 at *
  obtain ⟨⟨c0, c1, c2, c3⟩, z0, z1, z2, z3⟩ := cells4 (K6.out.get (.tail _ (.tail _ (.tail _ (.tail _ (.tail _ (.head _)))))))
  go_wp2_with fail
  refine (C6.out _).mono ?_
  rintro e w7 ⟨rfl, hb⟩
  have K7 := Lib.hid ((K6.out.at (b := g6 + 1) (by simp [hg6]) #[.int .u64 id, .int .u64 0, .int .u64 0, .int .u64 0, .int .u64 0, .int .u64 0, .string ⟨#[]⟩, .int .u64 (l3 v : Nat), .int .u64 (l2 v : Nat), .int .u64 (l1 v : Nat), .int .u64 (l0 v : Nat)] 42).call hb)
  clear hb K6 c0 c1 c2 c3 z0 z1 z2 z3
  generalize hg7 : g6 + 1 = g7 at *
  go_wp2_with fail
  refine (C7.out _).mono ?_
  rintro e w8 ⟨rfl, hb⟩
  have K8 := Lib.hid ((K7.out.call hb).box #[.int .u64 id, .int .u64 0, .int .u64 0, .int .u64 0, .int .u64 0, .int .u64 0, .string ⟨#[]⟩, .int .u64 (l3 v : Nat), .int .u64 (l2 v : Nat), .int .u64 (l1 v : Nat), .int .u64 (l0 v : Nat)] 42)
  clear hb K7
  obtain ⟨cap, W5, hcv, hb1, hb2, hb3⟩ := bytes_of t1 (w8.alloc (.cells #[.int .u64 id, .int .u64 0, .int .u64 0, .int .u64 0, .int .u64 0, .int .u64 0, .string ⟨#[]⟩, .int .u64 (l3 v : Nat), .int .u64 (l2 v : Nat), .int .u64 (l1 v : Nat), .int .u64 (l0 v : Nat)] 42))
  have K9 := Lib.hid (K8.out.call hb2)
  have HN8 := Lib.hid (And.intro K8.out.ne K8.out.below.size)
  have HY := Lib.hid (And.intro hb1 (And.intro hb3 hb2.size))
  clear hb1 hb2 hb3 K8
  simp only [alloc_size] at hcv HY HN8
  generalize hg8 : w8.heap.size = g8 at *
  rw [hts] at hcv HY
  obtain ⟨hw8, hw9, hmod, hnz, hwK, h5, hLd⟩ := HF.out.1
  obtain ⟨hq1, hq2, hr1, hr2, hMi, hM0, hMw, hsw⟩ := HF.out.2.1
  have hML := HF.out.2.2
  have d0 := (HY.out.1 M hML).1
  have e0 := (HY.out.1 M hML).2
  have hX2 := HP.out.1
  have htt := HP.out.2
  have hxor := u8_xor_nat (byteAtK t1 M) X (byteAt_ltK _ _) hX2.2.1
  have hset : Bt (g8 + 1) L (upd (byteAtK t1) M (byteAtK t1 M ^^^ X)) ((W5.setCell ⟨g8 + 1, M, none⟩ (.int .u8 (byteAtK t1 M ^^^ X : Nat))).drew) := HY.out.1.set hML (byteAtK t1 M ^^^ X)
  have hcv2 := hset.conv (fun j => by unfold upd; split; (· exact Nat.xor_lt_two_pow (n := 8) (byteAt_ltK _ _) hX2.2.1); (· exact byteAt_ltK _ _)) cap
  rw [htt] at hcv2
  have hxw := hX2.1
  have HC := Lib.hid (And.intro hxw (And.intro hxor hcv2))
  have HE := Lib.hid (And.intro E1 (And.intro E2 E3))
  have HQ := Lib.hid (And.intro hq1 (And.intro hq2 (And.intro hr1 (And.intro hr2 (And.intro hMi (And.intro hM0 (And.intro hMw hsw)))))))
  have HD := Lib.hid (And.intro d0 e0)
  clear hX2 hset hxw hxor hcv2 E1 E2 E3 hq1 hq2 hr1 hr2 hMi hM0 hMw hsw d0 e0 htt
  go_wp2_with fail
  rw [hwK]
  have d0 : W5.drew.cell? ⟨g8 + 1, M, none⟩ = some (.int .u8 (byteAtK t1 M : Nat)) := HD.out.1
  have e0 : W5.drew.frozen? ⟨g8 + 1, M, none⟩ = false := HD.out.2
  obtain ⟨hq1, hq2, hr1, hr2, hMi, hM0, hMw, hsw⟩ := HQ.out
  clear hcv hmod hnz hw8 hw9 h5 hLd hwK
  go_still_tail 13, (by kernel_rfl)
  change wpList _ _ _ _ _ W5.drew
  rw [HC.out.1, HC.out.2.1]
  have hcv2 := HC.out.2.2
  have K10 := Lib.hid ((K9.out.set (i := M) (by have := HN8.out.2; omega) HN8.out.1 (.int .u8 (byteAtK t1 M ^^^ X : Nat))).call (Below.refl _ _).drew)
  clear hq1 hq2 hr1 hr2 hMi hM0 hMw hsw HC K9
  generalize byteAtK t1 M ^^^ X = nv at *
  go_wp2_with fail
  refine (C8.out _).mono ?_
  rintro e w9 ⟨rfl, hb⟩
  have K11 := Lib.hid ((K10.out.call hb).box #[.int .u64 0, .int .u64 0, .int .u64 0, .int .u64 0, .int .u64 0, .int .u64 0, .string ⟨#[]⟩, .int .u64 0, .int .u64 0, .int .u64 0, .int .u64 0] 42)
  clear hb K10 hcv2
  obtain ⟨⟨a0, a1, a2, a3, a4, a5, a6⟩, _⟩ := cells7 (K11.out.get (.tail _ (.tail _ (.tail _ (.tail _ (.tail _ (.tail _ (.head _))))))))
  obtain ⟨⟨b0, b1, b2, b3, b4, b5, b6⟩, _⟩ := cells7 (K11.out.get (.tail _ (.tail _ (.tail _ (.tail _ (.tail _ (.tail _ (.tail _ (.head _)))))))))
  obtain ⟨⟨p0, p1, p2, p3, p4, p5, p6, p7, p8, p9, p10⟩, _⟩ := cells11 (K11.out.get (.tail _ (.tail _ (.tail _ (.tail _ (.head _))))))
  obtain ⟨⟨q0, q1, q2, q3, q4, q5, q6, q7, q8, q9, q10⟩, _⟩ := cells11 (K11.out.get (.tail _ (.tail _ (.tail _ (.tail _ (.tail _ (.head _)))))))
  obtain ⟨⟨r0, r1, r2, r3, r4, r5, r6, r7, r8, r9, r10⟩, _⟩ := cells11 (K11.out.get (.tail _ (.head _)))
  obtain ⟨⟨s0, s1', s2, s3, s4, s5, s6, s7, s8, s9, s10⟩, _⟩ := cells11 (K11.out.get (.tail _ (.tail _ (.head _))))
  have E1 := HE.out.1
  have E2 := HE.out.2.1
  have E3 := HE.out.2.2
  clear HE
  go_wp2_with fail
  go_ret
  exact ⟨rfl, K11.out.below⟩
theorem backA_c (id : Nat) (hi : id < M64) (k : Nat) (hk : k < W256) (n : Nat) (hn : n < M64) (b : Nat) (hb : b < W256) (c : ByteArray) (v : Nat) (hv : v < W256) (bit : Nat) (hbit : bit < 2 ^ 32) (w : World) : Calls Try.prog 5
    #[.int .u64 id, .agg #[.int .u64 (l3 k : Nat), .int .u64 (l2 k : Nat), .int .u64 (l1 k : Nat), .int .u64 (l0 k : Nat)], .agg #[.int .u64 n, .int .u64 (l3 b : Nat), .int .u64 (l2 b : Nat), .int .u64 (l1 b : Nat), .int .u64 (l0 b : Nat), .string c], .agg #[.int .u64 (l3 v : Nat), .int .u64 (l2 v : Nat), .int .u64 (l1 v : Nat), .int .u64 (l0 v : Nat)], .int .u32 bit] w fun e w' => e = .returned (.bool true) ∧ Below w.heap.size w w' := by
  have h := back_c id hi k hk n hn b hb c.data.toList v hv bit hbit w
  rwa [str_of'] at h
end Go.Proofs.Ytbhijjegkpjkcaa
end
