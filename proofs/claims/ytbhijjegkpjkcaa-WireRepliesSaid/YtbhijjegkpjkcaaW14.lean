/- Merged: Vt, Vs, RefA, Places, RefB, RefC. -/
import Derived.Test.YtbhijjegkpjkcaaW01
import Derived.Test.YtbhijjegkpjkcaaW08
import Derived.Deep.Strs
import Derived.Test.YtbhijjegkpjkcaaW13
import Derived.Lib.ConvBytes
import Derived.StillTailTactics
import Derived.Test.YtbhijjegkpjkcaaW02
import Derived.Lib.SmallJoins
import Derived.RegionTactic
section
set_option maxRecDepth 100000
namespace Go.Proofs.Ytbhijjegkpjkcaa
open Go.ChangeShapes Go.WideShapes Go.ChangeAt Go.RowKit Go.Deep Go.Joins

theorem size6 {α : Type} {cs : Array α} (h : cs.size = 6) : ∃ c0 c1 c2 c3 c4 c5, cs = #[c0, c1, c2, c3, c4, c5] := by
  obtain ⟨l⟩ := cs
  match l, h with
  | [c0, c1, c2, c3, c4, c5], _ => exact ⟨c0, c1, c2, c3, c4, c5, rfl⟩
theorem size7 {α : Type} {cs : Array α} (h : cs.size = 7) : ∃ c0 c1 c2 c3 c4 c5 c6, cs = #[c0, c1, c2, c3, c4, c5, c6] := by
  obtain ⟨l⟩ := cs
  match l, h with
  | [c0, c1, c2, c3, c4, c5, c6], _ => exact ⟨c0, c1, c2, c3, c4, c5, c6, rfl⟩
theorem size11 {α : Type} {cs : Array α} (h : cs.size = 11) : ∃ c0 c1 c2 c3 c4 c5 c6 c7 c8 c9 c10, cs = #[c0, c1, c2, c3, c4, c5, c6, c7, c8, c9, c10] := by
  obtain ⟨l⟩ := cs
  match l, h with
  | [c0, c1, c2, c3, c4, c5, c6, c7, c8, c9, c10], _ => exact ⟨c0, c1, c2, c3, c4, c5, c6, c7, c8, c9, c10, rfl⟩
theorem cellsU64 : Try.prog.cellsOf 22 = 1 := by kernel_rfl
theorem cellsStr : Try.prog.cellsOf 9 = 1 := by kernel_rfl
theorem cellsInt : Try.prog.cellsOf 3 = 1 := by kernel_rfl
theorem cellsAcc : Try.prog.cellsOf 40 = 6 := by kernel_rfl
theorem cellsAsk : Try.prog.cellsOf 26 = 7 := by kernel_rfl
theorem cellsReply : Try.prog.cellsOf 42 = 11 := by kernel_rfl
section
variable {H : Type} {enc : TypeId × Value → H} {w : World} {base : Nat} {spare : Nat → Bool} {held : Bool}
/-- Cells that read as d. -/
def Trd (enc : TypeId × Value → H) (w : World) (base : Nat) (spare : Nat → Bool) (held : Bool) (t : TypeId) (cs : List Value) (d : DataW H) (p : List MemPlace) : Prop := ∃ n, DataW.trod enc Try.prog w base spare held n t cs = some (d, p)
theorem trd_word {c0 c1 c2 c3 : Value} {d : DataW H} {p : List MemPlace} (h : Trd enc w base spare held 24 [c0, c1, c2, c3] d p) :
    ∃ n d3 d2 d1 d0 : Nat, c0 = .int .u64 d3 ∧ c1 = .int .u64 d2 ∧ c2 = .int .u64 d1 ∧ c3 = .int .u64 d0 ∧ d = wordD d3 d2 d1 d0 ∧ p = [] ∧ Dig n d0 d1 d2 d3 := by
  obtain ⟨fuel, h⟩ := h
  obtain ⟨y0, y1, y2, y3, n, hx, _, h0, h1, h2, h3⟩ := trod_struct4 Try.underlying24 h
  simp only [cellsU64] at h0 h1 h2 h3
  obtain ⟨n3, e0, rfl, w3⟩ := DataW.trod_int Try.underlying22 h0
  obtain ⟨n2, e1, rfl, w2⟩ := DataW.trod_int Try.underlying22 h1
  obtain ⟨n1, e2, rfl, w1⟩ := DataW.trod_int Try.underlying22 h2
  obtain ⟨n0, e3, rfl, w0⟩ := DataW.trod_int Try.underlying22 h3
  obtain ⟨k3, rfl, l3⟩ := u64_of w3
  obtain ⟨k2, rfl, l2⟩ := u64_of w2
  obtain ⟨k1, rfl, l1⟩ := u64_of w1
  obtain ⟨k0, rfl, l0⟩ := u64_of w0
  simp at e0 e1 e2 e3
  simp at hx
  exact ⟨_, k3, k2, k1, k0, e0, e1, e2, e3, hx.1, hx.2, ⟨l0, l1, l2, l3, rfl⟩⟩
theorem trd_word_mk {n d3 d2 d1 d0 : Nat} (h : Dig n d0 d1 d2 d3) : Trd enc w base spare held 24 [.int .u64 d3, .int .u64 d2, .int .u64 d1, .int .u64 d0] (wordD d3 d2 d1 d0) [] := by
  obtain ⟨m, hm⟩ := shut_word (enc := enc) (w := w) (base := base) (spare := spare) (held := held) h
  exact ⟨m, by simpa [Value.cells] using hm⟩
theorem trd_account {c0 c1 c2 c3 c4 c5 : Value} {d : DataW H} {p : List MemPlace} (h : Trd enc w base spare held 40 [c0, c1, c2, c3, c4, c5] d p) :
    ∃ (k n d3 d2 d1 d0 : Nat) (s : ByteArray), c0 = .int .u64 k ∧ c1 = .int .u64 d3 ∧ c2 = .int .u64 d2 ∧ c3 = .int .u64 d1 ∧ c4 = .int .u64 d0 ∧ c5 = .string s ∧ d = .agg [.lit (.int .u64 k), wordD d3 d2 d1 d0, .lit (.string s.data.toList)] ∧ p = [] ∧ k < M64 ∧ Dig n d0 d1 d2 d3 ∧ s.size ≤ maxLen := by
  obtain ⟨fuel, h⟩ := h
  obtain ⟨y0, y1, y2, n, hx, _, h0, h1, h2⟩ := trod_struct3 Try.underlying40 h
  simp only [cellsU64, cellsWord, cellsStr] at h0 h1 h2
  obtain ⟨k, e0, rfl, w0⟩ := DataW.trod_int Try.underlying22 h0
  obtain ⟨m, d3, d2, d1, d0, q0, q1, q2, q3, ed, ep, hd⟩ := trd_word ⟨n, h1⟩
  obtain ⟨s, e5, rfl, hs⟩ := DataW.trod_string Try.underlying9 h2
  obtain ⟨k0, rfl, l0⟩ := u64_of w0
  simp at e0 e5
  simp [ed, ep] at hx
  exact ⟨k0, m, d3, d2, d1, d0, s, e0, q0, q1, q2, q3, e5, hx.1, hx.2, l0, hd, hs⟩
theorem trd_account_mk {k n d3 d2 d1 d0 : Nat} {s : ByteArray} (hk : k < M64) (h : Dig n d0 d1 d2 d3) (hs : s.size ≤ maxLen) :
    Trd enc w base spare held 40 [.int .u64 k, .int .u64 d3, .int .u64 d2, .int .u64 d1, .int .u64 d0, .string s] (.agg [.lit (.int .u64 k), wordD d3 d2 d1 d0, .lit (.string s.data.toList)]) [] := by
  obtain ⟨m, hm⟩ := trd_word_mk (enc := enc) (w := w) (base := base) (spare := spare) (held := held) h
  exact ⟨m + 1 + 1, trod_struct3_mk Try.underlying40 (by rw [cellsAcc]; rfl) (y0 := (_, [])) (y1 := (_, [])) (y2 := (_, []))
    (by simp only [cellsU64]; exact trod_int_mk m Try.underlying22 (wf_of hk)) (by simp only [cellsWord]; exact DataW.trod_le (Nat.le_succ m) hm) (by simp only [cellsStr]; exact show DataW.trod enc Try.prog w base spare held (m + 1) 9 [.string s] = _ by simp [DataW.trod, Try.underlying9, hs])⟩
theorem open_account {r : Reach} {b0 : Nat} {v : Value} {d : DataW H} {p : List MemPlace} (hv : Value.okWide Try.prog w r b0 40 v) (h : DataW.Trod enc Try.prog w base spare held 40 v d p) :
    ∃ (k n d3 d2 d1 d0 : Nat) (s : ByteArray), v = .agg #[.int .u64 k, .int .u64 d3, .int .u64 d2, .int .u64 d1, .int .u64 d0, .string s] ∧ d = .agg [.lit (.int .u64 k), wordD d3 d2 d1 d0, .lit (.string s.data.toList)] ∧ p = [] ∧ k < M64 ∧ Dig n d0 d1 d2 d3 ∧ s.size ≤ maxLen := by
  obtain ⟨cs, rfl, hsz⟩ := okWide_struct Try.underlying40 hv
  obtain ⟨c0, c1, c2, c3, c4, c5, rfl⟩ := size6 (hsz.trans cellsAcc)
  obtain ⟨fuel, hf⟩ := h
  obtain ⟨k, n, d3, d2, d1, d0, s, rfl, rfl, rfl, rfl, rfl, rfl, hd, hp, h1, h2, h3⟩ := trd_account ⟨fuel, by simpa [Value.cells] using hf⟩
  exact ⟨k, n, d3, d2, d1, d0, s, rfl, hd, hp, h1, h2, h3⟩
theorem shut_account {k n d3 d2 d1 d0 : Nat} {s : ByteArray} (hk : k < M64) (h : Dig n d0 d1 d2 d3) (hs : s.size ≤ maxLen) :
    DataW.Trod enc Try.prog w base spare held 40 (.agg #[.int .u64 k, .int .u64 d3, .int .u64 d2, .int .u64 d1, .int .u64 d0, .string s]) (.agg [.lit (.int .u64 k), wordD d3 d2 d1 d0, .lit (.string s.data.toList)]) [] := by
  obtain ⟨m, hm⟩ := trd_account_mk (enc := enc) (w := w) (base := base) (spare := spare) (held := held) hk h hs
  exact ⟨m, by simpa [Value.cells] using hm⟩
theorem open_askT {r : Reach} {b0 : Nat} {v : Value} {d : DataW H} {p : List MemPlace} (hv : Value.okWide Try.prog w r b0 26 v) (h : DataW.Trod enc Try.prog w base spare held 26 v d p) :
    ∃ (k n d3 d2 d1 d0 : Nat) (s : ByteArray) (z : Int), v = .agg #[.int .u64 k, .string s, .int .u64 d3, .int .u64 d2, .int .u64 d1, .int .u64 d0, .int .i64 z] ∧ d = .agg [.lit (.int .u64 k), .lit (.string s.data.toList), wordD d3 d2 d1 d0, .lit (.int .i64 z)] ∧ p = [] ∧ k < M64 ∧ Dig n d0 d1 d2 d3 ∧ s.size ≤ maxLen ∧ (Lit.int .i64 z).wf = true := by
  obtain ⟨cs, rfl, hsz⟩ := okWide_struct Try.underlying26 hv
  obtain ⟨c0, c1, c2, c3, c4, c5, c6, rfl⟩ := size7 (hsz.trans cellsAsk)
  obtain ⟨fuel, hf⟩ := h
  have hf' : DataW.trod enc Try.prog w base spare held fuel 26 [c0, c1, c2, c3, c4, c5, c6] = some (d, p) := by simpa [Value.cells] using hf
  obtain ⟨y0, y1, y2, y3, n, hx, _, h0, h1, h2, h3⟩ := trod_struct4 Try.underlying26 hf'
  simp only [cellsU64, cellsWord, cellsStr, cellsInt] at h0 h1 h2 h3
  obtain ⟨k, e0, rfl, w0⟩ := DataW.trod_int Try.underlying22 h0
  obtain ⟨s, e1, rfl, hs⟩ := DataW.trod_string Try.underlying9 h1
  obtain ⟨m, d3, d2, d1, d0, q0, q1, q2, q3, ed, ep, hd⟩ := trd_word ⟨n, h2⟩
  obtain ⟨z, e6, rfl, w6⟩ := DataW.trod_int Try.underlying3 h3
  obtain ⟨k0, rfl, l0⟩ := u64_of w0
  simp at e0 e1 e6
  subst e0 e1 q0 q1 q2 q3 e6
  simp [ed, ep] at hx
  exact ⟨k0, m, d3, d2, d1, d0, s, z, rfl, hx.1, hx.2, l0, hd, hs, w6⟩
theorem shut_askT {k n d3 d2 d1 d0 : Nat} {s : ByteArray} {z : Int} (hk : k < M64) (h : Dig n d0 d1 d2 d3) (hs : s.size ≤ maxLen) (hz : (Lit.int .i64 z).wf = true) :
    DataW.Trod enc Try.prog w base spare held 26 (.agg #[.int .u64 k, .string s, .int .u64 d3, .int .u64 d2, .int .u64 d1, .int .u64 d0, .int .i64 z]) (.agg [.lit (.int .u64 k), .lit (.string s.data.toList), wordD d3 d2 d1 d0, .lit (.int .i64 z)]) [] := by
  obtain ⟨m, hm⟩ := trd_word_mk (enc := enc) (w := w) (base := base) (spare := spare) (held := held) h
  have ht := trod_struct4_mk (enc := enc) (w := w) (base := base) (spare := spare) (held := held) (n := m + 1) (cs := [.int .u64 k, .string s, .int .u64 d3, .int .u64 d2, .int .u64 d1, .int .u64 d0, .int .i64 z]) Try.underlying26 (by rw [cellsAsk]; rfl) (y0 := (.lit (.int .u64 k), [])) (y1 := (.lit (.string s.data.toList), [])) (y2 := (wordD d3 d2 d1 d0, [])) (y3 := (.lit (.int .i64 z), []))
    (by simp only [cellsU64]; exact trod_int_mk m Try.underlying22 (wf_of hk)) (by simp only [cellsStr]; exact show DataW.trod enc Try.prog w base spare held (m + 1) 9 [.string s] = _ by simp [DataW.trod, Try.underlying9, hs]) (by simp only [cellsWord]; exact DataW.trod_le (Nat.le_succ m) hm) (by simp only [cellsInt]; exact trod_int_mk m Try.underlying3 hz)
  exact ⟨_, by simpa [Value.cells] using ht⟩
theorem open_replyT {r : Reach} {b0 : Nat} {v : Value} {d : DataW H} {p : List MemPlace} (hv : Value.okWide Try.prog w r b0 42 v) (h : DataW.Trod enc Try.prog w base spare held 42 v d p) :
    ∃ (i k n d3 d2 d1 d0 : Nat) (s : ByteArray) (m e3 e2 e1 e0 : Nat), v = .agg #[.int .u64 i, .int .u64 k, .int .u64 d3, .int .u64 d2, .int .u64 d1, .int .u64 d0, .string s, .int .u64 e3, .int .u64 e2, .int .u64 e1, .int .u64 e0] ∧
      d = .agg [.lit (.int .u64 i), .agg [.lit (.int .u64 k), wordD d3 d2 d1 d0, .lit (.string s.data.toList)], wordD e3 e2 e1 e0] ∧ p = [] ∧ i < M64 ∧ k < M64 ∧ Dig n d0 d1 d2 d3 ∧ s.size ≤ maxLen ∧ Dig m e0 e1 e2 e3 := by
  obtain ⟨cs, rfl, hsz⟩ := okWide_struct Try.underlying42 hv
  obtain ⟨c0, c1, c2, c3, c4, c5, c6, c7, c8, c9, c10, rfl⟩ := size11 (hsz.trans cellsReply)
  obtain ⟨fuel, hf⟩ := h
  have hf' : DataW.trod enc Try.prog w base spare held fuel 42 [c0, c1, c2, c3, c4, c5, c6, c7, c8, c9, c10] = some (d, p) := by simpa [Value.cells] using hf
  obtain ⟨y0, y1, y2, n, hx, _, h0, h1, h2⟩ := trod_struct3 Try.underlying42 hf'
  simp only [cellsU64, cellsWord, cellsAcc] at h0 h1 h2
  obtain ⟨i, e0, rfl, w0⟩ := DataW.trod_int Try.underlying22 h0
  obtain ⟨k, m, d3, d2, d1, d0, s, q0, q1, q2, q3, q4, q5, ed, ep, hk, hd, hs⟩ := trd_account ⟨n, h1⟩
  obtain ⟨m2, f3, f2, f1, f0, r0, r1, r2, r3, ed2, ep2, hd2⟩ := trd_word ⟨n, h2⟩
  obtain ⟨i0, rfl, l0⟩ := u64_of w0
  simp at e0
  subst e0 q0 q1 q2 q3 q4 q5 r0 r1 r2 r3
  simp [ed, ep, ed2, ep2] at hx
  exact ⟨i0, k, m, d3, d2, d1, d0, s, m2, f3, f2, f1, f0, rfl, hx.1, hx.2, l0, hk, hd, hs, hd2⟩
theorem shut_replyT {i k n d3 d2 d1 d0 : Nat} {s : ByteArray} {m e3 e2 e1 e0 : Nat} (hi : i < M64) (hk : k < M64) (h : Dig n d0 d1 d2 d3) (hs : s.size ≤ maxLen) (h2 : Dig m e0 e1 e2 e3) :
    DataW.Trod enc Try.prog w base spare held 42 (.agg #[.int .u64 i, .int .u64 k, .int .u64 d3, .int .u64 d2, .int .u64 d1, .int .u64 d0, .string s, .int .u64 e3, .int .u64 e2, .int .u64 e1, .int .u64 e0])
      (.agg [.lit (.int .u64 i), .agg [.lit (.int .u64 k), wordD d3 d2 d1 d0, .lit (.string s.data.toList)], wordD e3 e2 e1 e0]) [] := by
  obtain ⟨a, ha⟩ := trd_account_mk (enc := enc) (w := w) (base := base) (spare := spare) (held := held) hk h hs
  obtain ⟨b, hb⟩ := trd_word_mk (enc := enc) (w := w) (base := base) (spare := spare) (held := held) h2
  have ht := trod_struct3_mk (enc := enc) (w := w) (base := base) (spare := spare) (held := held) (n := a + b + 1) (cs := [.int .u64 i, .int .u64 k, .int .u64 d3, .int .u64 d2, .int .u64 d1, .int .u64 d0, .string s, .int .u64 e3, .int .u64 e2, .int .u64 e1, .int .u64 e0]) Try.underlying42 (by rw [cellsReply]; rfl)
    (y0 := (.lit (.int .u64 i), [])) (y1 := (.agg [.lit (.int .u64 k), wordD d3 d2 d1 d0, .lit (.string s.data.toList)], [])) (y2 := (wordD e3 e2 e1 e0, []))
    (by simp only [cellsU64]; exact trod_int_mk (a + b) Try.underlying22 (wf_of hi)) (by simp only [cellsAcc]; exact DataW.trod_le (show a ≤ a + b + 1 by omega) ha) (by simp only [cellsWord]; exact DataW.trod_le (show b ≤ a + b + 1 by omega) hb)
  exact ⟨_, by simpa [Value.cells] using ht⟩
end
end Go.Proofs.Ytbhijjegkpjkcaa
end
section
namespace Go.Proofs.Ytbhijjegkpjkcaa
open Go.RowKit

/-- Bytes in a block, that may be written. -/
def Bt (g n : Nat) (P : Nat → Nat) (W : World) : Prop := ∀ j, j < n → W.cell? ⟨g, j, none⟩ = some (.int .u8 (P j : Nat)) ∧ W.frozen? ⟨g, j, none⟩ = false
theorem Bt.later {g n : Nat} {P : Nat → Nat} {W W' : World} (h : Bt g n P W) (hg : g < W.heap.size) (hb : Below W.heap.size W W') : Bt g n P W' := fun j hj =>
  ⟨(World.cell?_of_block (hb.block g hg)).trans (h j hj).1, (World.frozen?_of_block (hb.block g hg)).trans (h j hj).2⟩
theorem Bt.set {g n : Nat} {P : Nat → Nat} {W : World} (h : Bt g n P W) {k : Nat} (hk : k < n) (v : Nat) : Bt g n (upd P k v) (W.setCell ⟨g, k, none⟩ (.int .u8 (v : Nat))) := fun j hj => by
  refine ⟨?_, by rw [World.frozen?_setCell]; exact (h j hj).2⟩
  by_cases e : j = k
  · subst e
    rw [World.cell?_setCell_same _ _ _ (h j hj).1, upd_same]
  · rw [World.cell?_setCell_other _ _ _ _ (by intro e'; injection e' with e1 e2; omega), upd_other _ _ e]
    exact (h j hj).1
theorem Bt.congr {g n : Nat} {P Q : Nat → Nat} {W : World} (h : Bt g n P W) (e : ∀ j, j < n → P j = Q j) : Bt g n Q W := fun j hj => by rw [← e j hj]; exact h j hj
theorem Bt.conv {g n : Nat} {P : Nat → Nat} {W : World} (h : Bt g n P W) (hP : ∀ j, P j < 256) (cap : Nat) :
    (convert 33 9 (.slice (some ⟨g, 0, none⟩) n cap)).run Try.prog W = .ok (.string (txt n P)) W := by
  have := Lib.run_convert_whole (P := Try.prog) W 33 5 9 Try.underlying33 Try.underlying5 Try.underlying9 g 0 (txt n P) (by
    intro i hi
    rw [txt_size] at hi
    have e : (txt n P)[i]'(by rw [txt_size]; exact hi) = UInt8.ofNat (P i) := by simp [txt, ByteArray.getElem_eq_getElem_data]
    rw [Nat.zero_add, (h i hi).1, e, UInt8.toNat_ofNat_of_lt' (hP i)]) cap
  rwa [txt_size] at this
theorem bytes_of (s : ByteArray) (w : World) :
    ∃ cap W, (convert 9 33 (.string s)).run Try.prog w = .ok (.slice (some ⟨w.heap.size, 0, none⟩) s.size cap) W ∧ Bt w.heap.size s.size (byteAtK s) W ∧ Below w.heap.size w W ∧ w.heap.size < W.heap.size := by
  refine ⟨_, _, Lib.run_convert_string_bytes (P := Try.prog) w 9 33 5 s Try.underlying9 Try.underlying33 Try.underlying5, ?_, ?_, ?_⟩
  · intro j hj
    refine ⟨?_, ?_⟩
    · rw [Lib.bytesWorld_cell w _ s j hj]
      unfold byteAtK
      rw [dif_pos hj]
      simp [List.getD, hj, ByteArray.getElem_eq_getElem_data]
    · have h := Lib.bytesWorld_at_new w 5 s
      have hsz : (Lib.bytesCells w 5 s).size ≥ s.size := by simp [Lib.bytesCells]
      simp [World.frozen?, h]
      try omega
  · exact ⟨rfl, rfl, rfl, Nat.le_of_lt (by rw [Lib.bytesWorld_size]; omega), fun k hk => Lib.bytesWorld_at_old w _ s k hk⟩
  · rw [Lib.bytesWorld_size]; omega
theorem txt_turn {s : List UInt8} {m X : Nat} (hX : X < 256) (hm : m < s.length) : txt s.length (upd (byteAtK (str s)) m (byteAtK (str s) m ^^^ X)) = str (turnB s m (UInt8.ofNat X)) := by
  rw [← txt_byteAt (str (turnB s m (UInt8.ofNat X))), str_size, turnB_len]
  refine txt_congr fun j hj => ?_
  rw [byteAt_strB, byteAt_strB]
  unfold upd turnB
  by_cases e : j = m
  · subst e
    rw [if_pos rfl]
    simp only [List.getD_eq_getElem?_getD, List.getElem?_set_self hj, Option.getD_some]
    rw [UInt8.toNat_xor, UInt8.toNat_ofNat_of_lt' hX]
  · rw [if_neg e, byteAt_strB]
    simp only [List.getD_eq_getElem?_getD]
    rw [List.getElem?_set_ne (by omega)]
theorem wpList_min2 {ops : Array Oper} {rest : List Oper} {o : Oper} {a : Act} {Q : Exit → Act → World → Prop} {W : World} (hgd : o.guard = none) (x y : Operand) (ts : Array TypeId)
    (ho : o.op = .call { callee := .builtin .min, args := #[x, y], argTypes := ts }) (i j : Int) (hx : a.eval x = .int .i64 i) (hy : a.eval y = .int .i64 j)
    (h : ∀ q : Int, q = (if j < i then j else i) → wpList Try.prog ops Q rest (a.put o.dst (.int .i64 q)) W) : wpList Try.prog ops Q (o :: rest) a W := by
  refine wpList_plain hgd fun K hK => ?_
  have hr := run_min_int2 (P := Try.prog) (w := W) ts o.type .i64 .i64 i j
  unfold Oper.wp execOp
  simp only [ho, resolve, invoke, builtin, Sem.run_bind, Sem.run_pure, Result.andThen_ok, List.map_toArray, List.map_cons, List.map_nil, hx, hy, hr]
  exact hK _ _ (h _ rfl)

/-- Blocks that stay as they are. -/
structure Kb (w : World) (L : List (Nat × Array Value × TypeId)) (W : World) : Prop where
  below : Below w.heap.size w W
  blk : ∀ p ∈ L, W.heap[p.1]? = some (.cells p.2.1 p.2.2 (0, 0))
section
variable {w W W' : World} {L : List (Nat × Array Value × TypeId)}
theorem Kb.call (h : Kb w L W) (hb : Below W.heap.size W W') : Kb w L W' :=
  ⟨h.below.trans (hb.mono h.below.size), fun p hp => (hb.block _ (lt_of (h.blk p hp))).trans (h.blk p hp)⟩
theorem Kb.box (h : Kb w L W) (cs : Array Value) (t : TypeId) : Kb w ((W.heap.size, cs, t) :: L) (W.alloc (.cells cs t)) := by
  have hc := h.call ((Below.refl _ _).alloc (Nat.le_refl _) (.cells cs t))
  refine ⟨hc.below, fun p hp => ?_⟩
  rcases List.mem_cons.1 hp with rfl | hp
  · exact heap_alloc_new _ _
  · exact hc.blk p hp
theorem Kb.at (h : Kb w L W) {b : Nat} (hb : W.heap.size = b) (cs : Array Value) (t : TypeId) : Kb w ((b, cs, t) :: L) (W.alloc (.cells cs t)) := hb ▸ h.box cs t
theorem Kb.sub {L' : List (Nat × Array Value × TypeId)} (h : Kb w L W) (hs : ∀ p ∈ L', p ∈ L) : Kb w L' W := ⟨h.below, fun p hp => h.blk p (hs p hp)⟩
theorem Kb.ne (h : Kb w L W) : ∀ p ∈ L, p.1 ≠ W.heap.size := fun p hp => Nat.ne_of_lt (lt_of (h.blk p hp))
theorem Kb.start (w : World) : Kb w [] w := ⟨Below.refl _ _, by simp⟩
theorem Kb.get (h : Kb w L W) {b : Nat} {cs : Array Value} {t : TypeId} (hm : (b, cs, t) ∈ L) : W.heap[b]? = some (.cells cs t (0, 0)) := h.blk _ hm
/-- A block that is not told of is written. -/
theorem Kb.set (h : Kb w L W) {b i : Nat} (hb : w.heap.size ≤ b) (hn : ∀ p ∈ L, p.1 ≠ b) (u : Value) : Kb w L (W.setCell ⟨b, i, none⟩ u) :=
  ⟨h.below.setCell (p := ⟨b, i, none⟩) hb u, fun p hp => (heap_setCell_other _ _ _ _ (by simpa using hn p hp)).trans (h.blk p hp)⟩
end
def backR (id n b : Nat) (c : List UInt8) : ReplyP := ⟨id, n, b, c.take 300, 0⟩
theorem backR_ok {id n b : Nat} {c : List UInt8} (hi : id < M64) (hn : n < M64) (hb : b < W256) : (backR id n b c).Wf ∧ (backR id n b c).Ok 1 :=
  ⟨⟨hi, hn, hb, by show 0 < W256; decide⟩, by show (c.take 300).length ≤ 24576; rw [List.length_take]; omega, Or.inl ⟨rfl, rfl⟩⟩
theorem backR_v (id n b : Nat) (c : List UInt8) : replyV (backR id n b c) = .agg #[.int .u64 id, .int .u64 n, .int .u64 (l3 b : Nat), .int .u64 (l2 b : Nat), .int .u64 (l1 b : Nat), .int .u64 (l0 b : Nat), .string (str (c.take 300)), .int .u64 0, .int .u64 0, .int .u64 0, .int .u64 0] := by
  unfold replyV backR
  simp [lim_zero]
theorem body_ne (kind : Int) (r : ReplyP) : 0 < (r.body kind).length := by
  unfold ReplyP.body ReplyP.it
  have h1 : (hd 192 (r.fo kind).enc.length ++ (r.fo kind).enc).length = (hd 192 (r.fo kind).enc.length).length + (r.fo kind).enc.length := List.length_append
  have h2 : 0 < (hd 192 (r.fo kind).enc.length).length := by unfold hd; split <;> simp
  show 0 < (hd 192 (r.fo kind).enc.length ++ (r.fo kind).enc).length
  omega

theorem bitF {L bit K M s : Nat} (hL : 5 ≤ L ∧ L ≤ 24707) (hK : K = bit % (8 * L)) (hM : M = K / 8) (hs : s = K % 8) :
    (wrap64 (8 * (L : Int)) = 8 * (L : Int) ∧ 8 * (L : Int) % 4294967296 = 8 * (L : Int) ∧ (bit : Int) % (8 * (L : Int)) = (K : Int) ∧ ¬ (8 * (L : Int)) = 0 ∧ wrap64 (K : Int) = (K : Int) ∧ ¬ (L : Int) < 5 ∧ 5 ≤ (L : Int)) ∧
    ((K : Int).tdiv 8 = (M : Int) ∧ (K : Int) / 8 = (M : Int) ∧ (K : Int).tmod 8 = (s : Int) ∧ (K : Int) % 8 = (s : Int) ∧ (M : Int) < (L : Int) ∧ (0 : Int) ≤ (M : Int) ∧ IntKind.i64.wrap (M : Int) = (M : Int) ∧ IntKind.i64.wrap (s : Int) = (s : Int)) ∧ M < L := by
  have hKlt : K < 8 * L := by rw [hK]; exact Nat.mod_lt _ (by omega)
  have hmod : (bit : Int) % (8 * (L : Int)) = (K : Int) := by rw [hK]; simp
  clear hK
  refine ⟨⟨IntWalk.wrap64_in _ (by omega), by omega, hmod, by omega, IntWalk.wrap64_in _ (by omega), by omega, by omega⟩, ⟨?_, by omega, ?_, by omega, by omega, by omega, IntWalk.i64_in _ (by omega), IntWalk.i64_in _ (by omega)⟩, by omega⟩
  · rw [Int.tdiv_eq_ediv_of_nonneg (by omega)]; omega
  · rw [Int.tmod_eq_emod_of_nonneg (by omega)]; omega
set_option maxRecDepth 100000 in
set_option maxHeartbeats 2000000 in
theorem back_c (id : Nat) (hi : id < M64) (k : Nat) (hk : k < W256) (n : Nat) (hn : n < M64) (b : Nat) (hb : b < W256) (c : List UInt8) (v : Nat) (hv : v < W256) (bit : Nat) (hbit : bit < 2 ^ 32) (w : World) : Calls Try.prog 5
    #[.int .u64 id, .agg #[.int .u64 (l3 k : Nat), .int .u64 (l2 k : Nat), .int .u64 (l1 k : Nat), .int .u64 (l0 k : Nat)], .agg #[.int .u64 n, .int .u64 (l3 b : Nat), .int .u64 (l2 b : Nat), .int .u64 (l1 b : Nat), .int .u64 (l0 b : Nat), .string (str c)], .agg #[.int .u64 (l3 v : Nat), .int .u64 (l2 v : Nat), .int .u64 (l1 v : Nat), .int .u64 (l0 v : Nat)], .int .u32 bit] w fun e w' => e = .returned (.bool true) ∧ Below w.heap.size w w' := by
  obtain ⟨wa, oa⟩ := slotA_ok hi hk
  obtain ⟨wr, or'⟩ := backR_ok (c := c) hi hn hb
  obtain ⟨ws, os'⟩ := slotR_ok hi hv
  have hla := body_ne 1 (backR id n b c)
  have hlr := reply_len (kind := 1) (a := backR id n b c)
  have hbr := ReplyP.body_len wr or'
  obtain ⟨L, hL⟩ : ∃ L, L = ((backR id n b c).enc 1).length := ⟨_, rfl⟩
  have hLb : 5 ≤ L ∧ L ≤ 24707 := by omega
  obtain ⟨K, hK⟩ : ∃ K, K = bit % (8 * L) := ⟨_, rfl⟩
  have hKlt : K < 8 * L := by rw [hK]; exact Nat.mod_lt _ (by omega)
  obtain ⟨M, hM⟩ : ∃ M, M = K / 8 := ⟨_, rfl⟩
  obtain ⟨s, hs⟩ : ∃ s, s = K % 8 := ⟨_, rfl⟩
  have hML : M < L := by omega
  have hs8 : s < 8 := by omega
  obtain ⟨X, hX⟩ : ∃ X, X = 2 ^ s := ⟨_, rfl⟩
  have hX2 : IntKind.u8.wrap ((2 : Int) ^ s) = (X : Int) ∧ X < 256 ∧ X ≠ 0 := by
    have : s = 0 ∨ s = 1 ∨ s = 2 ∨ s = 3 ∨ s = 4 ∨ s = 5 ∨ s = 6 ∨ s = 7 := by omega
    rcases this with rfl | rfl | rfl | rfl | rfl | rfl | rfl | rfl <;> subst hX <;> decide
  have hx0 : UInt8.ofNat X ≠ 0 := fun h => hX2.2.2 (by have := congrArg UInt8.toNat h; rw [UInt8.toNat_ofNat_of_lt' hX2.2.1] at this; exact this)
  have C1 := Lib.hid (fun W => putAsk_ok wa oa W)
  have C2 := Lib.hid (fun W => getAsk_some wa oa W)
  have C3 := Lib.hid (fun W => putReply_ok wr or' W)
  have C4 := Lib.hid (fun W => getReply_some wr or' W)
  have C5 := Lib.hid (fun W => getReply_none (kind := 2) (reply_other (r := backR id n b c)) W)
  have C6 := Lib.hid (fun W => putReply_ok ws os' W)
  have C7 := Lib.hid (fun W => getReply_some ws os' W)
  have C8 := Lib.hid (fun W => getReply_none (reply_turn (kind := 1) (r := backR id n b c) (j := M) (by omega) hx0) W)
  have E1 := eq_ask (slotA id k)
  have E2 := eq_reply (backR id n b c)
  have E3 := eq_reply (slotR id v)
  rw [slotA_v] at C1 C2 E1
  rw [backR_v] at C3 C4 E2
  rw [slotR_v] at C6 C7 E3
  have htt := txt_turn (s := (backR id n b c).enc 1) (m := M) hX2.2.1 (by omega)
  rw [← hL] at htt
  have hcs : (str c).size = c.length := str_size c
  obtain ⟨m, hm⟩ : ∃ m, m = min (str c).size 300 := ⟨_, rfl⟩
  have hcut : (str c).extract 0 m = str (c.take 300) := by
    rw [str_take, hm, hcs]
    congr 1
    rcases Nat.lt_or_ge c.length 300 with h | h
    · rw [Nat.min_eq_left (by omega), List.take_of_length_le (by omega), List.take_of_length_le (by omega)]
    · rw [Nat.min_eq_right h]
  have hts : (str ((backR id n b c).enc 1)).size = L := by rw [str_size, hL]
  generalize str (turnB ((backR id n b c).enc 1) M (UInt8.ofNat X)) = tt at *
  generalize str ((backR id n b c).enc 1) = t1 at *
  generalize str (slotA id k).enc = s1 at *
  generalize str ((slotR id v).enc 2) = u1 at *
  generalize str (c.take 300) = cc at *
  clear hcs
  have HM := Lib.hid (show (str c).size ≤ 300 ∧ m = (str c).size ∨ 300 < (str c).size ∧ m = 300 by rcases Nat.lt_or_ge 300 (str c).size with h | h; (· exact Or.inr ⟨h, by rw [hm, Nat.min_eq_right (Nat.le_of_lt h)]⟩); (· exact Or.inl ⟨h, by rw [hm, Nat.min_eq_left h]⟩))
  generalize str c = cy at *
  have HP := Lib.hid (And.intro hX2 htt)
  have HF := Lib.hid (bitF hLb hK hM hs)
  have K0 := Lib.hid ((((Kb.start w).box #[.int .u64 (l3 k : Nat), .int .u64 (l2 k : Nat), .int .u64 (l1 k : Nat), .int .u64 (l0 k : Nat)] 24).box #[.int .u64 n, .int .u64 (l3 b : Nat), .int .u64 (l2 b : Nat), .int .u64 (l1 b : Nat), .int .u64 (l0 b : Nat), .string cy] 40).box #[.int .u64 (l3 v : Nat), .int .u64 (l2 v : Nat), .int .u64 (l1 v : Nat), .int .u64 (l0 v : Nat)] 24)
  simp only [alloc_size] at K0
  have HLb := Lib.hid hLb
  clear hX hX2 htt hM hs hKlt hML hs8 hK hm hx0 wa oa wr or' ws os' hla hlr hbr hi hn hb hk hv hL hLb
  go_enter Try.func5, Try.ntmps5
  go_wp2_with fail
  refine (examples_c _).mono ?_
  rintro e w1 ⟨rfl, hb⟩
  have K1 := Lib.hid (K0.out.call hb)
  clear hb K0
  obtain ⟨⟨c0, c1, c2, c3⟩, z0, z1, z2, z3⟩ := cells4 (K1.out.get (.tail _ (.tail _ (.head _))))
  go_wp2_with fail
  refine (C1.out _).mono ?_
  rintro e w2 ⟨rfl, hb⟩
  have K2 := Lib.hid ((K1.out.box #[.int .u64 id, .string ⟨#[48, 49, 50, 51, 52, 53, 54, 55, 56, 57, 48, 49, 50, 51, 52, 53, 54, 55, 56, 57]⟩, .int .u64 (l3 k : Nat), .int .u64 (l2 k : Nat), .int .u64 (l1 k : Nat), .int .u64 (l0 k : Nat), .int .i64 2] 26).call hb)
  clear c0 c1 c2 c3 z0 z1 z2 z3 hb
  have HG0 := Lib.hid (show w.heap.size + 1 + 1 < w1.heap.size from lt_of (K1.out.get (.head _)))
  clear K1
  generalize hg1 : w1.heap.size = g1 at *
  go_wp2_with fail
  refine (C2.out _).mono ?_
  rintro e w3 ⟨rfl, hb⟩
  have K3 := Lib.hid ((K2.out.call hb).box #[.int .u64 id, .string ⟨#[48, 49, 50, 51, 52, 53, 54, 55, 56, 57, 48, 49, 50, 51, 52, 53, 54, 55, 56, 57]⟩, .int .u64 (l3 k : Nat), .int .u64 (l2 k : Nat), .int .u64 (l1 k : Nat), .int .u64 (l0 k : Nat), .int .i64 2] 26)
  have HG1 := Lib.hid (show w.heap.size + 1 + 1 < g1 ∧ g1 < w3.heap.size by
    have h1 := lt_of (K2.out.get (.head _))
    have h2 := hb.size
    have h3 := HG0.out
    omega)
  clear hb K2
  have HD := Lib.hid (show ∀ p ∈ ([(w3.heap.size, #[.int .u64 id, .string ⟨#[48, 49, 50, 51, 52, 53, 54, 55, 56, 57, 48, 49, 50, 51, 52, 53, 54, 55, 56, 57]⟩, .int .u64 (l3 k : Nat), .int .u64 (l2 k : Nat), .int .u64 (l1 k : Nat), .int .u64 (l0 k : Nat), .int .i64 2], 26), (g1, #[.int .u64 id, .string ⟨#[48, 49, 50, 51, 52, 53, 54, 55, 56, 57, 48, 49, 50, 51, 52, 53, 54, 55, 56, 57]⟩, .int .u64 (l3 k : Nat), .int .u64 (l2 k : Nat), .int .u64 (l1 k : Nat), .int .u64 (l0 k : Nat), .int .i64 2], 26), (w.heap.size + 1 + 1, #[.int .u64 (l3 v : Nat), .int .u64 (l2 v : Nat), .int .u64 (l1 v : Nat), .int .u64 (l0 v : Nat)], 24)] : List (Nat × Array Value × TypeId)), p.1 ≠ w.heap.size + 1 by
    have := HG1.out
    intro p hp
    simp only [List.mem_cons, List.not_mem_nil, or_false] at hp
    rcases hp with rfl | rfl | rfl <;> simp only <;> omega)
  generalize hg3 : w3.heap.size = g3 at *
  have hacc := K3.out.get (.tail _ (.tail _ (.tail _ (.head _))))
  have c0 := cell_of hacc 0
  have c1 := cell_of hacc 1
  have c2 := cell_of hacc 2
  have c3 := cell_of hacc 3
  have c4 := cell_of hacc 4
  have c5 := cell_of hacc 5
  have z5 := free_of hacc 5
  clear hacc
  have hmle : (m : Int) ≤ (cy.size : Int) := by have := HM.out; omega
  have HQ := Lib.hid (fun (q0 : Int) (hq0 : q0 = (if 300 < (cy.size : Int) then 300 else (cy.size : Int))) => show q0 = (m : Int) from by have := HM.out; split at hq0 <;> omega)
  go_wp2_with (refine wpList_min2 (by rfl) _ _ _ (by rfl) (cy.size : Int) 300 (by rfl) (by rfl) ?_; intro q0 hq0; have hq1 := HQ.out q0 hq0; clear hq0; subst hq1)
  refine (C3.out _).mono ?_
  rintro e w4 ⟨rfl, hb⟩
  have hlt3 := K3.out.below.size
  have K4 := Lib.hid (((((K3.out.sub (L' := [(g3, #[.int .u64 id, .string ⟨#[48, 49, 50, 51, 52, 53, 54, 55, 56, 57, 48, 49, 50, 51, 52, 53, 54, 55, 56, 57]⟩, .int .u64 (l3 k : Nat), .int .u64 (l2 k : Nat), .int .u64 (l1 k : Nat), .int .u64 (l0 k : Nat), .int .i64 2], 26), (g1, #[.int .u64 id, .string ⟨#[48, 49, 50, 51, 52, 53, 54, 55, 56, 57, 48, 49, 50, 51, 52, 53, 54, 55, 56, 57]⟩, .int .u64 (l3 k : Nat), .int .u64 (l2 k : Nat), .int .u64 (l1 k : Nat), .int .u64 (l0 k : Nat), .int .i64 2], 26), (w.heap.size + 1 + 1, #[.int .u64 (l3 v : Nat), .int .u64 (l2 v : Nat), .int .u64 (l1 v : Nat), .int .u64 (l0 v : Nat)], 24)]) (by simp)).set (b := w.heap.size + 1) (i := 5) (by omega) HD.out (.string cc)).at (b := g3 + 1) (by simp [World.setCell, hg3]) #[.int .u64 id, .int .u64 n, .int .u64 (l3 b : Nat), .int .u64 (l2 b : Nat), .int .u64 (l1 b : Nat), .int .u64 (l0 b : Nat), .string cc, .int .u64 0, .int .u64 0, .int .u64 0, .int .u64 0] 42)).call hb)
  clear c0 c1 c2 c3 c4 c5 z5 hb K3 hlt3 hmle HQ
  generalize hg4 : g3 + 1 = g4 at *
  go_wp2_with fail
  refine (C4.out _).mono ?_
  rintro e w5 ⟨rfl, hb⟩
  have K5 := Lib.hid ((K4.out.call hb).box #[.int .u64 id, .int .u64 n, .int .u64 (l3 b : Nat), .int .u64 (l2 b : Nat), .int .u64 (l1 b : Nat), .int .u64 (l0 b : Nat), .string cc, .int .u64 0, .int .u64 0, .int .u64 0, .int .u64 0] 42)
  clear hb K4
  go_wp2_with fail
  generalize hg5 : w5.heap.size = g5 at *
  refine (C5.out _).mono ?_
  rintro e w6 ⟨rfl, hb⟩
  have K6 := Lib.hid ((K5.out.call hb).box #[.int .u64 0, .int .u64 0, .int .u64 0, .int .u64 0, .int .u64 0, .int .u64 0, .string ⟨#[]⟩, .int .u64 0, .int .u64 0, .int .u64 0, .int .u64 0] 42)
  clear hb K5
  generalize hg6 : w6.heap.size = g6 at *
  obtain ⟨⟨c0, c1, c2, c3⟩, z0, z1, z2, z3⟩ := cells4 (K6.out.get (.tail _ (.tail _ (.tail _ (.tail _ (.tail _ (.head _)))))))
  go_wp2_with fail
  refine (C6.out _).mono ?_
  rintro e w7 ⟨rfl, hb⟩
  have K7 := Lib.hid ((K6.out.at (b := g6 + 1) (by simp [hg6]) #[.int .u64 id, .int .u64 0, .int .u64 0, .int .u64 0, .int .u64 0, .int .u64 0, .string ⟨#[]⟩, .int .u64 (l3 v : Nat), .int .u64 (l2 v : Nat), .int .u64 (l1 v : Nat), .int .u64 (l0 v : Nat)] 42).call hb)
  clear hb K6 c0 c1 c2 c3 z0 z1 z2 z3
  generalize hg7 : g6 + 1 = g7 at *
  go_wp2_with fail
  refine (C7.out _).mono ?_
  rintro e w8 ⟨rfl, hb⟩
  have K8 := Lib.hid ((K7.out.call hb).box #[.int .u64 id, .int .u64 0, .int .u64 0, .int .u64 0, .int .u64 0, .int .u64 0, .string ⟨#[]⟩, .int .u64 (l3 v : Nat), .int .u64 (l2 v : Nat), .int .u64 (l1 v : Nat), .int .u64 (l0 v : Nat)] 42)
  clear hb K7
  obtain ⟨cap, W5, hcv, hb1, hb2, hb3⟩ := bytes_of t1 (w8.alloc (.cells #[.int .u64 id, .int .u64 0, .int .u64 0, .int .u64 0, .int .u64 0, .int .u64 0, .string ⟨#[]⟩, .int .u64 (l3 v : Nat), .int .u64 (l2 v : Nat), .int .u64 (l1 v : Nat), .int .u64 (l0 v : Nat)] 42))
  have K9 := Lib.hid (K8.out.call hb2)
  have HN8 := Lib.hid (And.intro K8.out.ne K8.out.below.size)
  have HY := Lib.hid (And.intro hb1 (And.intro hb3 hb2.size))
  clear hb1 hb2 hb3 K8
  simp only [alloc_size] at hcv HY HN8
  generalize hg8 : w8.heap.size = g8 at *
  rw [hts] at hcv HY
  obtain ⟨hw8, hw9, hmod, hnz, hwK, h5, hLd⟩ := HF.out.1
  obtain ⟨hq1, hq2, hr1, hr2, hMi, hM0, hMw, hsw⟩ := HF.out.2.1
  have hML := HF.out.2.2
  have d0 := (HY.out.1 M hML).1
  have e0 := (HY.out.1 M hML).2
  have hX2 := HP.out.1
  have htt := HP.out.2
  have hxor := u8_xor_nat (byteAtK t1 M) X (byteAt_ltK _ _) hX2.2.1
  have hset : Bt (g8 + 1) L (upd (byteAtK t1) M (byteAtK t1 M ^^^ X)) ((W5.setCell ⟨g8 + 1, M, none⟩ (.int .u8 (byteAtK t1 M ^^^ X : Nat))).drew) := HY.out.1.set hML (byteAtK t1 M ^^^ X)
  have hcv2 := hset.conv (fun j => by unfold upd; split; (· exact Nat.xor_lt_two_pow (n := 8) (byteAt_ltK _ _) hX2.2.1); (· exact byteAt_ltK _ _)) cap
  rw [htt] at hcv2
  have hxw := hX2.1
  have HC := Lib.hid (And.intro hxw (And.intro hxor hcv2))
  have HE := Lib.hid (And.intro E1 (And.intro E2 E3))
  have HQ := Lib.hid (And.intro hq1 (And.intro hq2 (And.intro hr1 (And.intro hr2 (And.intro hMi (And.intro hM0 (And.intro hMw hsw)))))))
  have HD := Lib.hid (And.intro d0 e0)
  clear hX2 hset hxw hxor hcv2 E1 E2 E3 hq1 hq2 hr1 hr2 hMi hM0 hMw hsw d0 e0 htt
  go_wp2_with fail
  rw [hwK]
  have d0 : W5.drew.cell? ⟨g8 + 1, M, none⟩ = some (.int .u8 (byteAtK t1 M : Nat)) := HD.out.1
  have e0 : W5.drew.frozen? ⟨g8 + 1, M, none⟩ = false := HD.out.2
  obtain ⟨hq1, hq2, hr1, hr2, hMi, hM0, hMw, hsw⟩ := HQ.out
  clear hcv hmod hnz hw8 hw9 h5 hLd hwK
  go_still_tail 13, (by kernel_rfl)
  change wpList _ _ _ _ _ W5.drew
  rw [HC.out.1, HC.out.2.1]
  have hcv2 := HC.out.2.2
  have K10 := Lib.hid ((K9.out.set (i := M) (by have := HN8.out.2; omega) HN8.out.1 (.int .u8 (byteAtK t1 M ^^^ X : Nat))).call (Below.refl _ _).drew)
  clear hq1 hq2 hr1 hr2 hMi hM0 hMw hsw HC K9
  generalize byteAtK t1 M ^^^ X = nv at *
  go_wp2_with fail
  refine (C8.out _).mono ?_
  rintro e w9 ⟨rfl, hb⟩
  have K11 := Lib.hid ((K10.out.call hb).box #[.int .u64 0, .int .u64 0, .int .u64 0, .int .u64 0, .int .u64 0, .int .u64 0, .string ⟨#[]⟩, .int .u64 0, .int .u64 0, .int .u64 0, .int .u64 0] 42)
  clear hb K10 hcv2
  obtain ⟨⟨a0, a1, a2, a3, a4, a5, a6⟩, _⟩ := cells7 (K11.out.get (.tail _ (.tail _ (.tail _ (.tail _ (.tail _ (.tail _ (.head _))))))))
  obtain ⟨⟨b0, b1, b2, b3, b4, b5, b6⟩, _⟩ := cells7 (K11.out.get (.tail _ (.tail _ (.tail _ (.tail _ (.tail _ (.tail _ (.tail _ (.head _)))))))))
  obtain ⟨⟨p0, p1, p2, p3, p4, p5, p6, p7, p8, p9, p10⟩, _⟩ := cells11 (K11.out.get (.tail _ (.tail _ (.tail _ (.tail _ (.head _))))))
  obtain ⟨⟨q0, q1, q2, q3, q4, q5, q6, q7, q8, q9, q10⟩, _⟩ := cells11 (K11.out.get (.tail _ (.tail _ (.tail _ (.tail _ (.tail _ (.head _)))))))
  obtain ⟨⟨r0, r1, r2, r3, r4, r5, r6, r7, r8, r9, r10⟩, _⟩ := cells11 (K11.out.get (.tail _ (.head _)))
  obtain ⟨⟨s0, s1', s2, s3, s4, s5, s6, s7, s8, s9, s10⟩, _⟩ := cells11 (K11.out.get (.tail _ (.tail _ (.head _))))
  have E1 := HE.out.1
  have E2 := HE.out.2.1
  have E3 := HE.out.2.2
  clear HE
  go_wp2_with fail
  go_ret
  exact ⟨rfl, K11.out.below⟩
theorem backA_c (id : Nat) (hi : id < M64) (k : Nat) (hk : k < W256) (n : Nat) (hn : n < M64) (b : Nat) (hb : b < W256) (c : ByteArray) (v : Nat) (hv : v < W256) (bit : Nat) (hbit : bit < 2 ^ 32) (w : World) : Calls Try.prog 5
    #[.int .u64 id, .agg #[.int .u64 (l3 k : Nat), .int .u64 (l2 k : Nat), .int .u64 (l1 k : Nat), .int .u64 (l0 k : Nat)], .agg #[.int .u64 n, .int .u64 (l3 b : Nat), .int .u64 (l2 b : Nat), .int .u64 (l1 b : Nat), .int .u64 (l0 b : Nat), .string c], .agg #[.int .u64 (l3 v : Nat), .int .u64 (l2 v : Nat), .int .u64 (l1 v : Nat), .int .u64 (l0 v : Nat)], .int .u32 bit] w fun e w' => e = .returned (.bool true) ∧ Below w.heap.size w w' := by
  have h := back_c id hi k hk n hn b hb c.data.toList v hv bit hbit w
  rwa [str_of'] at h
end Go.Proofs.Ytbhijjegkpjkcaa
end
section
namespace Go.Proofs.Ytbhijjegkpjkcaa
open Go.RowKit Go.Joins

theorem Try.infoInt : (Try.prog.info? 3).map (fun i => (i.zero, i.size, i.bytes)) = some (some (.int .i64 0), 1, 8) := by kernel_rfl

theorem ownsRow_below {w w1 : World} {base : Nat} {e : TypeId} {size : Nat} {v : Value} {n : Nat} {xs : List Value} (h : w.ownsRow base e size v n xs) (hb : Below w.heap.size w w1) : w1.ownsRow base e size v n xs :=
  h.kept (row := none) ⟨hb.os, hb.tape, hb.output, hb.size, fun k hk _ => hb.block k hk⟩ (by cases hv : v.ownBlock <;> simp)

theorem wrap_near (q : Int) : ∃ t : Int, IntKind.i64.wrap q = q + 256 * t := by
  refine ⟨-(72057594037927936 * ((q + 9223372036854775808) / 18446744073709551616)), ?_⟩
  rw [IntKind.wrap_i64]
  omega

theorem ownsRow_from {w : World} {base base' : Nat} {e : TypeId} {size : Nat} {v : Value} {n : Nat} {xs : List Value} (h : w.ownsRow base e size v n xs) (hb : base' ≤ base) : w.ownsRow base' e size v n xs := by
  refine ⟨h.1, ?_⟩
  rcases h.2 with h0 | ⟨g, cap, cur, h1, h2, h3⟩
  · exact .inl h0
  · exact .inr ⟨g, cap, cur, h1, by omega, h3⟩

/-- Byte j, as Digits first has it; as it has it at the end. -/
def rawAt (d0 d1 d2 d3 j : Nat) : Int := (IntKind.i64.wrap (((nth d0 d1 d2 d3 (j / 8) / 2 ^ (8 * (j % 8)) : Nat)) : Int)).tmod 256
theorem raw_byte {x d0 d1 d2 d3 j : Nat} (h : Dig x d0 d1 d2 d3) (hj : j < 32) : (rawAt d0 d1 d2 d3 j + 256).tmod 256 = (byteOf x j : Int) ∧ -256 < rawAt d0 d1 d2 d3 j ∧ rawAt d0 d1 d2 d3 j < 256 := by
  have e := byteIn_eq h hj
  unfold byteIn at e
  rw [← e]
  unfold rawAt
  rw [show j % 8 * 8 = 8 * (j % 8) by omega]
  generalize nth d0 d1 d2 d3 (j / 8) / 2 ^ (8 * (j % 8)) = q
  obtain ⟨t, ht⟩ := wrap_near (q : Int)
  rw [ht]
  generalize hv : (q : Int) + 256 * t = v
  have hm : v % 256 = (q : Int) % 256 := by omega
  clear hv ht e
  rcases Int.le_total 0 v with h0 | h0
  · rw [Int.tmod_eq_emod_of_nonneg h0, Int.tmod_eq_emod_of_nonneg (by omega)]
    omega
  · have h1 : v.tmod 256 = -((-v) % 256) := by
      rw [← Int.tmod_eq_emod_of_nonneg (show 0 ≤ -v by omega), Int.neg_tmod, Int.neg_neg]
    rw [h1, Int.tmod_eq_emod_of_nonneg (by omega)]
    omega

def rawsTo (d0 d1 d2 d3 n : Nat) : List Value := (List.range n).map fun j => Value.int .i64 (rawAt d0 d1 d2 d3 j)
theorem rawsTo_succ (d0 d1 d2 d3 n : Nat) : rawsTo d0 d1 d2 d3 (n + 1) = rawsTo d0 d1 d2 d3 n ++ [.int .i64 (rawAt d0 d1 d2 d3 n)] := by
  simp [rawsTo, List.range_succ]
/-- Digits' third loop: the first n are bytes. -/
def mixTo (x d0 d1 d2 d3 n : Nat) : List Value := (List.range 32).map fun j => Value.int .i64 (if j < n then (byteOf x j : Int) else rawAt d0 d1 d2 d3 j)
theorem mixTo_zero (x d0 d1 d2 d3 : Nat) : mixTo x d0 d1 d2 d3 0 = rawsTo d0 d1 d2 d3 32 := by simp [mixTo, rawsTo]
theorem mixTo_at (x d0 d1 d2 d3 n j : Nat) (hj : j < 32) : (mixTo x d0 d1 d2 d3 n)[j]? = some (.int .i64 (if j < n then (byteOf x j : Int) else rawAt d0 d1 d2 d3 j)) := by
  simp [mixTo, hj]
theorem mixTo_set (x d0 d1 d2 d3 n : Nat) (hn : n < 32) : (mixTo x d0 d1 d2 d3 n).set n (.int .i64 (byteOf x n : Int)) = mixTo x d0 d1 d2 d3 (n + 1) := by
  apply List.ext_getElem?
  intro j
  rw [List.getElem?_set]
  by_cases hj : j < 32
  · rw [mixTo_at _ _ _ _ _ _ _ hj, mixTo_at _ _ _ _ _ _ _ hj]
    by_cases e : n = j
    · subst e
      rw [if_pos rfl, if_pos (by simp [mixTo]; omega), if_pos (by omega)]
    · rw [if_neg e]
      by_cases h : j < n
      · rw [if_pos h, if_pos (by omega)]
      · rw [if_neg h, if_neg (by omega)]
  · have h1 : (mixTo x d0 d1 d2 d3 n)[j]? = none := by simp [mixTo]; omega
    have h2 : (mixTo x d0 d1 d2 d3 (n + 1))[j]? = none := by simp [mixTo]; omega
    rw [h1, h2, if_neg (by omega)]

/-- A number's bytes as ints, the lowest first. -/
def digs (x n : Nat) : List Value := (List.range n).map fun j => Value.int .i64 (byteOf x j : Int)
theorem mixTo_all (x d0 d1 d2 d3 : Nat) : mixTo x d0 d1 d2 d3 32 = digs x 32 := by
  unfold mixTo digs
  apply List.map_congr_left
  intro j hj
  rw [if_pos (by simpa using hj)]

def RetRow (n : Nat) (xs : List Value) (w : World) (e : Ending) (w' : World) : Prop :=
  ∃ v : Value, e = .returned v ∧ w'.ownsRow w.heap.size 3 1 v n xs ∧ Below w.heap.size w w'

/-- What Digits knows: the word's limbs in block B + 1, its row from block B + 2 on. -/
def DigsS (w : World) (d0 d1 d2 d3 : Nat) (n : Nat) (v : Value) (xs : List Value) (W : World) : Prop :=
  Below w.heap.size w W ∧ w.heap.size + 1 + 1 ≤ W.heap.size ∧ W.heap[w.heap.size + 1]? = some (.cells (four d0 d1 d2 d3) 22 (0, 0)) ∧ W.ownsRow (w.heap.size + 1 + 1) 3 1 v n xs

theorem digs_grown {w wr w1 : World} {d0 d1 d2 d3 n : Nat} {v v' : Value} {xs news : List Value} {o : Obj} (hB : Below w.heap.size w wr) (hle : w.heap.size + 1 + 1 ≤ wr.heap.size)
    (hl : wr.heap[w.heap.size + 1]? = some (.cells (four d0 d1 d2 d3) 22 (0, 0))) (hown : wr.ownsRow (w.heap.size + 1 + 1) 3 1 v n xs)
    (hg : (wr.alloc o).grownBy w1 v.ownBlock) {m : Nat} (hown' : w1.ownsRow (w.heap.size + 1 + 1) 3 1 v' m news) : DigsS w d0 d1 d2 d3 m v' news w1 := by
  have hne : some (w.heap.size + 1) ≠ v.ownBlock := fun h => by have := (hown.lt _ h.symm).1; omega
  have hs := hg.size
  rw [alloc_size] at hs
  refine ⟨(hB.alloc (by omega) o).grown hg (by rw [alloc_size]; omega) (fun j hj => by have := (hown.lt j hj).1; omega), by omega, ?_, hown'⟩
  rw [hg.block _ (by rw [alloc_size]; omega) hne]
  exact (Below.heap_alloc _ _ _ (by omega)).trans hl

set_option maxRecDepth 100000 in
set_option maxHeartbeats 4000000 in
theorem Digits_c {x d3 d2 d1 d0 : Nat} (hx : Dig x d0 d1 d2 d3) (w : World) :
    Calls Try.prog 42 #[.agg #[.int .u64 d3, .int .u64 d2, .int .u64 d1, .int .u64 d0]] w (RetRow 32 (digs x 32) w) := by
  have HX := Lib.hid hx; clear hx
  obtain ⟨i0, hi, hz0, hz1, hz2⟩ := info_parts Try.infoInt
  go_enter Try.func42, Try.ntmps42
  go_wp2_with fail
  have H0 := Lib.hid (show DigsS w d0 d1 d2 d3 0 (.slice none 0 0) (rawsTo d0 d1 d2 d3 0) _ from ⟨((Below.refl w.heap.size w).alloc (Nat.le_refl _) (.cells #[.int .u64 d3, .int .u64 d2, .int .u64 d1, .int .u64 d0] 24)).alloc (by simp) (.cells (four d0 d1 d2 d3) 22), by simp, heap_alloc2_new _ _ _, World.ownsRow_nil _ _ _ _⟩)
  go_loopw [3, 5] (fun v i wr => ∃ k : Nat, i = .int .i64 k ∧ k ≤ 4 ∧ DigsS w d0 d1 d2 d3 (8 * k) v (rawsTo d0 d1 d2 d3 (8 * k)) wr) (fun _ i _ => 4 - (intOf i).toNat)
  case atStart => exact ⟨0, rfl, by omega, H0.out⟩
  case round =>
    clear H0
    obtain ⟨i, rfl, hi4, hS⟩ := hrel
    by_cases hlt : i < 4
    · have hS0 := Lib.hid hS; clear hS
      obtain ⟨wo, rfl⟩ : ∃ wo : World, wo = wr := ⟨_, rfl⟩
      have hd1 : decide ((i : Int) < 4) = true := by simp; omega
      have hd2 : decide (i < 4) = true := by simp; omega
      go_wp2_with fail
      go_loopw [3, 6] (fun v k wr => ∃ j : Nat, k = .int .i64 j ∧ j ≤ 8 ∧ DigsS w d0 d1 d2 d3 (8 * i + j) v (rawsTo d0 d1 d2 d3 (8 * i + j)) wr) (fun _ k _ => 8 - (intOf k).toNat)
      case atStart => exact ⟨0, rfl, by omega, hS0.out⟩
      case round =>
        clear hS0
        obtain ⟨j, rfl, hj8, hB, hle, hl, hown⟩ := hrel
        by_cases hjl : j < 8
        · have hc := (cell_of hl i).trans (four_at _ _ _ _ i hlt)
          have hr : rawAt d0 d1 d2 d3 (8 * i + j) = (IntKind.i64.wrap (((nth d0 d1 d2 d3 i / 2 ^ (8 * j) : Nat)) : Int)).tmod 256 := by
            unfold rawAt; rw [show (8 * i + j) / 8 = i by omega, show (8 * i + j) % 8 = j by omega]
          have HR := Lib.hid (rawsTo_succ d0 d1 d2 d3 (8 * i + j))
          rw [hr] at HR
          have hrw : (wrap64 ((nth d0 d1 d2 d3 i : Int) / 2 ^ (8 * j))).tmod 256 = (IntKind.i64.wrap (((nth d0 d1 d2 d3 i / 2 ^ (8 * j) : Nat)) : Int)).tmod 256 := by simp [wrap64, IntKind.wrap_i64]
          clear hr
          generalize (IntKind.i64.wrap (((nth d0 d1 d2 d3 i / 2 ^ (8 * j) : Nat)) : Int)).tmod 256 = r at *
          generalize nth d0 d1 d2 d3 i = y at *
          have HB := Lib.hid hB; have HL := Lib.hid hl; have HO := Lib.hid hown
          clear hB hl hown
          go_wp2_with (at_builtin; refine wpList_append_own _ rfl _ _ 88 rfl (w.heap.size + 1 + 1) 3 i0 (.int .i64 0) 1 8 Try.underlying88 hi hz0 hz1 hz2 rfl (by decide) _ _ _ rfl (HO.out.alloc _) ⟨wr.heap.size, 0, none⟩ 1 1 [.int .i64 r] rfl rfl ?c1 ?c2 ?c3 ?c4 ?c5 ?_)
          case c1 =>
            intro j u hj
            match j, hj with
            | 0, hj => simp at hj; subst hj; simp [Addr.add]
          case c2 => intro u hu; simp at hu; subst hu; rfl
          case c3 => unfold maxLen; omega
          case c4 => omega
          case c5 => simp; omega
          intro v' w1 hown' hgrow _
          have HE := Lib.hid (digs_grown HB.out hle HL.out HO.out hgrow hown')
          rw [show rawsTo d0 d1 d2 d3 (8 * i + j) ++ [.int .i64 r] = rawsTo d0 d1 d2 d3 (8 * i + j + 1) from HR.out.symm] at HE
          clear hown' hgrow HB HL HO hc hrw
          go_wp2_with fail
          go_roundw
          case rel => exact ⟨j + 1, by go_num, by omega, HE.out⟩
          case measure => simp [intOf]; omega
        · obtain rfl : j = 8 := by omega
          have HS := Lib.hid (show DigsS w d0 d1 d2 d3 (8 * (i + 1)) _ (rawsTo d0 d1 d2 d3 (8 * (i + 1))) wr from ⟨hB, hle, hl, by rw [show 8 * (i + 1) = 8 * i + 8 by omega]; exact hown⟩)
          clear hB hl hown
          go_wp2_with fail
          go_roundw
          case rel => exact ⟨i + 1, by go_num, by omega, HS.out⟩
          case measure => simp [intOf]; omega
    · obtain rfl : i = 4 := by omega
      obtain ⟨hB, hle, hl, hown⟩ := hS
      rw [← mixTo_zero x] at hown
      obtain ⟨g, cap, rfl⟩ := ownsRow_form hown (by omega)
      have HS := Lib.hid (And.intro hB (And.intro hle hown))
      clear hB hl hown
      go_wp2_with fail
      go_loopw [7] (fun i wr => ∃ k : Nat, i = .int .i64 k ∧ k ≤ 32 ∧ Below w.heap.size w wr ∧ w.heap.size + 1 + 1 ≤ wr.heap.size ∧ wr.ownsRow (w.heap.size + 1 + 1) 3 1 (.slice (some ⟨g, 0, none⟩) 32 cap) 32 (mixTo x d0 d1 d2 d3 k)) (fun i _ => 32 - (intOf i).toNat)
      case atStart => exact ⟨0, rfl, by omega, HS.out.1, HS.out.2.1, HS.out.2.2⟩
      case round =>
        clear HS
        obtain ⟨k, rfl, hk, hB, hle, hown⟩ := hrel
        by_cases hlt : k < 32
        · have hc := (hown.cellAt k (by omega)).trans (mixTo_at _ _ _ _ _ _ _ hlt)
          rw [if_neg (by omega)] at hc
          have hf := hown.frozenAt k
          obtain ⟨hb, hr1, hr2⟩ := raw_byte HX.out hlt
          have hbl : byteOf x k < 256 := Nat.mod_lt _ (by decide)
          have hst := hown.stored k (.int .i64 (byteOf x k : Int))
          rw [mixTo_set _ _ _ _ _ _ hlt] at hst
          have hlt2 := (hown.lt g rfl)
          have HE := Lib.hid (And.intro (show Below w.heap.size w (wr.setCell ⟨g, k, none⟩ (.int .i64 (byteOf x k : Int))) from hB.setCell (by show w.heap.size ≤ g; omega) _) (And.intro (show w.heap.size + 1 + 1 ≤ (wr.setCell ⟨g, k, none⟩ (.int .i64 (byteOf x k : Int))).heap.size by simpa using hle) hst.1))
          clear hst hB hown
          generalize rawAt d0 d1 d2 d3 k = r at *
          generalize byteOf x k = b at *
          have hw : IntKind.i64.wrap (r + 256) = r + 256 := IntWalk.i64_in _ (by omega)
          go_wp2_with fail
          go_roundw
          case rel => exact ⟨k + 1, by go_num, by omega, HE.out.1, HE.out.2.1, HE.out.2.2⟩
          case measure => simp [intOf]; omega
        · obtain rfl : k = 32 := by omega
          rw [mixTo_all] at hown
          have HO := Lib.hid hown; have HB := Lib.hid hB
          clear hown hB
          go_wp2_with fail
          go_ret
          exact ⟨_, rfl, ownsRow_from HO.out (by omega), HB.out⟩

end Go.Proofs.Ytbhijjegkpjkcaa
end
section
namespace Go.Proofs.Ytbhijjegkpjkcaa
open Go.RowKit
attribute [local go_sem ↓] Go.wp_at_zero Go.wp_at_succ

theorem Fr.c5 {w W : World} {B N : Nat} {L : List (Nat × Array Value × TypeId)} (h : Fr w B N L W) {b : Nat} {v0 v1 v2 v3 : Value} {t : TypeId} (hm : (b, #[v0, v1, v2, v3], t) ∈ L) :
    W.cell? ⟨b, 0, none⟩ = some v0 ∧ W.cell? ⟨b, 1, none⟩ = some v1 ∧ W.cell? ⟨b, 2, none⟩ = some v2 ∧ W.cell? ⟨b, 3, none⟩ = some v3 :=
  (cells4 (h.know _ hm).2).1

theorem dig_one {n : Nat} (h : n < M64) : Dig n n 0 0 0 := ⟨h, by decide, by decide, by decide, by simp⟩
theorem low_of {x a3 a2 a1 a0 : Nat} (hx : Dig x a0 a1 a2 a3) (h : x < M64) : x = a0 := by
  obtain ⟨h0, h1, h2, h3, rfl⟩ := hx
  unfold M64 at *
  omega

end Go.Proofs.Ytbhijjegkpjkcaa
end
section
namespace Go.Proofs.Ytbhijjegkpjkcaa
open Go.RowKit Go.Joins

/-- The number of the first k bytes. -/
def lowB (b : Nat → Nat) : Nat → Nat
  | 0 => 0
  | k + 1 => lowB b k + b k * 256 ^ k
theorem lowB_byte (y k : Nat) : lowB (byteOf y) k = y % 256 ^ k := by
  induction k with
  | zero => simp [lowB, Nat.mod_one]
  | succ k ih =>
    simp only [lowB, ih]
    rw [Nat.mod_pow_succ, byteOf, Nat.mul_comm]

/-- What Join knows at the head of a round. -/
def JoinRel (w : World) (b : Nat → Nat) (k : Nat) (W : World) : Prop :=
  ∃ d0 d1 d2 d3, Dig (lowB b k) d0 d1 d2 d3 ∧ lowB b k < 256 ^ k ∧ Fr w w.heap.size (w.heap.size + 1) [(w.heap.size, #[.int .u64 0, .int .u64 0, .int .u64 0, .int .u64 0], 24)] W ∧ W.heap[w.heap.size + 1]? = some (.cells (four d0 d1 d2 d3) 22 (0, 0))

set_option maxRecDepth 100000 in
set_option maxHeartbeats 4000000 in
theorem Join_c {b : Nat → Nat} {n g cap : Nat} (hn : 32 ≤ n) (hcap : n ≤ maxLen) (w : World) (hg : g < w.heap.size) (hx : ∀ j, j < 32 → w.cell? ⟨g, j, none⟩ = some (.int .i64 (b j : Nat))) (hb : ∀ j, b j < 256) :
    Calls Try.prog 51 #[.slice (some ⟨g, 0, none⟩) n cap] w (RetD (lowB b 32) w) := by
  unfold maxLen at hcap
  have H := Fr.one w #[.int .u64 0, .int .u64 0, .int .u64 0, .int .u64 0] 24
  have H0 := Lib.hid (show JoinRel w b 0 _ from ⟨0, 0, 0, 0, ⟨by decide, by decide, by decide, by decide, rfl⟩, by simp [lowB], H.alloc (.cells (four 0 0 0 0) 22), by rw [← alloc_size w (.cells #[.int .u64 0, .int .u64 0, .int .u64 0, .int .u64 0] 24)]; exact heap_alloc_new _ _⟩)
  have HX := Lib.hid hx; clear hx H
  have hmk : ∀ w : World, (Instr.makeSlice 124 (.int .i64 4) (.int .i64 4)).run Try.prog w = .ok (.slice (some ⟨w.heap.size, 0, none⟩) 4 4) (w.alloc (.cells #[.int .u64 0, .int .u64 0, .int .u64 0, .int .u64 0] 22)) := fun _ => by kernel_rfl
  go_enter Try.func51, Try.ntmps51
  go_wp2_with fail
  go_loopw [4] (fun i wr => ∃ k : Nat, i = .int .i64 k ∧ k ≤ 32 ∧ JoinRel w b k wr) (fun i _ => 32 - (intOf i).toNat)
  case atStart => exact ⟨0, rfl, by omega, H0.out⟩
  case round =>
    clear H0
    obtain ⟨k, rfl, hk32, d0, d1, d2, d3, hD, hv, hF, hl⟩ := hrel
    have hnk : (32 : Int) ≤ (n : Int) := by omega
    by_cases hk : k < 32
    · have hbk := hb k
      have HL := Lib.hid (show lowB b (k + 1) = lowB b k + b k * 256 ^ k from rfl)
      have hcx : wr.cell? ⟨g, k, none⟩ = some (.int .i64 (b k : Nat)) := (hF.below.cell (p := ⟨g, k, none⟩) hg).trans (HX.out k hk)
      generalize b k = bb at *
      obtain ⟨p1, p2, p3, e0, e1, e2, e3, p4, p5⟩ := of_step hD hv (by omega) hbk
      have g5 : (0 : Int) ≤ (k : Int) / 8 := by omega
      have g6 : (k : Int) / 8 < 4 := by omega
      have c1 := (cell_of hl (k / 8)).trans (four_at _ _ _ _ _ (by omega))
      have f1 := free_of hl (k / 8)
      have hdm : nth d0 d1 d2 d3 (k / 8) < M64 := hD.nth _
      have ho : Go.bits .or .u64 (nth d0 d1 d2 d3 (k / 8) : Int) (IntKind.u64.wrap ((bb : Int) * 2 ^ (8 * (k % 8)))) = ((nth d0 d1 d2 d3 (k / 8) + bb * 2 ^ (k % 8 * 8) : Nat) : Int) := by
        have e1 : ((bb : Int) * 2 ^ (8 * (k % 8))) = ((bb * 2 ^ (k % 8 * 8) : Nat) : Int) := by rw [Nat.mul_comm (k % 8)]; simp
        rw [e1, wrap_nat _ p2, or64 _ _ hdm p2, or_add _ _ _ p1]
      have hlt1 : decide ((k : Int) < 32) = true := by simp; omega
      have hlt2 : decide ((k : Int) < (n : Int)) = true := by simp; omega
      have hlt3 : decide (k < n) = true := by simp; omega
      have hwb : IntKind.u64.wrap (bb : Int) = (bb : Int) := wrap_nat _ (by unfold M64; omega)
      have HP := Lib.hid p5; have HV := Lib.hid p3; have HD := Lib.hid p4; have Hl := Lib.hid hl; have HF := Lib.hid hF
      clear p1 p2 p3 p4 p5 hl hF hdm hv hD
      generalize nth d0 d1 d2 d3 (k / 8) + bb * 2 ^ (k % 8 * 8) = z at *
      generalize nth d0 d1 d2 d3 (k / 8) = d at *
      go_wp2_with fail
      go_region
      go_wp2_with fail
      go_roundw
      case rel =>
        refine ⟨k + 1, by go_num, by omega, e0, e1, e2, e3, by rw [HL.out]; exact HD.out, by rw [HL.out]; exact HV.out, (HF.out.set (by simp) _).drew, ?_⟩
        exact (heap_setCell_same _ _ _ _ _ _ Hl.out).trans (by rw [HP.out])
      case measure => simp [intOf]; omega
    · obtain rfl : k = 32 := by omega
      obtain ⟨c, _⟩ := cells4 hl
      have k0 := (hF.know _ (.head _)).2
      have k1 := cells4 k0
      have n0 := hF.lt (.head _)
      have HF := Lib.hid hF; have HD := Lib.hid hD; have K0 := Lib.hid k0
      clear hl hF hD hv k0 HX hb
      go_wp2_with fail
      go_region
      go_wp2_with fail
      exact bodyPost_ret (results_cell_row Try.results51 _ _ _ _ _ _ _ rfl (heap_set4 K0.out _ _ _ _) Try.underlying24 rfl (by kernel_rfl)) rfl
        ⟨_, _, _, _, rfl, HD.out, (below_set4 HF.out.below (by omega) _ _ _ _).drew⟩

end Go.Proofs.Ytbhijjegkpjkcaa
end
section
namespace Go.Proofs.Ytbhijjegkpjkcaa
open Go.RowKit Go.Joins

/-- A slice that holds the n bytes b, as ints. -/
def BytesRow (w : World) (v : Value) (n : Nat) (b : Nat → Nat) : Prop :=
  ∃ g cap, v = .slice (some ⟨g, 0, none⟩) n cap ∧ g < w.heap.size ∧ ∀ j, j < n → w.cell? ⟨g, j, none⟩ = some (.int .i64 (b j : Nat))
theorem BytesRow.call {w w1 : World} {v : Value} {n : Nat} {b : Nat → Nat} (h : BytesRow w v n b) (hb : Below w.heap.size w w1) : BytesRow w1 v n b := by
  obtain ⟨g, cap, rfl, hg, hc⟩ := h
  exact ⟨g, cap, rfl, Nat.lt_of_lt_of_le hg hb.size, fun j hj => (hb.cell (p := ⟨g, j, none⟩) hg).trans (hc j hj)⟩
theorem BytesRow.of_owns {w : World} {base : Nat} {v : Value} {n : Nat} {b : Nat → Nat} (h : w.ownsRow base 3 1 v n ((List.range n).map fun j => Value.int .i64 (b j : Nat))) (hn : 0 < n) : BytesRow w v n b := by
  obtain ⟨g, cap, rfl⟩ := ownsRow_form h hn
  refine ⟨g, cap, rfl, (h.lt g rfl).2, fun j hj => ?_⟩
  rw [h.cellAt j (by omega)]
  simp [hj]
def RetBytes (n : Nat) (b : Nat → Nat) (w : World) (e : Ending) (w' : World) : Prop :=
  ∃ v : Value, e = .returned v ∧ BytesRow w' v n b ∧ Below w.heap.size w w'

theorem Digits_b {x d3 d2 d1 d0 : Nat} (hx : Dig x d0 d1 d2 d3) (w : World) :
    Calls Try.prog 42 #[.agg #[.int .u64 d3, .int .u64 d2, .int .u64 d1, .int .u64 d0]] w (RetBytes 32 (byteOf x) w) := by
  refine (Digits_c hx w).mono ?_
  rintro e w' ⟨v, rfl, ho, hb⟩
  exact ⟨v, rfl, BytesRow.of_owns ho (by decide), hb⟩
theorem Join_b {b : Nat → Nat} {n : Nat} {v : Value} (hn : 32 ≤ n) (hcap : n ≤ maxLen) (w : World) (hv : BytesRow w v n b) (hb : ∀ j, b j < 256) :
    Calls Try.prog 51 #[v] w (RetD (lowB b 32) w) := by
  obtain ⟨g, cap, rfl, hg, hc⟩ := hv
  exact Join_c hn hcap w hg (fun j hj => hc j (by omega)) hb

/-- A list's byte, 0 past its end; what is carried into byte k of a sum; byte k of it. -/
def upTo (n : Nat) (b : Nat → Nat) (j : Nat) : Nat := if j < n then b j else 0
def cry (a b : Nat → Nat) : Nat → Nat
  | 0 => 0
  | k + 1 => (cry a b k + a k + b k) / 256
def sumAt (a b : Nat → Nat) (k : Nat) : Nat := (cry a b k + a k + b k) % 256
theorem sumAt_lt (a b : Nat → Nat) (k : Nat) : sumAt a b k < 256 := Nat.mod_lt _ (by decide)
theorem cry_le {a b : Nat → Nat} (ha : ∀ j, a j < 256) (hb : ∀ j, b j < 256) (k : Nat) : cry a b k ≤ 1 := by
  induction k with
  | zero => simp [cry]
  | succ k ih => have := ha k; have := hb k; simp only [cry]; omega
theorem sum_low (a b : Nat → Nat) (k : Nat) : lowB (sumAt a b) k + cry a b k * 256 ^ k = lowB a k + lowB b k := by
  induction k with
  | zero => simp [lowB, cry]
  | succ k ih =>
    simp only [lowB, cry, sumAt]
    have e := Nat.mod_add_div (cry a b k + a k + b k) 256
    have h2 : (cry a b k + a k + b k) * 256 ^ k = cry a b k * 256 ^ k + a k * 256 ^ k + b k * 256 ^ k := by rw [Nat.add_mul, Nat.add_mul]
    have h3 : ((cry a b k + a k + b k) % 256 + 256 * ((cry a b k + a k + b k) / 256)) * 256 ^ k = (cry a b k + a k + b k) * 256 ^ k := by rw [e]
    rw [Nat.add_mul, Nat.mul_comm 256, Nat.mul_assoc, ← Nat.pow_succ'] at h3
    rw [Nat.pow_succ'] at h3 ⊢
    omega

def sumsTo (a b : Nat → Nat) (n : Nat) : List Value := (List.range n).map fun j => Value.int .i64 (sumAt a b j : Nat)
theorem sumsTo_succ (a b : Nat → Nat) (n : Nat) : sumsTo a b (n + 1) = sumsTo a b n ++ [.int .i64 (sumAt a b n : Nat)] := by
  simp [sumsTo, List.range_succ]

theorem below_grown {w wr w1 : World} {n : Nat} {v : Value} {xs : List Value} {o : Obj} (hB : Below w.heap.size w wr) (hown : wr.ownsRow w.heap.size 3 1 v n xs)
    (hg : (wr.alloc o).grownBy w1 v.ownBlock) : Below w.heap.size w w1 := by
  have hs := hB.size
  exact (hB.alloc hs o).grown hg (by rw [alloc_size]; omega) (fun j hj => by have := (hown.lt j hj).1; omega)

end Go.Proofs.Ytbhijjegkpjkcaa
end
