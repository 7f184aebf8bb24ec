/- Opening a slice of parts among a law's arguments. -/
import Derived.Test.YtgaaalacoeainaaLPlain
import Derived.Test.YtgaaalacoeainaaLt6
import Derived.Deep.SlicePairs
import Derived.Carry
namespace Go.Proofs.Ytgaaalacoeainaa
open Go.ChangeShapes Go.WideShapes Go.ChangeAt Go.RowKit

theorem u16_of {n : Int} (h : (Lit.int .u16 n).wf = true) : ∃ k : Nat, n = (k : Int) ∧ k < 65536 := by
  have h' : 0 ≤ n ∧ n ≤ 65535 := by simpa [Lit.wf, IntKind.min, IntKind.max, IntKind.signed, IntKind.bits] using h
  exact ⟨n.toNat, by omega, by omega⟩
theorem laidOut : laidOutB Try.prog = true := by kernel_rfl
theorem pat_of {W : World} {g : Nat} : ∀ (n o : Nat), (∀ i, i < n → ∃ (k : Nat) (s : List UInt8), k < 256 ∧ s.length ≤ 9223372036854775807 ∧ W.cell? ⟨g, o + i * 2, none⟩ = some (.int .u8 (k : Nat)) ∧ W.cell? ⟨g, o + i * 2 + 1, none⟩ = some (.string (str s))) →
    ∃ l : List (Nat × List UInt8), l.length = n ∧ PAt W g o l := by
  intro n
  induction n with
  | zero => intro o _; exact ⟨[], rfl, trivial⟩
  | succ n ih =>
    intro o h
    obtain ⟨k, s, h1, h2, h3, h4⟩ := h 0 (by omega)
    obtain ⟨l, e, hl⟩ := ih (o + 2) (fun i hi => by
      have := h (i + 1) (by omega)
      rwa [show o + (i + 1) * 2 = o + 2 + i * 2 by omega] at this)
    refine ⟨(k, s) :: l, by simp [e], ⟨h1, h2, ?_, ?_⟩, hl⟩
    · simpa using h3
    · simpa using h4
section
variable {H : Type} {enc : TypeId × Value → H} {w : World} {base : Nat} {held : Bool} {r : Reach} {b0 : Nat} {v : Value} {d : DataW H} {p : List MemPlace}
theorem open_parts (hv : Value.okWide Try.prog w r b0 22 v) (h : DataW.Trod enc Try.prog w base (fun _ => true) held 22 v d p) :
    ∃ (pa : Option Addr) (pc : Nat) (l : List (Nat × List UInt8)), v = .slice pa l.length pc ∧ Parts w pa pc l := by
  obtain ⟨a0, len, cap, rfl⟩ := okWide_slice Try.underlying22 hv
  obtain ⟨fuel, hf⟩ := h
  rcases Go.Deep.open_slice_pairs Try.underlying22 Try.underlying57 (by kernel_rfl) rfl rfl (by kernel_rfl) (by kernel_rfl) hf with ⟨hcs, _⟩ | ⟨a, len', cap', m, n, V0, V1, D0, D1, P0, P1, hcs, _, hl, _, hm, _, hx⟩
  · simp [Value.cells] at hcs
    obtain ⟨rfl, rfl, rfl⟩ := hcs
    exact ⟨none, 0, [], rfl, Nat.le_refl _, Or.inl rfl⟩
  · simp [Value.cells] at hcs
    obtain ⟨rfl, rfl, rfl⟩ := hcs
    simp only [if_true] at hm
    subst hm
    by_cases h0 : len = 0
    · subst h0
      exact ⟨some a, m, [], rfl, Nat.zero_le _, Or.inl rfl⟩
    · obtain ⟨g, o, spot⟩ := a
      have hspot : spot = none := by simpa [Addr.add] using World.cell?_spot (hx 0 (by omega)).1
      subst hspot
      obtain ⟨l, e, hp⟩ := pat_of (W := w) (g := g) len o (fun i hi => by
        obtain ⟨c0, c1, t0, t1⟩ := hx i (by omega)
        rw [Go.WideShapes.add_plain] at c0 c1
        obtain ⟨z, e0, _, hz⟩ := DataW.trod_int Try.underlying5 t0
        obtain ⟨s, e1, _, hs⟩ := DataW.trod_string Try.underlying9 t1
        have hz' : 0 ≤ z ∧ z ≤ 255 := by simpa [Lit.wf, IntKind.min, IntKind.max, IntKind.signed, IntKind.bits] using hz
        refine ⟨z.toNat, s.data.toList, by omega, ?_, ?_, ?_⟩
        · have : maxLen = 9223372036854775807 := by decide
          have h2 : s.data.toList.length = s.size := by simp
          omega
        · rw [c0, show V0 i = .int .u8 z by simpa using e0, Int.toNat_of_nonneg hz'.1]
        · rw [Nat.add_assoc, c1, show V1 i = .string s by simpa using e1, str_list])
      have hg : g < w.heap.size := by
        have c := (hx 0 (by omega)).1
        rcases Nat.lt_or_ge g w.heap.size with h' | h'
        · exact h'
        · simp [World.cell?, Addr.add, Array.getElem?_eq_none h'] at c
      exact ⟨_, m, l, by rw [e], by rw [e]; exact hl, Or.inr ⟨g, o, rfl, hg, hp⟩⟩
end
end Go.Proofs.Ytgaaalacoeainaa
