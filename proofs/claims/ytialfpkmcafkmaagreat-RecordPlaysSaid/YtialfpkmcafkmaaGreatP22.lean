/- Opening a slice of deeds among a law's arguments. -/
import Derived.Test.YtialfpkmcafkmaaGreatQPlain
import Derived.Test.YtialfpkmcafkmaaGreatP21
import Derived.Deep.SlicePairs
import Derived.Carry
import Derived.SizedLaws
namespace Go.Proofs.YtialfpkmcafkmaaGreat
open Go.ChangeShapes Go.WideShapes Go.ChangeAt Go.RowKit

section
variable {H : Type} {enc : TypeId × Value → H} {w : World} {base : Nat} {held : Bool} {r : Reach} {b0 : Nat} {v : Value} {d : DataW H} {p : List MemPlace}
theorem weights_all {P : Program} {e : TypeId} {l : List (DataW H)} {d : DataW H} (hd : d ∈ l) {n : Nat} (hn : n ∈ d.weights P e) : n ∈ DataW.weightsAll P e l := by
  induction l with
  | nil => cases hd
  | cons x l ih =>
    simp only [DataW.weightsAll, List.mem_append]
    rcases List.mem_cons.1 hd with rfl | hd
    · exact Or.inl hn
    · exact Or.inr (ih hd)
theorem i64_wf {n : Int} (h : (Lit.int .i64 n).wf = true) : -9223372036854775808 ≤ n ∧ n ≤ 9223372036854775807 := by
  simpa [Lit.wf, IntKind.min, IntKind.max, IntKind.signed, IntKind.bits] using h
set_option maxRecDepth 100000 in
theorem open_deeds (hv : Value.okWide Tryz.prog w r b0 23 v) (h : DataW.Trod enc Tryz.prog w base (fun _ => true) held 23 v d p) (hz : ∀ n ∈ d.weights Tryz.prog 23, n ≤ reachBytes) :
    ∃ (pa : Option Addr) (pc : Nat) (l : List Du), v = .slice pa l.length pc ∧ Deeds w pa l ∧ l.length ≤ maxLen := by
  obtain ⟨a0, len, cap, rfl⟩ := okWide_slice Tryz.underlying23 hv
  obtain ⟨fuel, hf⟩ := h
  rcases Go.Deep.open_slice Tryz.underlying23 hf with ⟨hcs, _⟩ | ⟨a, len', cap', m, n, D, Pl, hcs, _, hl, hm0, hm, hx, hall⟩
  · simp [Value.cells] at hcs
    obtain ⟨rfl, rfl, rfl⟩ := hcs
    exact ⟨none, 0, [], rfl, Or.inl rfl, by simp⟩
  · simp [Value.cells] at hcs
    obtain ⟨rfl, rfl, rfl⟩ := hcs
    simp only [if_true] at hm
    subst hm
    simp only [Prod.mk.injEq] at hx
    obtain ⟨rfl, _⟩ := hx
    by_cases h0 : len = 0
    · subst h0
      exact ⟨some a, m, [], rfl, Or.inl rfl, by simp⟩
    · have ce : Tryz.prog.cellsOf 34 = 5 := by kernel_rfl
      have each : ∀ i, i < len → ∃ u : Du, u.Ok ∧ w.cell? (a.add (i * 5)) = some (.int .u8 u.k) ∧ w.cell? (a.add (i * 5 + 1)) = some (.int .u8 u.a) ∧ w.cell? (a.add (i * 5 + 2)) = some (.string (str u.s)) ∧ w.cell? (a.add (i * 5 + 3)) = some (.int .i64 u.n) ∧ w.cell? (a.add (i * 5 + 4)) = some (.int .i64 u.m) := by
        intro i hi
        obtain ⟨cs', h1, h2⟩ := hall i (by omega)
        rw [ce] at h1
        obtain ⟨_, hlen, hcell⟩ := World.cells?_some h1
        obtain ⟨xs, k, _, hxy, _, hxl, hfs⟩ := DataW.trod_struct Tryz.underlying34 h2
        match xs, hxl, cs', hlen with
        | [y0, y1, y2, y3, y4], _, [v0, v1, v2, v3, v4], _ =>
          have g0 := hfs 0 _ rfl
          have g1 := hfs 1 _ rfl
          have g2 := hfs 2 _ rfl
          have g3 := hfs 3 _ rfl
          have g4 := hfs 4 _ rfl
          have c8 : Tryz.prog.cellsOf 5 = 1 := by kernel_rfl
          have cs : Tryz.prog.cellsOf 9 = 1 := by kernel_rfl
          have ci : Tryz.prog.cellsOf 3 = 1 := by kernel_rfl
          simp [c8, cs, ci] at g0 g1 g2 g3 g4
          have e0 := hcell 0 (by omega)
          have e1 := hcell 1 (by omega)
          have e2 := hcell 2 (by omega)
          have e3 := hcell 3 (by omega)
          have e4 := hcell 4 (by omega)
          rw [Go.Deep.add_add] at e0 e1 e2 e3 e4
          simp only [Prod.mk.injEq] at hxy
          obtain ⟨z0, q0, _, w0⟩ := DataW.trod_int Tryz.underlying5 g0
          obtain ⟨z1, q1, _, w1⟩ := DataW.trod_int Tryz.underlying5 g1
          obtain ⟨s2, q2, d2, w2⟩ := DataW.trod_string Tryz.underlying9 g2
          obtain ⟨z3, q3, _, w3⟩ := DataW.trod_int Tryz.underlying3 g3
          obtain ⟨z4, q4, _, w4⟩ := DataW.trod_int Tryz.underlying3 g4
          obtain ⟨z0, rfl, b0⟩ := u8_of w0
          obtain ⟨z1, rfl, b1⟩ := u8_of w1
          have hD : D i ∈ (List.range len).map D := List.mem_map.2 ⟨i, List.mem_range.2 hi, rfl⟩
          have hmem : s2.data.toList.length ∈ (D i).weights Tryz.prog 34 := by
            rw [hxy.1, d2]
            simp [DataW.weights, Tryz.underlying34, DataW.weightsEach]
          have hs2 := hz s2.data.toList.length (by
            simp only [DataW.weights, Tryz.underlying23]
            exact List.mem_cons_of_mem _ (List.mem_append_left _ (weights_all hD hmem)))
          have h3 : reachBytes = 140737488351232 := rfl
          refine ⟨⟨z0, z1, s2.data.toList, z3, z4⟩, ⟨b0, b1, by show s2.data.toList.length ≤ _; omega, i64_wf w3⟩, ?_, ?_, ?_, ?_, ?_⟩
          · rw [Nat.add_zero] at e0; rw [e0]; simpa using q0
          · rw [e1]; simpa using q1
          · rw [e2, show str s2.data.toList = s2 from str_of s2]; simpa using q2
          · rw [e3]; simpa using q3
          · rw [e4]; simpa using q4
      haveI : Inhabited Du := ⟨⟨0, 0, [], 0, 0⟩⟩
      obtain ⟨f, hfu⟩ := Go.Deep.choose_lt each
      have hlen : ((List.range len).map f).length = len := by rw [List.length_map, List.length_range]
      obtain ⟨g, o, spot⟩ := a
      have hspot : spot = none := by
        have c := (hfu 0 (by omega)).2.1
        simpa [Addr.add] using World.cell?_spot c
      subst hspot
      have hg : g < w.heap.size := by
        have c := (hfu 0 (by omega)).2.1
        rcases Nat.lt_or_ge g w.heap.size with h' | h'
        · exact h'
        · simp [World.cell?, Addr.add, Array.getElem?_eq_none h'] at c
      refine ⟨some ⟨g, o, none⟩, m, (List.range len).map f, by rw [hlen], Or.inr ⟨g, o, rfl, hg, fun i u hu => ?_⟩, by rw [hlen]; omega⟩
      have hi : i < len := by
        rcases Nat.lt_or_ge i len with h | h
        · exact h
        · rw [List.getElem?_eq_none (by rw [hlen]; exact h)] at hu; cases hu
      obtain rfl : f i = u := by simpa [hi] using hu
      obtain ⟨k0, k1, k2, k3, k4, k5⟩ := hfu i hi
      rw [Go.WideShapes.add_plain] at k1 k2 k3 k4 k5
      exact ⟨k0, k1, k2, k3, k4, k5⟩
end
end Go.Proofs.YtialfpkmcafkmaaGreat
