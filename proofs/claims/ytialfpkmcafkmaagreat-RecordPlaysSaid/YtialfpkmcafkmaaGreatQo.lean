/- A slice of texts that is handed in; frames in a row; zeros. -/
import Derived.Test.YtialfpkmcafkmaaGreatQm
import Derived.SliceStrings
import Derived.Carry
import Derived.ProofKit
import Derived.OpenShut
import Derived.ChangeMaps5
namespace Go.Proofs.YtialfpkmcafkmaaGreat
open Go.RowKit

/-- A slice of texts that is handed in. -/
def Txts (W : World) (a : Option Addr) (c : Nat) (l : List Nm) : Prop :=
  l.length ≤ c ∧ (l = [] ∨ ∃ g o, a = some ⟨g, o, none⟩ ∧ g < W.heap.size ∧ ∀ k t, l[k]? = some t → W.cell? ⟨g, o + k, none⟩ = some (.string (str t)))
theorem Txts.later {W W' : World} {a : Option Addr} {c : Nat} {l : List Nm} (h : Txts W a c l) (hb : Below W.heap.size W W') : Txts W' a c l := by
  obtain ⟨h1, h2⟩ := h
  refine ⟨h1, ?_⟩
  rcases h2 with h2 | ⟨g, o, e, hg, hp⟩
  · exact Or.inl h2
  · exact Or.inr ⟨g, o, e, Nat.lt_of_lt_of_le hg hb.size, fun k t hk => (World.cell?_of_block (hb.block g hg)).trans (hp k t hk)⟩
section
open Go.ChangeShapes Go.WideShapes Go.ChangeAt
variable {H : Type} {enc : TypeId × Value → H} {w : World} {base : Nat} {held : Bool} {r : Reach} {b0 : Nat} {v : Value} {d : DataW H} {p : List MemPlace}
theorem laidOut : laidOutB Tryz.prog = true := by kernel_rfl
set_option maxRecDepth 100000 in
theorem open_texts (hv : Value.okWide Tryz.prog w r b0 41 v) (h : DataW.Trod enc Tryz.prog w base (fun _ => true) held 41 v d p) :
    ∃ (pa : Option Addr) (pc : Nat) (l : List Nm), v = .slice pa l.length pc ∧ Txts w pa pc l ∧ (∀ t ∈ l, t.length ≤ maxLen) ∧ l.length ≤ maxLen := by
  obtain ⟨a0, len, cap, rfl⟩ := okWide_slice Tryz.underlying41 hv
  obtain ⟨fuel, hf⟩ := h
  rcases open_strings Tryz.underlying41 Tryz.underlying9 (by kernel_rfl) hf with ⟨hcs, _⟩ | ⟨a, len', cap', ss, hcs, _, hl, hm, hz, _, hcell, hsz⟩
  · simp [Value.cells] at hcs
    obtain ⟨rfl, rfl, rfl⟩ := hcs
    exact ⟨none, 0, [], rfl, ⟨Nat.le_refl _, Or.inl rfl⟩, by simp, by simp⟩
  · simp [Value.cells] at hcs
    obtain ⟨rfl, rfl, rfl⟩ := hcs
    simp only [if_true] at hz
    have hlen : ((ss.take len).map fun s => s.data.toList).length = len := by rw [List.length_map, List.length_take]; omega
    refine ⟨some a, cap, (ss.take len).map fun s => s.data.toList, by rw [hlen], ⟨by omega, ?_⟩, fun t ht => ?_, by omega⟩
    · by_cases h0 : len = 0
      · exact Or.inl (List.eq_nil_of_length_eq_zero (by omega))
      · obtain ⟨g, o, spot⟩ := a
        have hspot : spot = none := by simpa [Addr.add] using World.cell?_spot (hcell 0 (by omega))
        subst hspot
        have hg : g < w.heap.size := by
          have c := hcell 0 (by omega)
          rcases Nat.lt_or_ge g w.heap.size with h' | h'
          · exact h'
          · simp [World.cell?, Addr.add, Array.getElem?_eq_none h'] at c
        refine Or.inr ⟨g, o, rfl, hg, fun k t hk => ?_⟩
        have hkl : k < len := by
          rcases Nat.lt_or_ge k len with h | h
          · exact h
          · rw [List.getElem?_eq_none (by omega)] at hk; cases hk
        have hc := hcell k (by omega)
        rw [Go.WideShapes.add_plain] at hc
        rw [hc]
        rw [List.getElem?_map, List.getElem?_take_of_lt hkl] at hk
        have hks : k < ss.length := by omega
        rw [List.getElem?_eq_getElem hks] at hk
        simp only [Option.map_some, Option.some.injEq] at hk
        rw [← hk, str_of]
        simp [List.getD, List.getElem?_eq_getElem hks]
    · obtain ⟨s, hs, rfl⟩ := List.mem_map.1 ht
      have := hsz s (List.mem_of_mem_take hs)
      have h2 : s.data.toList.length = s.size := by simp
      omega
end
/-- .. and blocks that are none of the disk's, and stay. -/
def Lk (p : Pd) (d N : Nat) (K : Nat → Prop) (W0 W : World) : Prop := ∃ F, On p d N F W ∧ Chg (fun _ => False) F W0 W ∧ ∀ k, K k → ¬ F k ∧ k < W.heap.size
section
variable {p q : Pd} {d N M : Nat} {K J : Nat → Prop} {W0 W W' : World}
theorem Left.lk (h : Left p d N (fun _ => False) W0 W) : Lk p d N (fun _ => False) W0 W := by
  obtain ⟨F, h1, h2⟩ := h
  exact ⟨F, h1, h2, fun _ h => h.elim⟩
theorem Lk.left (h : Lk p d N K W0 W) : Left p d N (fun _ => False) W0 W := by
  obtain ⟨F, h1, h2, _⟩ := h
  exact ⟨F, h1, h2⟩
theorem Lk.on (h : Lk p d N K W0 W) {f : FuncId} {args : Array Value} {r : Ending} (hc : ∀ F, On p d N F W → Calls Tryz.prog f args W fun e W' => e = r ∧ Left q d M F W W') :
    Calls Tryz.prog f args W fun e W' => e = r ∧ Lk q d M K W0 W' ∧ ∀ k, K k → W'.heap[k]? = W.heap[k]? := by
  obtain ⟨F, h1, h2, h3⟩ := h
  refine (hc F h1).mono ?_
  rintro e W' ⟨rfl, F', k1, k2⟩
  exact ⟨rfl, ⟨F', k1, h2.trans k2, fun k hk => ⟨fun hf => (k2.new k hf).elim (h3 k hk).1 (fun h => by have := (h3 k hk).2; omega), Nat.lt_of_lt_of_le (h3 k hk).2 k2.size⟩⟩, fun k hk => k2.block k (h3 k hk).2 (h3 k hk).1⟩
theorem Lk.fresh (h : Lk p d N K W0 W) (hb : Below W.heap.size W W') : Lk p d N K W0 W' := by
  obtain ⟨F, h1, h2, h3⟩ := h
  exact ⟨F, h1.below hb, h2.trans (Chg.of_below hb), fun k hk => ⟨(h3 k hk).1, Nat.lt_of_lt_of_le (h3 k hk).2 hb.size⟩⟩
theorem Lk.more (h : Lk p d N K W0 W) (hb : Below W.heap.size W W') (hJ : ∀ k, J k → W.heap.size ≤ k ∧ k < W'.heap.size) : Lk p d N (fun k => K k ∨ J k) W0 W' := by
  obtain ⟨F, h1, h2, h3⟩ := h
  refine ⟨F, h1.below hb, h2.trans (Chg.of_below hb), fun k hk => ?_⟩
  rcases hk with hk | hk
  · exact ⟨(h3 k hk).1, Nat.lt_of_lt_of_le (h3 k hk).2 hb.size⟩
  · exact ⟨fun hf => by have := h1.lt hf; have := (hJ k hk).1; omega, (hJ k hk).2⟩
end
theorem OwnS.stay {B : Nat} {l : List Nm} {v : Value} {W W' : World} (h : OwnS B l v W) {K : Nat → Prop} (hk : ∀ k, K k → W'.heap[k]? = W.heap[k]?) (hv : ∀ k, v.ownBlock = some k → K k) : OwnS B l v W' := own_keep h fun k h => hk k (hv k h)
/-- Two frames, and more, are not one. -/
theorem whole_two {a b : Nm} {l : List Nm} (ha : a.length ≤ 65536) : wholeP (frs (a :: b :: l)) = none := by
  unfold wholeP
  rw [show frs (a :: b :: l) = fr a ++ (fr b ++ frs l) from rfl, firstP_fr ha]
  simp only
  rw [if_neg (by rw [List.length_append, List.length_append, fr_len, fr_len]; omega)]
theorem whole_one {a : Nm} (ha : a.length ≤ 65536) : wholeP (fr a) = some a := wholeP_some.2 ⟨ha, rfl⟩
theorem zeros_of (N : Nat) (W : World) : (convert 80 9 (.slice (some ⟨W.heap.size, 0, none⟩) N N)).run Tryz.prog (W.alloc (.cells (madeCells #[.int .u8 0] N) 5)) = .ok (.string (str (List.replicate N 0))) (W.alloc (.cells (madeCells #[.int .u8 0] N) 5)) := by
  have h := run_convert_bytes_back (P := Tryz.prog) (W.alloc (.cells (madeCells #[.int .u8 0] N) 5)) 80 9 5 ⟨W.heap.size, 0, none⟩ N (List.replicate N 0) Tryz.underlying80 Tryz.underlying5 Tryz.underlying9 (fun j hj => by
    rw [List.length_replicate] at hj
    have e : (⟨W.heap.size, 0, none⟩ : Addr).add j = ⟨W.heap.size, j, none⟩ := by unfold Addr.add; split <;> simp_all
    rw [e, cell_of (heap_alloc_new W _) j, ← Array.getElem?_toList, toList_madeCells_one, List.getElem?_replicate, if_pos hj, List.getElem_replicate]
    rfl)
  rw [List.length_replicate] at h
  exact h
end Go.Proofs.YtialfpkmcafkmaaGreat
