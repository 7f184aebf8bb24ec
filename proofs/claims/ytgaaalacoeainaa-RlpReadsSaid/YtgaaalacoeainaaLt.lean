/- Clone; items that are alike. -/
import Derived.Test.YtgaaalacoeainaaLh
import Derived.Lib.SliceRun
namespace Go.Proofs.Ytgaaalacoeainaa
open Go.RowKit

theorem infoItem' : (Try.prog.info? 27).map (fun i => (i.zero, i.size, i.bytes)) = some (some (.agg #[.bool false, .string ⟨#[]⟩, .slice none 0 0]), 3, 48) := by kernel_rfl
theorem addr_add (g o j : Nat) : (⟨g, o, none⟩ : Addr).add j = ⟨g, o + j, none⟩ := by unfold Addr.add; split <;> simp_all
/-- The cells in which items lie. -/
theorem Fo.At.cells {S : Nat → Prop} {W : World} : ∀ (f : Fo) (g o : Nat), f.At S g o W → ∃ xs, Cel S f xs W ∧ (∀ j u, xs[j]? = some u → W.cell? ⟨g, o + j, none⟩ = some u) ∧ ∀ u ∈ xs, u.oneCell' = true := by
  intro f
  induction f with
  | nil => intro g o _; exact ⟨[], rfl, fun j u h => by simp at h, fun u h => by simp at h⟩
  | text s r ih =>
    intro g o ⟨⟨h1, h2, h3⟩, h4⟩
    obtain ⟨ys, a1, a2, a3⟩ := ih g _ h4
    refine ⟨_, ⟨ys, rfl, a1⟩, fun j u hj => ?_, fun u hu => ?_⟩
    · rcases j with _ | _ | _ | j
      · simp at hj; subst hj; exact h1
      · simp at hj; subst hj; exact h2
      · simp at hj; subst hj; exact h3
      · rw [show o + (j + 1 + 1 + 1) = o + 3 + j by omega]; exact a2 j u (by simpa using hj)
    · simp only [List.mem_cons] at hu
      rcases hu with rfl | rfl | rfl | hu
      · rfl
      · rfl
      · rfl
      · exact a3 u hu
  | list i r _ ih =>
    intro g o ⟨⟨h1, h2, v, h3, h5⟩, h4⟩
    obtain ⟨ys, a1, a2, a3⟩ := ih g _ h4
    have hv : SlF S i v W := h5
    refine ⟨_, ⟨v, ys, rfl, hv, a1⟩, fun j u hj => ?_, fun u hu => ?_⟩
    · rcases j with _ | _ | _ | j
      · simp at hj; subst hj; exact h1
      · simp at hj; subst hj; exact h2
      · simp at hj; subst hj; exact h3
      · rw [show o + (j + 1 + 1 + 1) = o + 3 + j by omega]; exact a2 j u (by simpa using hj)
    · simp only [List.mem_cons] at hu
      rcases hu with rfl | rfl | rfl | hu
      · rfl
      · rfl
      · obtain ⟨a, n, c, rfl⟩ := hv.form; rfl
      · exact a3 u hu
/-- A slice whose row may be written: it lies from block B on. -/
def Ow (B : Nat) (v : Value) (W : World) : Prop := ∃ g n cap cur, v = .slice (some ⟨g, 0, none⟩) n cap ∧ B ≤ g ∧ W.heap[g]? = some (.cells cur 27 (0, 0))
set_option maxRecDepth 100000 in
set_option maxHeartbeats 1000000 in
theorem clone_c {S : Nat → Prop} {f : Fo} {v : Value} {W : World} (h : SlF S f v W) (hS : ∀ k, S k → k < W.heap.size) (hn : f.len ≤ 1000000) :
    Calls Try.prog 42 #[v] W fun e W' => ∃ v', e = .returned v' ∧ Below W.heap.size W W' ∧ (v = .slice none 0 0 → v' = .slice none 0 0) ∧ SlF (fun k => S k ∨ (W.heap.size ≤ k ∧ ∃ cur, W'.heap[k]? = some (.cells cur 27 (0, 0)))) f v' W' ∧ (v' = .slice none 0 0 ∨ Ow W.heap.size v' W') := by
  have hq : ∀ (w : World) (a : Option Addr) (n c n' c' : Nat), (binOp .eql 25 (.slice a n c) (.slice none n' c')).run Try.prog w = .ok (.bool a.isNone) w := fun w a n c n' c' => Lib.run_eql_slice_nil w _ _ a n c n' c' Try.underlying25
  rcases h with ⟨rfl, rfl⟩ | ⟨g, o, c, rfl, hg, hc, ha⟩
  · go_enter Try.func42, Try.ntmps42
    go_wp2_with fail
    go_ret
    exact ⟨_, rfl, Below.refl _ _, fun _ => rfl, Or.inl ⟨rfl, rfl⟩, Or.inl rfl⟩
  · obtain ⟨xs, hx1, hx2, hx3⟩ := Fo.At.cells f g o ha
    have HX := Lib.hid (And.intro hx1 (And.intro hx2 (And.intro hx3 hg)))
    clear ha hx1 hx2 hx3 hg
    go_enter Try.func42, Try.ntmps42
    obtain ⟨i0, hi, hz0, hz1, hz2⟩ := info_parts infoItem'
    have HI := Lib.hid (And.intro hi (And.intro hz0 (And.intro hz1 hz2)))
    clear hi hz0 hz1 hz2
    have hcel := Lib.hid (Cel.length f xs HX.out.1)
    go_wp2_with (at_builtin; refine wpList_append_own_at _ rfl _ _ 25 rfl W.heap.size 27 i0 _ 3 48 Try.underlying25 HI.out.1 HI.out.2.1 HI.out.2.2.1 HI.out.2.2.2 rfl (by omega) _ 0 [] (by rfl) (World.ownsRow_made W #[] 0 (Nat.le_refl _) (by simp) (by simp)) ⟨g, o, none⟩ f.len c xs (by rfl) hcel.out (fun j u hj => by rw [addr_add]; exact (World.cell?_of_block (Below.heap_alloc _ _ _ (hS g HX.out.2.2.2))).trans (HX.out.2.1 j u hj)) HX.out.2.2.1 (by unfold maxLen; omega) (by omega) (by simp) ?_; intro v2 W2 hown2 hgr2 hnil2 hbl2; obtain ⟨a2, n2, c2, rfl⟩ : ∃ a n c, v2 = .slice a n c := (by rcases hown2.2 with ⟨rfl, _⟩ | ⟨g', cap', cur', rfl, _⟩ <;> exact ⟨_, _, _, rfl⟩); have HG := Lib.hid (And.intro hown2 (And.intro hgr2 hnil2)); clear hown2 hgr2 hnil2 hbl2)
    go_ret
    obtain ⟨hown, hgr, hnil⟩ := HG.out
    rw [Nat.zero_add, List.nil_append] at hown
    have hk : ∀ k, k < W.heap.size → W2.heap[k]? = W.heap[k]? := fun k hk => (hgr.block k (by simp; omega) (fun e => by simp [Value.ownBlock] at e; omega)).trans (Below.heap_alloc _ _ _ hk)
    have hsz : W.heap.size ≤ W2.heap.size := by have := hgr.size; simp at this; omega
    have hc2 : Cel (fun k => S k ∨ (W.heap.size ≤ k ∧ ∃ cur, W2.heap[k]? = some (.cells cur 27 (0, 0)))) f xs W2 := (HX.out.1.kept (fun k h => hk k (hS k h)) f xs).mono (fun k h => Or.inl h) f xs
    rcases hown.2 with ⟨e, _⟩ | ⟨g', cap', cur', e, hb', hg', hn', _, _, _⟩
    · exact absurd (hnil.1 e).1 (by simp)
    · refine ⟨_, rfl, ⟨hgr.os, hgr.tape, hgr.output, hsz, hk⟩, fun h => by simp at h, Or.inr ⟨g', 0, cap', e, Or.inr ⟨hb', cur', hg'⟩, hn', ?_⟩, Or.inr ⟨g', _, cap', cur', e, hb', hg'⟩⟩
      refine Cel.at f xs 0 (fun j u hj => ?_) hc2
      have h := hown.cells (g := g') (by rw [e]; rfl) j u hj
      rw [addr_add] at h
      exact h
end Go.Proofs.Ytgaaalacoeainaa
