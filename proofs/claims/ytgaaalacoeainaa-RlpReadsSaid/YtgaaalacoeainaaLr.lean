/- Show. -/
import Derived.Test.YtgaaalacoeainaaLq
namespace Go.Proofs.Ytgaaalacoeainaa
open Go.RowKit

set_option maxRecDepth 100000 in
set_option maxHeartbeats 2000000 in
theorem show_c (S : Nat → Prop) (x : It) (v : Value) (w : World) (hS : ∀ k, S k → k < w.heap.size) (hv : ItV S x v w) (hn : x.evs.length < 900000) (hl : x.sho.length ≤ 90000000) :
    Calls Try.prog 17 #[v] w fun e w' => e = .returned (.string (str x.sho)) ∧ Below w.heap.size w w' := by
  obtain ⟨xb, xt, xa, xn, xc, rfl⟩ := hv.form
  have hm : ∀ (fn : Fn) (first cap : Array Value) (w : World), (Instr.makeFunc fn first cap).run Try.prog w = .ok (.func fn first cap) w := fun _ _ _ _ => rfl
  obtain ⟨W1, hW1⟩ : ∃ W1, W1 = (w.alloc (.cells #[.bool xb, .string xt, .slice xa xn xc] 27)).alloc (.cells #[.pointer none, .slice none 0 0, .string ⟨#[]⟩] 73) := ⟨_, rfl⟩
  have hold : ∀ k, k < w.heap.size → W1.heap[k]? = w.heap[k]? := fun k hk => by rw [hW1, heap_alloc_get, if_neg (by simp; omega), heap_alloc_get, if_neg (by omega)]
  have hsz : W1.heap.size = w.heap.size + 2 := by rw [hW1]; simp
  have hrow : W1.heap[w.heap.size + 1]? = some (.cells #[.pointer none, .slice none 0 0, .string ⟨#[]⟩] 73 (0, 0)) := by rw [hW1]; exact heap_alloc2_new _ _ _
  have hst : (shK (w.heap.size + 1) (w.heap.size + 2)).St ([], []) W1 := ⟨⟨by omega, _, _, hrow, Or.inl rfl, World.ownsRow_nil _ _ _ _⟩, by omega⟩
  have hft : ∀ k, BdF (w.heap.size + 1) W1 k → k = w.heap.size + 1 ∨ w.heap.size + 2 ≤ k := fun k hk => (BdS.ftlt hst.1 k hk).2
  have hrun := sh_run (x.fo .nil) [] [] (by simp) (by simpa [It.sho] using hl)
  rw [← x.evs_fo] at hrun
  obtain ⟨hgd, g', _, hrun⟩ := hrun
  have hwalk := walk_c (K := shK (w.heap.size + 1) (w.heap.size + 2)) (S := S) x (.agg #[.bool xb, .string xt, .slice xa xn xc]) W1 ([], []) (fun k hk => ⟨by have := hS k hk; omega, fun hf => by have := hS k hk; have := hft k hf; omega⟩) (hv.kept fun k hk => hold k (hS k hk)) hst hgd hn
  have HW := Lib.hid (show Calls Try.prog 26 _ W1 fun e w' => e = .returned (.tuple #[]) ∧ ShS (w.heap.size + 1) (w.heap.size + 2) (x.sho, g') w' ∧ Below w.heap.size w w' from hwalk.mono fun e w' ⟨h1, h2, h3⟩ => by
    have e : runE (shK (w.heap.size + 1) (w.heap.size + 2)).step ([], []) x.evs = (x.sho, g') := hrun.trans (by simp [It.sho])
    rw [e] at h2
    refine ⟨h1, h2.1, h3.os.trans (by rw [hW1]; rfl), h3.tape.trans (by rw [hW1]; rfl), h3.output.trans (by rw [hW1]; rfl), by have := h3.size; omega, fun k hk => (h3.block k (by omega) (fun hf => by have := hft k hf; omega)).trans (hold k hk)⟩)
  rw [hW1] at HW
  have HL := Lib.hid (And.intro hl x.sho_ne)
  clear hold hsz hrow hst hft hgd hrun hwalk hW1 hv hS hn hl W1
  go_enter Try.func17, Try.ntmps17
  go_wp2_with (go_at_call 26; refine HW.out.mono ?_; rintro e W2 ⟨rfl, h2, h3⟩; have H2 := Lib.hid (And.intro (show BdS 73 (w.heap.size + 1) (w.heap.size + 2) x.sho (.string (str g')) W2 from h2) h3); clear h2 h3)
  refine (bstring_c H2.out.1 HL.out.2 (by have := HL.out.1; omega)).mono ?_
  rintro e W3 ⟨rfl, h3⟩
  have H3 := Lib.hid (H2.out.2.trans (h3.mono (by omega)))
  clear h3
  go_wp2_with fail
  go_ret
  exact ⟨rfl, H3.out⟩
end Go.Proofs.Ytgaaalacoeainaa
