/- Grow, at a builder that has not been written. -/
import Derived.Test.YtgaaalacoeainaaLm
import Derived.Deep.QuietTactic
import Derived.BigQuiet
namespace Go.Proofs.Ytgaaalacoeainaa
open Go.RowKit

theorem set_alloc (W : World) (b j : Nat) (v : Value) (o : Obj) (hb : b < W.heap.size) : ((W.setCell ⟨b, j, none⟩ v).alloc o).heap = ((W.alloc o).setCell ⟨b, j, none⟩ v).heap := by
  apply Array.ext_getElem?
  intro i
  rw [heap_alloc_get]
  have hs : (W.setCell ⟨b, j, none⟩ v).heap.size = W.heap.size := by simp [World.setCell]
  rw [hs]
  by_cases hi : i = W.heap.size
  · rw [if_pos hi, hi, heap_setCell_other _ _ _ _ (by simp; omega)]
    exact (heap_alloc_new _ _).symm
  · rw [if_neg hi]
    by_cases hib : i = b
    · subst hib
      have e : (W.alloc o).heap[i]? = W.heap[i]? := Below.heap_alloc _ _ _ hb
      simp only [World.setCell, Array.getElem?_modify, if_true, e]
    · rw [heap_setCell_other _ _ _ _ (by simpa using hib), heap_setCell_other _ _ _ _ (by simpa using hib), heap_alloc_get, if_neg hi]
set_option maxRecDepth 100000 in
set_option maxHeartbeats 2000000 in
theorem grow_c {T : TypeId} (_ : Hold T) (b B n : Nat) (x : Value) (W : World) (h : W.heap[b]? = some (.cells #[.pointer (some ⟨b, 0, none⟩), .slice none 0 0, x] T (0, 0))) (hb : b < B) (hB : B ≤ W.heap.size) (hn : n ≤ 1000000000) :
    Calls Try.prog 48 #[.pointer (some ⟨b, 0, none⟩), .int .i64 n] W fun e W' => e = .returned (.tuple #[]) ∧ BdS T b B [] x W' ∧ Chg (fun k => k = b) (BdF b W') W W' := by
  obtain ⟨cs, hrun, hle, hmax⟩ := Lib.run_makeNoZero (P := Try.prog) W.drew #[3] 42 5 Try.underlying42 n (by omega)
  have hw : IntKind.i64.wrap (IntKind.i64.wrap 0 + (n : Int)) = n := by
    rw [IntKind.wrap_i64, IntKind.wrap_i64]
    omega
  have hcall : (callFunc 57 #[.int .i64 (IntKind.i64.wrap (IntKind.i64.wrap 0 + (n : Int)))]).run Try.prog W.drew = .ok (.value (.slice (some ⟨W.drew.heap.size, 0, none⟩) n cs.size)) (W.drew.drew.drew.alloc (.cells cs 5)) := by
    rw [hw, run_callFunc_extern Try.func57 (by kernel_rfl) (by kernel_rfl) (by kernel_rfl) (e := Extern.BytealgMakeNoZero.makeNoZero #[3] #[42]) (by kernel_rfl), hrun]
    rfl
  have hlt : b < W.heap.size := lt_of h
  have c1 : W.drew.cell? ⟨b, 1, none⟩ = some (.slice none 0 0) := cell_of (w := W.drew) h 1
  have h2 : (W.alloc (.cells cs 5)).heap[b]? = some (.cells #[.pointer (some ⟨b, 0, none⟩), .slice none 0 0, x] T (0, 0)) := (Below.heap_alloc _ _ _ hlt).trans h
  have c2 : (W.alloc (.cells cs 5)).cell? ⟨b, 1, none⟩ = some (.slice none 0 0) := cell_of h2 1
  have f2 : (W.alloc (.cells cs 5)).frozen? ⟨b, 1, none⟩ = false := free_of h2 1
  obtain ⟨j0, hj0, hj1⟩ : ∃ j, Try.prog.info? 5 = some j ∧ j.size = 1 := by
    obtain ⟨i0, hi, _, hz1, _⟩ := info_parts infoByte
    exact ⟨i0, hi, hz1⟩
  have hcopy : ∀ V : World, (Builtin.copy_ #[42, 42] 3 #[.slice (some ⟨W.heap.size, 0, none⟩) 0 cs.size, .slice none 0 0]).run Try.prog V = .ok (goInt 0) V :=
    fun V => run_copy_none V 42 42 3 5 _ _ 0 cs.size 0 0 Try.underlying42 (by kernel_rfl) rfl
  have hfin : ∀ V : World, V.heap = ((W.alloc (.cells cs 5)).setCell ⟨b, 1, none⟩ (.slice (some ⟨W.heap.size, 0, none⟩) 0 cs.size)).heap → V.os = W.os → V.tape = W.tape → V.output = W.output → BdS T b B [] x V ∧ Chg (fun k => k = b) (BdF b V) W V := by
    intro V hV ho ht hout
    have hb' : V.heap[b]? = some (.cells #[.pointer (some ⟨b, 0, none⟩), .slice (some ⟨W.heap.size, 0, none⟩) 0 cs.size, x] T (0, 0)) := by
      rw [hV]
      simpa using heap_setCell_same _ _ 1 _ _ (.slice (some ⟨W.heap.size, 0, none⟩) 0 cs.size) h2
    have hn' : V.heap[W.heap.size]? = some (.cells cs 5 (0, 0)) := by
      rw [hV, heap_setCell_other _ _ _ _ (by simp; omega)]
      exact heap_alloc_new _ _
    refine ⟨⟨hb, _, _, hb', Or.inr rfl, ⟨rfl, Or.inr ⟨W.heap.size, cs.size, cs, rfl, hB, hn', Nat.zero_le _, hmax (by unfold maxLen; omega), by omega, by simp [Lib.byteCells]⟩⟩⟩, ho, ht, hout, by rw [hV]; simp [World.setCell], fun k hk hne => ?_, fun k hk => ?_⟩
    · rw [hV, heap_setCell_other _ _ _ _ (by simpa using hne)]
      exact Below.heap_alloc _ _ _ hk
    · rcases hk with rfl | ⟨u, hu, hk⟩
      · exact Or.inl rfl
      · rw [cell_of hb'] at hu
        obtain rfl : Value.slice (some ⟨W.heap.size, 0, none⟩) 0 cs.size = u := by simpa using hu
        right
        have : W.heap.size = k := by simpa [Value.ownBlock] using hk
        omega
  have HF := Lib.hid hfin
  have HSA := Lib.hid (set_alloc W b 1 (.slice (some ⟨W.heap.size, 0, none⟩) 0 cs.size) (.cells cs 5) hlt)
  clear hw hfin hle hmax hrun h h2 hj0 hj1
  go_enter Try.func48, Try.ntmps48
  go_wp2_with fail
  go_region
  all_goals (go_wp2_with fail; go_end0; first | exact ⟨rfl, HF.out _ rfl rfl rfl rfl⟩ | exact ⟨rfl, HF.out _ HSA.out rfl rfl rfl⟩)
set_option maxRecDepth 100000 in
set_option maxHeartbeats 2000000 in
theorem bgrow_c {T : TypeId} (hT : Hold T) (b B n : Nat) (x : Value) (W : World) (h : W.heap[b]? = some (.cells #[.pointer none, .slice none 0 0, x] T (0, 0))) (hb : b < B) (hB : B ≤ W.heap.size) (hn : n ≤ 1000000000) (h0 : 0 < n) :
    Calls Try.prog 29 #[.pointer (some ⟨b, 0, none⟩), .int .i64 n] W fun e W' => e = .returned (.tuple #[]) ∧ BdS T b B [] x W' ∧ Chg (fun k => k = b) (BdF b W') W W' := by
  have HC := Lib.hid (check_c hT b _ _ _ W h (Or.inl rfl))
  have hi : (0 : Int) < (n : Int) := by omega
  have hi2 : ¬ (n : Int) < 0 := by omega
  have hw0 : IntKind.i64.wrap 0 = 0 := by rw [IntKind.wrap_i64]; rfl
  have HH := Lib.hid (fun (W1 : World) nq h1 h2 => grow_c hT b B n x (W1.drewN nq) h1 hb h2 hn)
  clear hn
  go_enter Try.func29, Try.ntmps29
  go_wp2_with (go_at_call 47; refine HC.out.mono ?_; rintro e W1 ⟨rfl, h1, h2, h3, h4, h5, h6⟩; have c1 : W1.cell? ⟨b, 1, none⟩ = some (.slice none 0 0) := cell_of h1 1; have H1 := Lib.hid (And.intro h1 (And.intro h2 (And.intro h3 (And.intro h4 (And.intro h5 h6))))); clear h1 h2 h3 h4 h5 h6)
  go_quiet (fail)
  go_wp2_with fail
  refine (HH.out W1 nq H1.out.1 (by have := H1.out.2.2.1; show B ≤ W1.heap.size; omega)).mono ?_
  rintro e W2 ⟨rfl, h2, h3⟩
  have H2 := Lib.hid (And.intro h2 (show Chg (fun k => k = b) (BdF b W2) W W2 from ⟨h3.os.trans H1.out.2.2.2.1, h3.tape.trans H1.out.2.2.2.2.1, h3.output.trans H1.out.2.2.2.2.2, by have := h3.size; have e := H1.out.2.2.1; have e2 : (W1.drewN nq).heap.size = W1.heap.size := rfl; omega, fun k hk hn => (h3.block k (by have e := H1.out.2.2.1; show k < W1.heap.size; omega) hn).trans (H1.out.2.1 k hn), fun k hk => (h3.new k hk).imp id (fun h => by have e := H1.out.2.2.1; have e2 : (W1.drewN nq).heap.size = W1.heap.size := rfl; omega)⟩))
  clear h2 h3
  go_wp2_with fail
  go_end0
  exact ⟨rfl, H2.out⟩
end Go.Proofs.Ytgaaalacoeainaa
