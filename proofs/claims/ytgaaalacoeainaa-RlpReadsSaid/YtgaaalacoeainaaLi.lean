/- walk's inner function. -/
import Derived.Test.YtgaaalacoeainaaLh
import Derived.StillTailTactics
namespace Go.Proofs.Ytgaaalacoeainaa
open Go.RowKit

theorem infoSl : (Try.prog.info? 25).map (fun i => (i.zero, i.size, i.bytes)) = some (some (.slice none 0 0), 1, 24) := by kernel_rfl
section
variable {σ : Type} {nb nt ne : FuncId} {p : Value}
/-- What walk knows: begun in w, with the items' blocks S; q is still to come, the last list first; the state is s. -/
structure WI (K : Sink σ nb nt ne p) (S : Nat → Prop) (w : World) (q : List Fo) (s : σ) (W : World) : Prop where
  st : K.St s W
  fb : W.heap[w.heap.size + 1]? = some (.cells #[.func (.func nb) #[p] #[]] 1 (0, 0))
  ftx : W.heap[w.heap.size + 2]? = some (.cells #[.func (.func nt) #[p] #[]] 63 (0, 0))
  op : ∃ vo ys, W.heap[w.heap.size + 3]? = some (.cells #[vo] 82 (0, 0)) ∧ W.ownsRow (w.heap.size + 4) 25 1 vo q.length ys.reverse ∧ Pend S q ys W ∧ ∀ k, vo.ownBlock = some k → ¬ K.ft W k
  fr : ∀ k, k < w.heap.size → ¬ K.ft w k → W.heap[k]? = w.heap[k]?
  fn : ∀ k, K.ft W k → (k < w.heap.size ∧ K.ft w k) ∨ w.heap.size + 4 ≤ k
  size : w.heap.size + 4 ≤ W.heap.size
  os : W.os = w.os
  tape : W.tape = w.tape
  output : W.output = w.output
variable {K : Sink σ nb nt ne p} {S : Nat → Prop} {w W : World} {q : List Fo} {s : σ}
theorem WI.alloc (h : WI K S w q s W) (hS : ∀ k, S k → k < w.heap.size ∧ ¬ K.ft w k) (o : Obj) : WI K S w q s (W.alloc o) := by
  have hs := h.size
  have ho : ∀ k, k < W.heap.size → (W.alloc o).heap[k]? = W.heap[k]? := fun k hk => Below.heap_alloc _ _ _ hk
  obtain ⟨h1, h2⟩ := K.kept s W (W.alloc o) h.st (fun k hk => ho k (K.lt _ _ _ h.st hk)) (by simp)
  obtain ⟨vo, ys, a1, a2, a3, a4⟩ := h.op
  exact ⟨h1, (ho _ (by omega)).trans h.fb, (ho _ (by omega)).trans h.ftx, ⟨vo, ys, (ho _ (by omega)).trans a1, a2.alloc o, a3.kept (fun k hk => ho k (by have := (hS k hk).1; omega)) _ _, fun k hk hf => a4 k hk ((h2 k).1 hf)⟩,
    fun k hk hn => (ho k (by omega)).trans (h.fr k hk hn), fun k hk => h.fn k ((h2 k).1 hk), by simp; omega, h.os, h.tape, h.output⟩
theorem WI.sink {s' : σ} {W' : World} (h : WI K S w q s W) (hS : ∀ k, S k → k < w.heap.size ∧ ¬ K.ft w k) (h1 : K.St s' W') (hc : Chg (K.ft W) (K.ft W') W W') : WI K S w q s' W' := by
  have hs := h.size
  have ho : ∀ k, k < w.heap.size + 4 → ¬ (k < w.heap.size ∧ K.ft w k) → W'.heap[k]? = W.heap[k]? := fun k hk hn => hc.block k (by omega) (fun hf => (h.fn k hf).elim hn (by omega))
  obtain ⟨vo, ys, a1, a2, a3, a4⟩ := h.op
  refine ⟨h1, (ho _ (by omega) (by omega)).trans h.fb, (ho _ (by omega) (by omega)).trans h.ftx, ⟨vo, ys, (ho _ (by omega) (by omega)).trans a1, own_keep a2 (fun k hk => hc.block k (a2.lt k hk).2 (a4 k hk)), a3.kept (fun k hk => ho k (by have := (hS k hk).1; omega) (fun hh => (hS k hk).2 hh.2)) _ _, fun k hk hf => (hc.new k hf).elim (a4 k hk) (by have := (a2.lt k hk).2; omega)⟩,
    fun k hk hn => (ho k (by omega) (fun hh => hn hh.2)).trans (h.fr k hk hn), fun k hk => (hc.new k hk).elim (h.fn k) (fun h2 => Or.inr (by omega)), Nat.le_trans hs hc.size, hc.os.trans h.os, hc.tape.trans h.tape, hc.output.trans h.output⟩
/-- A turn of walk's own blocks: its variable, and the row that it names. -/
theorem WI.own {q' : List Fo} {W' : World} {vo vo' : Value} {ys' : List Value} (h : WI K S w q s W)
    (hvo : W.heap[w.heap.size + 3]? = some (.cells #[vo] 82 (0, 0)))
    (hb : ∀ k, k < W.heap.size → k ≠ w.heap.size + 3 → vo.ownBlock ≠ some k → W'.heap[k]? = W.heap[k]?) (hsz : W.heap.size ≤ W'.heap.size) (hos : W'.os = W.os) (ht : W'.tape = W.tape) (hout : W'.output = W.output)
    (h1 : W'.heap[w.heap.size + 3]? = some (.cells #[vo'] 82 (0, 0))) (h2 : W'.ownsRow (w.heap.size + 4) 25 1 vo' q'.length ys'.reverse) (h3 : Pend S q' ys' W') (h4 : ∀ k, vo'.ownBlock = some k → vo.ownBlock = some k ∨ W.heap.size ≤ k) : WI K S w q' s W' := by
  have hs := h.size
  obtain ⟨vo0, ys, a1, a2, a3, a4⟩ := h.op
  obtain rfl : vo = vo0 := by rw [a1] at hvo; simpa using hvo.symm
  have hk : ∀ k, K.ft W k → W'.heap[k]? = W.heap[k]? := fun k hf => hb k (K.lt _ _ _ h.st hf) (fun e => by have := h.fn k hf; omega) (fun e => a4 k e hf)
  obtain ⟨b1, b2⟩ := K.kept s W W' h.st hk hsz
  have hlo : ∀ k, k < w.heap.size + 3 → W'.heap[k]? = W.heap[k]? := fun k hk => hb k (by omega) (by omega) (fun e => by have := (a2.lt k e).1; omega)
  exact ⟨b1, (hlo _ (by omega)).trans h.fb, (hlo _ (by omega)).trans h.ftx, ⟨vo', ys', h1, h2, h3, fun k hk hf => by
    have hf' := (b2 k).1 hf
    rcases h4 k hk with h5 | h5
    · exact a4 k h5 hf'
    · have := K.lt _ _ _ h.st hf'; omega⟩,
    fun k hk hn => (hlo k (by omega)).trans (h.fr k hk hn), fun k hk => h.fn k ((b2 k).1 hk), by omega, hos.trans h.os, ht.trans h.tape, hout.trans h.output⟩
theorem WI.keptS {W' : World} (h : WI K S w q s W) (hS : ∀ k, S k → k < w.heap.size ∧ ¬ K.ft w k) (h' : WI K S w q s W') : ∀ k, S k → W'.heap[k]? = W.heap[k]? :=
  fun k hk => (h'.fr k (hS k hk).1 (hS k hk).2).trans (h.fr k (hS k hk).1 (hS k hk).2).symm
theorem WI.fresh (h : WI K S w q s W) (o : Obj) : ¬ K.ft (W.alloc o) W.heap.size := fun hf => by
  obtain ⟨_, h2⟩ := K.kept s W (W.alloc o) h.st (fun k hk => Below.heap_alloc _ _ _ (K.lt _ _ _ h.st hk)) (by simp)
  have := K.lt _ _ _ h.st ((h2 _).1 hf)
  omega
set_option maxRecDepth 100000 in
set_option maxHeartbeats 1000000 in
theorem enter_text (hS : ∀ k, S k → k < w.heap.size ∧ ¬ K.ft w k) (t : List UInt8) (h : WI K S w q s W) (hok : K.ok s (.txt t)) :
    Calls Try.prog 43 #[.agg #[.bool false, .string (str t), .slice none 0 0], .pointer (some ⟨w.heap.size + 2, 0, none⟩), .pointer (some ⟨w.heap.size + 1, 0, none⟩), .pointer (some ⟨w.heap.size + 3, 0, none⟩)] W
      fun e W' => e = .returned (.tuple #[]) ∧ WI K S w q (K.step s (.txt t)) W' := by
  have hs := Lib.hid h.size
  have H := Lib.hid h
  have H1 := Lib.hid (h.alloc hS (.cells #[.bool false, .string (str t), .slice none 0 0] 27))
  have c0 : (W.alloc (.cells #[.bool false, .string (str t), .slice none 0 0] 27)).cell? ⟨w.heap.size + 2, 0, none⟩ = some (.func (.func nt) #[p] #[]) := cell_of H1.out.ftx 0
  have HC := Lib.hid (K.ct s t _ H1.out.st hok)
  generalize str t = x at *
  have et := K.et
  clear h hok
  go_enter Try.func43, Try.ntmps43
  go_wp2_with fail
  refine HC.out.mono ?_
  rintro e W2 ⟨rfl, hst, hc⟩
  have H2 := Lib.hid (H1.out.sink hS hst hc)
  clear hst hc
  go_wp2_with fail
  first
    | (go_end0; exact ⟨rfl, H2.out⟩)
    | (refine bodyPost_ret (results_none rfl _ _ _) rfl ⟨rfl, H2.out⟩)
set_option maxRecDepth 100000 in
set_option maxHeartbeats 1000000 in
theorem enter_list (hS : ∀ k, S k → k < w.heap.size ∧ ¬ K.ft w k) (i : Fo) (va : Option Addr) (vn vc : Nat) (hv : SlF S i (.slice va vn vc) W) (h : WI K S w q s W) (hok : K.ok s .bgn) (hq : q.length < 1000000) :
    Calls Try.prog 43 #[.agg #[.bool true, .string ⟨#[]⟩, .slice va vn vc], .pointer (some ⟨w.heap.size + 2, 0, none⟩), .pointer (some ⟨w.heap.size + 1, 0, none⟩), .pointer (some ⟨w.heap.size + 3, 0, none⟩)] W
      fun e W' => e = .returned (.tuple #[]) ∧ WI K S w (i :: q) (K.step s .bgn) W' := by
  have hs := Lib.hid h.size
  have H := Lib.hid (And.intro h hv)
  have H1 := Lib.hid (h.alloc hS (.cells #[.bool true, .string ⟨#[]⟩, .slice va vn vc] 27))
  have c0 : (W.alloc (.cells #[.bool true, .string ⟨#[]⟩, .slice va vn vc] 27)).cell? ⟨w.heap.size + 1, 0, none⟩ = some (.func (.func nb) #[p] #[]) := cell_of H1.out.fb 0
  have HN := Lib.hid (heap_alloc_new W (.cells #[.bool true, .string ⟨#[]⟩, .slice va vn vc] 27))
  have HC := Lib.hid (K.cb s _ H1.out.st hok)
  have eb := K.eb
  clear h hok hv
  go_enter Try.func43, Try.ntmps43
  go_wp2_with fail
  refine HC.out.mono ?_
  rintro e W2 ⟨rfl, hst, hc⟩
  have H2 := Lib.hid (H1.out.sink hS hst hc)
  have hbox : W2.heap[W.heap.size]? = some (.cells #[.bool true, .string ⟨#[]⟩, .slice va vn vc] 27 (0, 0)) := (hc.block _ (by simp) (H.out.1.fresh _)).trans HN.out
  have c1 : W2.cell? ⟨W.heap.size, 2, none⟩ = some (.slice va vn vc) := cell_of hbox 2
  have hv2 : SlF S i (.slice va vn vc) W2 := H.out.2.kept (fun k hk => (H2.out.fr k (hS k hk).1 (hS k hk).2).trans (H.out.1.fr k (hS k hk).1 (hS k hk).2).symm)
  obtain ⟨vo, ys, a1, a2, a3, a4⟩ := H2.out.op
  have c2 : W2.cell? ⟨w.heap.size + 3, 0, none⟩ = some vo := cell_of a1 0
  have HA := Lib.hid (And.intro a1 (And.intro a2 (And.intro a3 hv2)))
  have hw2 := Lib.hid H2.out.size
  clear hst hc hbox hv2 a1 a2 a3 a4
  obtain ⟨oa, on, oc, rfl⟩ : ∃ a n c, vo = .slice a n c := by
    rcases HA.out.2.1.2 with ⟨rfl, _⟩ | ⟨g, cap, cur, rfl, _⟩
    · exact ⟨_, _, _, rfl⟩
    · exact ⟨_, _, _, rfl⟩
  go_wp2_with (at_builtin; refine wpList_append_one (by rfl) _ _ 82 25 (by rfl) Try.underlying82 _ 24 infoSl rfl (by omega) (w.heap.size + 4) _ q.length ys.reverse (by rfl) (HA.out.2.1.alloc _) W2.heap.size (.slice va vn vc) rfl (by rfl) (heap_alloc_new _ _) (Nat.le_trans hw2.out (by simp)) (by omega) ?_; intro v3 W3 hown3 hgr3 hbl3; obtain ⟨g3, cap3, rfl, hg3, hg3b, hg3c⟩ := own_form hown3; have HG3 := Lib.hid (And.intro hg3 hg3b); clear hg3 hg3b hg3c; have HG := Lib.hid (And.intro hown3 (And.intro hgr3 hbl3)); have hne := (show ∀ k, (Value.slice oa on oc).ownBlock = some k → w.heap.size + 4 ≤ k ∧ k < W2.heap.size from fun k hk => HA.out.2.1.lt k hk); have h3b : W3.heap[w.heap.size + 3]? = some (.cells #[.slice oa on oc] 82 (0, 0)) := (hgr3.block _ (by have := hw2.out; simp; omega) (fun e => by have := hne _ e.symm; omega)).trans ((Below.heap_alloc _ _ _ (by have := hw2.out; omega)).trans HA.out.1); have c3 : W3.cell? ⟨w.heap.size + 3, 0, none⟩ = some (.slice oa on oc) := cell_of h3b 0; have z3 := free_of h3b 0; have H3 := Lib.hid (And.intro h3b hne); clear h3b hown3 hgr3 hbl3 hne)
  have hfin : WI K S w (i :: q) (K.step s .bgn) (W3.setCell ⟨w.heap.size + 3, 0, none⟩ (.slice (some ⟨g3, 0, none⟩) (q.length + 1) cap3)) := by
    have hw := hw2.out
    have hk : ∀ k, k < W2.heap.size → k ≠ w.heap.size + 3 → (Value.slice oa on oc).ownBlock ≠ some k → (W3.setCell ⟨w.heap.size + 3, 0, none⟩ (.slice (some ⟨g3, 0, none⟩) (q.length + 1) cap3)).heap[k]? = W2.heap[k]? := fun k h1 h2 h3 => by
      rw [heap_setCell_other _ _ _ _ (by simpa using h2)]
      exact (HG.out.2.1.block k (by simp; omega) (fun e => h3 e.symm)).trans (Below.heap_alloc _ _ _ h1)
    have hkS : ∀ k, S k → (W3.setCell ⟨w.heap.size + 3, 0, none⟩ (.slice (some ⟨g3, 0, none⟩) (q.length + 1) cap3)).heap[k]? = W2.heap[k]? := fun k hkS => by
      have h1 := (hS k hkS).1
      refine hk k (by omega) (by omega) (fun e => ?_)
      have := (H3.out.2 k e).1
      omega
    refine H2.out.own (vo := .slice oa on oc) (vo' := .slice (some ⟨g3, 0, none⟩) (q.length + 1) cap3) (ys' := .slice va vn vc :: ys) HA.out.1 hk ?_ ?_ ?_ ?_ ?_ ?_ ?_ ?_
    · have := HG.out.2.1.size
      simp at this
      simp [World.setCell]; omega
    · exact HG.out.2.1.os
    · exact HG.out.2.1.tape
    · exact HG.out.2.1.output
    · simpa using heap_setCell_same _ _ 0 _ _ (.slice (some ⟨g3, 0, none⟩) (q.length + 1) cap3) H3.out.1
    · rw [List.reverse_cons]
      refine own_keep HG.out.1 (fun k hk => ?_)
      have hk : g3 = k := by simpa [Value.ownBlock] using hk
      have := HG3.out.1
      rw [heap_setCell_other _ _ _ _ (by simp; omega)]
    · exact ⟨_, _, rfl, HA.out.2.2.2.kept hkS, HA.out.2.2.1.kept hkS _ _⟩
    · intro k hk
      rcases HG.out.2.2 with h | h
      · left; rw [← h]; exact hk
      · right; rw [h] at hk; injection hk with hk; simp at hk; omega
  first
    | (go_end0; exact ⟨rfl, hfin⟩)
    | (refine bodyPost_ret (results_none rfl _ _ _) rfl ⟨rfl, hfin⟩)
end
end Go.Proofs.Ytgaaalacoeainaa
