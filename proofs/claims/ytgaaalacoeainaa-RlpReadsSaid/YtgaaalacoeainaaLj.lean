/- walk. -/
import Derived.Test.YtgaaalacoeainaaLi
namespace Go.Proofs.Ytgaaalacoeainaa
open Go.RowKit

theorem exists_least {P : Nat → Prop} (h : ∃ n, P n) : ∃ n, P n ∧ ∀ m, P m → n ≤ m := by
  obtain ⟨n, hn⟩ := h
  induction n using Nat.strongRecOn with
  | ind n ih =>
    by_cases hm : ∃ m, m < n ∧ P m
    · obtain ⟨m, h1, h2⟩ := hm
      exact ih m h1 h2
    · exact ⟨n, hn, fun m h => Nat.le_of_not_lt fun hlt => hm ⟨m, hlt, h⟩⟩
open Classical in
noncomputable def least (P : Nat → Prop) : Nat := if h : ∃ n, P n then Classical.choose (exists_least h) else 0
theorem least_spec {P : Nat → Prop} (h : ∃ n, P n) : P (least P) := by
  unfold least
  rw [dif_pos h]
  exact (Classical.choose_spec (exists_least h)).1
theorem least_le {P : Nat → Prop} {m : Nat} (h : P m) : least P ≤ m := by
  unfold least
  rw [dif_pos ⟨m, h⟩]
  exact (Classical.choose_spec (exists_least ⟨m, h⟩)).2 m h
def It.evs : It → List Ev
  | .text s => [.txt s]
  | .list i => .bgn :: i.evs ++ [.fin]
def It.ev1 : It → Ev
  | .text s => .txt s
  | .list _ => .bgn
def It.qs : It → List Fo
  | .text _ => []
  | .list i => [i]
theorem It.evs_eq (x : It) : x.evs = x.ev1 :: evP x.qs := by cases x <;> rfl
section
variable {σ : Type} {nb nt ne : FuncId} {p : Value}
/-- At the head of a round: so many events are still to come. -/
def WP (K : Sink σ nb nt ne p) (S : Nat → Prop) (w : World) (sf : σ) (W : World) (n : Nat) : Prop :=
  ∃ q s, WI K S w q s W ∧ goodE K.step K.ok s (evP q) ∧ runE K.step s (evP q) = sf ∧ n = (evP q).length ∧ n < 900000
theorem WP.less {K : Sink σ nb nt ne p} {S : Nat → Prop} {w : World} {sf : σ} {W : World} {n : Nat} (h : WP K S w sf W n) {m : Nat} (hn : n < m) : (∃ n, WP K S w sf W n) ∧ least (WP K S w sf W) < m :=
  ⟨⟨n, h⟩, Nat.lt_of_le_of_lt (least_le h) hn⟩
variable {K : Sink σ nb nt ne p} {S : Nat → Prop} {w W : World} {s : σ}
/-- What the rounds read. -/
theorem WI.top {f : Fo} {q : List Fo} (h : WI K S w (f :: q) s W) : ∃ g cap y ys, W.heap[w.heap.size + 3]? = some (.cells #[.slice (some ⟨g, 0, none⟩) (q.length + 1) cap] 82 (0, 0)) ∧
    W.ownsRow (w.heap.size + 4) 25 1 (.slice (some ⟨g, 0, none⟩) (q.length + 1) cap) (q.length + 1) (ys.reverse ++ [y]) ∧ SlF S f y W ∧ Pend S q ys W ∧ w.heap.size + 4 ≤ g ∧ g < W.heap.size ∧ q.length + 1 ≤ cap := by
  obtain ⟨vo, ys, a1, a2, ⟨y, r, rfl, a3, a4⟩, a5⟩ := h.op
  obtain ⟨g, cap, rfl, b1, b2, b3⟩ := own_form a2
  rw [List.reverse_cons] at a2
  exact ⟨g, cap, y, r, a1, a2, a3, a4, b1, b2, b3⟩
theorem WI.chg {q : List Fo} (h : WI K S w q s W) : Chg (K.ft w) (K.ft W) w W :=
  ⟨h.os, h.tape, h.output, by have := h.size; omega, h.fr, fun k hk => (h.fn k hk).elim (fun h => Or.inl h.2) (fun h => Or.inr (by omega))⟩
theorem WI.pop {f : Fo} {q : List Fo} {g cap : Nat} {y : Value} {ys : List Value} (h : WI K S w (f :: q) s W) (hS : ∀ k, S k → k < w.heap.size ∧ ¬ K.ft w k) (a1 : W.heap[w.heap.size + 3]? = some (.cells #[.slice (some ⟨g, 0, none⟩) (q.length + 1) cap] 82 (0, 0)))
    (a2 : W.ownsRow (w.heap.size + 4) 25 1 (.slice (some ⟨g, 0, none⟩) (q.length + 1) cap) (q.length + 1) (ys.reverse ++ [y])) (a4 : Pend S q ys W) (a5 : w.heap.size + 4 ≤ g) : WI K S w q s (W.setCell ⟨w.heap.size + 3, 0, none⟩ (.slice (some ⟨g, 0, none⟩) q.length cap)) := by
  have hk : ∀ k, k ≠ w.heap.size + 3 → (W.setCell ⟨w.heap.size + 3, 0, none⟩ (.slice (some ⟨g, 0, none⟩) q.length cap)).heap[k]? = W.heap[k]? := fun k hk => heap_setCell_other _ _ _ _ (by simpa using hk)
  refine h.own (vo := .slice (some ⟨g, 0, none⟩) (q.length + 1) cap) (vo' := .slice (some ⟨g, 0, none⟩) q.length cap) (ys' := ys) a1 (fun k _ h2 _ => hk k h2) (by simp [World.setCell]) rfl rfl rfl ?_ ?_ ?_ (fun k hk => Or.inl hk)
  · simpa using heap_setCell_same _ _ 0 _ _ (.slice (some ⟨g, 0, none⟩) q.length cap) a1
  · refine own_keep (own_pop a2) (fun k hkk => hk k ?_)
    have : g = k := by simpa [Value.ownBlock] using hkk
    omega
  · exact a4.kept (fun k hkS => hk k (by have := (hS k hkS).1; omega)) _ _
theorem WI.drew {q : List Fo} (h : WI K S w q s W) : WI K S w q s W.drew := by
  obtain ⟨h1, h2⟩ := K.kept s W W.drew h.st (fun _ _ => rfl) (Nat.le_refl _)
  obtain ⟨vo, ys, a1, a2, a3, a4⟩ := h.op
  exact ⟨h1, h.fb, h.ftx, ⟨vo, ys, a1, own_keep a2 (fun _ _ => rfl), Pend.kept (W := W) (W' := W.drew) (fun _ _ => rfl) _ _ a3, fun k hk hf => a4 k hk ((h2 k).1 hf)⟩, h.fr, fun k hk => h.fn k ((h2 k).1 hk), h.size, h.os, h.tape, h.output⟩
theorem WI.next {f r : Fo} {q : List Fo} {g cap : Nat} {y y' : Value} {ys : List Value} (h : WI K S w (f :: q) s W) (hS : ∀ k, S k → k < w.heap.size ∧ ¬ K.ft w k) (a1 : W.heap[w.heap.size + 3]? = some (.cells #[.slice (some ⟨g, 0, none⟩) (q.length + 1) cap] 82 (0, 0)))
    (a2 : W.ownsRow (w.heap.size + 4) 25 1 (.slice (some ⟨g, 0, none⟩) (q.length + 1) cap) (q.length + 1) (ys.reverse ++ [y])) (a4 : Pend S q ys W) (a5 : w.heap.size + 4 ≤ g) (hy : SlF S r y' W) : WI K S w (r :: q) s (W.setCell ⟨g, q.length, none⟩ y') := by
  have hk : ∀ k, k ≠ g → (W.setCell ⟨g, q.length, none⟩ y').heap[k]? = W.heap[k]? := fun k hk => heap_setCell_other _ _ _ _ (by simpa using hk)
  have hl : ys.length = q.length := a4.length
  refine h.own (vo := .slice (some ⟨g, 0, none⟩) (q.length + 1) cap) (vo' := .slice (some ⟨g, 0, none⟩) (q.length + 1) cap) (ys' := y' :: ys) a1 (fun k _ _ h3 => hk k (fun e => h3 (by rw [e]; rfl))) (by simp [World.setCell]) rfl rfl rfl ?_ ?_ ?_ (fun k hk => Or.inl hk)
  · rw [hk _ (by omega)]; exact a1
  · have h := own_setAt a2 rfl q.length y'
    rw [List.set_append_right _ _ (by simp; omega), List.length_reverse, hl, Nat.sub_self] at h
    rw [List.reverse_cons]
    exact h
  · have hkS : ∀ k, S k → (W.setCell ⟨g, q.length, none⟩ y').heap[k]? = W.heap[k]? := fun k hkS => hk k (by have := (hS k hkS).1; omega)
    exact ⟨_, _, rfl, hy.kept hkS, a4.kept hkS _ _⟩
theorem evP_item (it : It) (r : Fo) (q : List Fo) : evP (it.fo r :: q) = it.ev1 :: evP (it.qs ++ r :: q) := by
  cases it with
  | text t => rfl
  | list i => simp [evP, It.fo, It.qs, It.ev1, Fo.evs]
/-- The first item of a slice. -/
theorem SlF.first {it : It} {r : Fo} {y : Value} (h : SlF S (it.fo r) y W) : ∃ g o c b t a n c', y = .slice (some ⟨g, o, none⟩) (r.len + 1) c ∧ r.len + 1 ≤ c ∧ W.cell? ⟨g, o, none⟩ = some (.bool b) ∧ W.cell? ⟨g, o + 1, none⟩ = some (.string t) ∧ W.cell? ⟨g, o + 2, none⟩ = some (.slice a n c') ∧
    ItV S it (.agg #[.bool b, .string t, .slice a n c']) W ∧ ∀ o', (c = 1 ∨ o' = o + 3) → SlF S r (.slice (some ⟨g, o', none⟩) r.len (c - 1)) W := by
  rcases h with ⟨_, h0⟩ | ⟨g, o, c, rfl, hg, hc, ha⟩
  · cases it <;> cases h0
  · have hr : ∀ hrest : r.At S g (o + 3) W, r.len + 1 ≤ c → ∀ o', (c = 1 ∨ o' = o + 3) → SlF S r (.slice (some ⟨g, o', none⟩) r.len (c - 1)) W := by
      intro hrest hc o' ho
      right
      refine ⟨g, o', c - 1, rfl, hg, by omega, ?_⟩
      rcases ho with ho | ho
      · have hl : r.len = 0 := by omega
        cases r with
        | nil => trivial
        | text s r => simp [Fo.len] at hl
        | list i r => simp [Fo.len] at hl
      · rw [ho]; exact hrest
    cases it with
    | text t =>
      obtain ⟨⟨h1, h2, h3⟩, h4⟩ := ha
      exact ⟨g, o, c, false, str t, none, 0, 0, rfl, hc, h1, h2, h3, rfl, hr h4 hc⟩
    | list i =>
      obtain ⟨⟨h1, h2, v, h3, h4⟩, h5⟩ := ha
      have hv : SlF S i v W := h4
      obtain ⟨a, n, c', rfl⟩ := hv.form
      exact ⟨g, o, c, true, ⟨#[]⟩, a, n, c', rfl, hc, h1, h2, h3, ⟨_, rfl, hv⟩, hr h5 hc⟩
theorem WI.empty (h : WI K S w [] s W) : ∃ a c, W.cell? ⟨w.heap.size + 3, 0, none⟩ = some (.slice a 0 c) := by
  obtain ⟨vo, ys, a1, a2, a3, a5⟩ := h.op
  rcases a2.2 with ⟨rfl, _⟩ | ⟨g, cap, cur, rfl, _⟩
  · exact ⟨_, _, cell_of a1 0⟩
  · exact ⟨_, _, cell_of a1 0⟩
theorem enter_c (hS : ∀ k, S k → k < w.heap.size ∧ ¬ K.ft w k) (x : It) (v : Value) {q : List Fo} (hv : ItV S x v W) (h : WI K S w q s W) (hok : K.ok s x.ev1) (hq : q.length < 1000000) :
    Calls Try.prog 43 #[v, .pointer (some ⟨w.heap.size + 2, 0, none⟩), .pointer (some ⟨w.heap.size + 1, 0, none⟩), .pointer (some ⟨w.heap.size + 3, 0, none⟩)] W
      fun e W' => e = .returned (.tuple #[]) ∧ WI K S w (x.qs ++ q) (K.step s x.ev1) W' := by
  cases x with
  | text t => cases hv; exact enter_text hS t h hok
  | list i =>
    obtain ⟨u, rfl, hv⟩ := hv
    obtain ⟨a, n, c, rfl⟩ := hv.form
    exact enter_list hS i a n c hv h hok hq
theorem init_old {w : World} {k : Nat} (hk : k < w.heap.size) (a b c d : Obj) : ((((w.alloc a).alloc b).alloc c).alloc d).heap[k]? = w.heap[k]? := by
  rw [heap_alloc_get, if_neg (by simp; omega), heap_alloc_get, if_neg (by simp; omega), heap_alloc_get, if_neg (by simp; omega), heap_alloc_get, if_neg (by omega)]
theorem slice_one (g o k c : Nat) (W : World) : (Instr.slice 25 (.slice (some ⟨g, o, Option.none⟩) (k + 1) c) (some (.int .i64 1)) Option.none Option.none).run Try.prog W = .ok (.slice (some ⟨g, if c = 1 then o else o + 3, Option.none⟩) k (c - 1)) W := by
  have he : (sizeOf (Try.prog.elem 25)).run Try.prog W = .ok 3 W := by kernel_rfl
  rw [run_slice_l W 25 (some ⟨g, o, Option.none⟩) (k + 1) c (by rw [Try.underlying25]; kernel_rfl) .i64 1 (by omega) (by omega), he]
  simp only [Result.andThen_ok]
  unfold sliced
  have h1 : Int.toNat 1 = 1 := rfl
  rw [h1]
  by_cases h : c = 1
  · rw [if_pos h, if_pos h]; rfl
  · rw [if_neg h, if_neg h]
    have e : (⟨g, o, Option.none⟩ : Addr).add (1 * 3) = ⟨g, o + 3, Option.none⟩ := by unfold Addr.add; split <;> simp_all
    simp [e]
theorem WI.init (hst : K.St s w) (o : Obj) : WI K S w [] s ((((w.alloc o).alloc (.cells #[.func (.func nb) #[p] #[]] 1)).alloc (.cells #[.func (.func nt) #[p] #[]] 63)).alloc (.cells #[.slice none 0 0] 82)) := by
  have hk : ∀ k, k < w.heap.size → ((((w.alloc o).alloc (.cells #[.func (.func nb) #[p] #[]] 1)).alloc (.cells #[.func (.func nt) #[p] #[]] 63)).alloc (.cells #[.slice none 0 0] 82)).heap[k]? = w.heap[k]? := fun k hk => by
    rw [heap_alloc_get, if_neg (by simp; omega), heap_alloc_get, if_neg (by simp; omega), heap_alloc_get, if_neg (by simp; omega), heap_alloc_get, if_neg (by omega)]
  obtain ⟨h1, h2⟩ := K.kept s w _ hst (fun k hf => hk k (K.lt _ _ _ hst hf)) (by simp; omega)
  refine ⟨h1, ?_, ?_, ⟨.slice none 0 0, [], ?_, World.ownsRow_nil _ _ _ _, rfl, by simp [Value.ownBlock]⟩, fun k hkk _ => hk k hkk, fun k hf => Or.inl ⟨K.lt _ _ _ hst ((h2 k).1 hf), (h2 k).1 hf⟩, by simp, rfl, rfl, rfl⟩
  · rw [heap_alloc_get, if_neg (by simp), heap_alloc_get, if_neg (by simp), heap_alloc_get, if_pos (by simp)]
  · rw [heap_alloc_get, if_neg (by simp), heap_alloc_get, if_pos (by simp)]
  · rw [heap_alloc_get, if_pos (by simp)]
set_option maxRecDepth 100000 in
set_option maxHeartbeats 2000000 in
theorem walk_c (x : It) (v : Value) (w : World) (s : σ) (hS : ∀ k, S k → k < w.heap.size ∧ ¬ K.ft w k) (hv : ItV S x v w) (hst : K.St s w) (hok : goodE K.step K.ok s x.evs) (hn : x.evs.length < 900000) :
    Calls Try.prog 26 #[v, .func (.func nb) #[p] #[], .func (.func nt) #[p] #[], .func (.func ne) #[p] #[]] w fun e w' => e = .returned (.tuple #[]) ∧ K.St (runE K.step s x.evs) w' ∧ Chg (K.ft w) (K.ft w') w w' := by
  have hmf : ∀ (fn : Fn) (first cap : Array Value) (w : World), (Instr.makeFunc fn first cap).run Try.prog w = .ok (.func fn first cap) w := fun _ _ _ _ => rfl
  rw [x.evs_eq] at hok hn
  have HV := Lib.hid (And.intro hv (And.intro hst (And.intro hok hn)))
  have HF := Lib.hid (show runE K.step s x.evs = runE K.step (K.step s x.ev1) (evP x.qs) by rw [x.evs_eq]; rfl)
  obtain ⟨xb, xt, xa, xn, xc, rfl⟩ := hv.form
  clear hv hst hok hn
  go_enter Try.func26, Try.ntmps26
  go_wp2_with (go_at_call 43; refine (enter_c hS x _ (HV.out.1.kept fun k hk => init_old (hS k hk).1 _ _ _ _) (WI.init HV.out.2.1 _) HV.out.2.2.1.1 (by simp)).mono ?_; rintro e W1 ⟨rfl, h1⟩; have H1 := Lib.hid (show WP K S w (runE K.step s x.evs) W1 _ from ⟨x.qs, _, by simpa using h1, HV.out.2.2.1.2, HF.out.symm, rfl, by have := HV.out.2.2.2; simp at this; omega⟩); clear h1)
  have H2 := Lib.hid (And.intro (⟨_, H1.out⟩ : ∃ n, WP K S w (runE K.step s x.evs) W1 n) HV.out.2.1)
  clear H1 HV HF
  generalize hsf : runE K.step s x.evs = sf at *
  have HSF := Lib.hid hsf; clear hsf
  go_loopw [] (fun wr => ∃ n, WP K S w sf wr n) (fun wr => least (WP K S w sf wr))
  case atStart => exact H2.out.1
  case round =>
    have hex := hrel
    obtain ⟨q, s1, hw, hgd, hrun, hlen, hlt⟩ := least_spec hex
    clear hex hrel
    have HL := Lib.hid (And.intro hlen hlt)
    cases q with
    | nil =>
      obtain ⟨ea, ec, ce⟩ := hw.empty
      have HE := Lib.hid (And.intro hw hrun)
      clear hw hgd hrun hlen hlt
      go_wp2_with fail
      go_end0
      refine ⟨rfl, ?_, HE.out.1.chg⟩
      rw [HSF.out, ← HE.out.2]
      exact HE.out.1.st
    | cons f q =>
      obtain ⟨g, cap, y, ys, a1, a2, a3, a4, a5, a6, a7⟩ := hw.top
      have c0 : wr.cell? ⟨w.heap.size + 3, 0, none⟩ = some (.slice (some ⟨g, 0, none⟩) (q.length + 1) cap) := cell_of a1 0
      have z0 := free_of a1 0
      obtain ⟨c1, z1⟩ := own_top a2
      have HW := Lib.hid (And.intro hw (And.intro hgd hrun))
      have HA := Lib.hid (And.intro a1 (And.intro a2 (And.intro a3 (And.intro a4 (And.intro a5 a6)))))
      clear hw hgd hrun a1 a2 a4 a5 a6
      have hmb0 := evP_len (f :: q)
      have hmb : (q.length : Int) < 900000 := by simp at hmb0; omega
      clear hmb0
      generalize hm : q.length = m at *
      have hi1 : (0 : Int) ≤ (m : Int) ∧ (m : Int) < (m : Int) + 1 := by omega
      have hf : f = .nil ∨ ∃ it r, f = It.fo it r := by
        cases f with
        | nil => exact Or.inl rfl
        | text t r => exact Or.inr ⟨.text t, r, rfl⟩
        | list i r => exact Or.inr ⟨.list i, r, rfl⟩
      rcases hf with rfl | ⟨it, r, rfl⟩
      · obtain ⟨ya, yc, rfl⟩ : ∃ a c, y = .slice a 0 c := by
          rcases a3 with ⟨rfl, _⟩ | ⟨g', o, c, rfl, _⟩
          · exact ⟨_, _, rfl⟩
          · exact ⟨_, _, rfl⟩
        clear a3 hlt hlen
        have HC := Lib.hid (K.ce s1 wr HW.out.1.st HW.out.2.1.1)
        have ee := K.ee
        go_wp2_with fail
        refine HC.out.mono ?_
        rintro e W2 ⟨rfl, hst2, hc2⟩
        have H3 := Lib.hid (HW.out.1.sink hS hst2 hc2)
        clear hst2 hc2 c0 z0 c1 z1
        obtain ⟨g2, cap2, y2, ys2, b1, b2, b3, b4, b5, b6, b7⟩ := H3.out.top
        have c0 : W2.cell? ⟨w.heap.size + 3, 0, none⟩ = some (.slice (some ⟨g2, 0, none⟩) (q.length + 1) cap2) := cell_of b1 0
        have z0 := free_of b1 0
        have HB := Lib.hid (H3.out.pop hS b1 b2 b4 b5)
        clear b1 b2 b3 b4 b5 b6
        rw [hm] at c0 b7 HB
        have hi2 : (m : Int) ≤ (cap2 : Int) := by omega
        go_wp2_with fail
        rw [HL.out.1]
        refine WP.less (n := (evP q).length) ⟨q, K.step s1 .fin, HB.out, HW.out.2.1.2, HW.out.2.2, rfl, ?_⟩ (by simp [evP, Fo.evs])
        have h1 := HL.out.1
        have h2 := HL.out.2
        rw [h1] at h2
        simp [evP, Fo.evs] at h2
        omega
      · obtain ⟨g', o, c, fb, ft, fa, fn, fc, rfl, hc1, d0, d1, d2, hit, hsl⟩ := a3.first
        have HI := Lib.hid (And.intro hit hsl)
        clear hit hsl a3 hlt hlen
        rw [evP_item] at HW
        generalize hk : r.len = k at *
        have hk0 : (((k : Int) + 1) == 0) = false := by simp; omega
        have hk1 : (0 : Int) < (k : Int) + 1 := by omega
        have hk2 : (1 : Int) ≤ (k : Int) + 1 := by omega
        go_wp2_with fail
        have H4 := Lib.hid (HW.out.1.alloc hS (.cells #[.bool fb, .string ft, .slice fa fn fc] 27))
        have hlt := HA.out.2.2.2.2.2
        have hlo := HW.out.1.size
        have hold : ∀ k, k < wr.heap.size → (wr.alloc (.cells #[.bool fb, .string ft, .slice fa fn fc] 27)).heap[k]? = wr.heap[k]? := fun k hk => Below.heap_alloc _ _ _ hk
        have e0 := (World.cell?_of_block (a := ⟨w.heap.size + 3, 0, Option.none⟩) (hold (w.heap.size + 3) (by omega))).trans c0
        have e1 := (World.cell?_of_block (a := ⟨g, m, Option.none⟩) (hold _ hlt)).trans c1
        have e2 := (World.frozen?_of_block (a := ⟨g, m, Option.none⟩) (hold _ hlt)).trans z1
        have HB := Lib.hid (And.intro ((hold (w.heap.size + 3) (by omega)).trans HA.out.1) (And.intro (HA.out.2.1.alloc (.cells #[.bool fb, .string ft, .slice fa fn fc] 27)) (Pend.kept (fun k hk => hold k (by have := (hS k hk).1; omega)) _ _ HA.out.2.2.2.1)))
        have HJ := Lib.hid (And.intro (HI.out.1.kept (fun k hk => hold k (by have := (hS k hk).1; omega))) (fun o' ho => (HI.out.2 o' ho).kept (fun k hk => hold k (by have := (hS k hk).1; omega))))
        have HN := Lib.hid (And.intro (heap_alloc_new wr (.cells #[.bool fb, .string ft, .slice fa fn fc] 27)) (And.intro hlt (And.intro HA.out.2.2.2.2.1 (alloc_size wr (.cells #[.bool fb, .string ft, .slice fa fn fc] 27)))))
        clear hold hlt hlo c0 c1 z0 z1 d0 d1 d2
        generalize wr.alloc (.cells #[.bool fb, .string ft, .slice fa fn fc] 27) = W2 at *
        have hsl := slice_one g' o k c
        obtain ⟨o2, ho2⟩ : ∃ o2, (if c = 1 then o else o + 3) = o2 := ⟨_, rfl⟩
        rw [ho2] at hsl
        have HO2 := Lib.hid ho2
        clear ho2
        go_still_tail 8, (by kernel_rfl)
        change wpList _ _ _ _ _ W2.drew
        have e3 : W2.drew.cell? ⟨g, m, Option.none⟩ = some (.slice (some ⟨g', o, Option.none⟩) (k + 1) c) := e1
        have e4 : W2.drew.frozen? ⟨g, m, Option.none⟩ = false := e2
        have H5 := Lib.hid H4.out.drew
        have HB5 := Lib.hid (show W2.drew.heap[w.heap.size + 3]? = _ ∧ W2.drew.ownsRow (w.heap.size + 4) 25 1 _ _ _ ∧ Pend S q ys W2.drew from ⟨HB.out.1, own_keep HB.out.2.1 (fun _ _ => rfl), Pend.kept (W := W2) (W' := W2.drew) (fun _ _ => rfl) _ _ HB.out.2.2⟩)
        have HJ5 := Lib.hid (show ItV S it _ W2.drew ∧ ∀ o', (c = 1 ∨ o' = o + 3) → SlF S r _ W2.drew from ⟨ItV.kept (W := W2) (W' := W2.drew) (fun _ _ => rfl) HJ.out.1, fun o' ho => SlF.kept (W := W2) (W' := W2.drew) (fun _ _ => rfl) (HJ.out.2 o' ho)⟩)
        have HN5 := Lib.hid (show W2.drew.heap[wr.heap.size]? = _ ∧ g < wr.heap.size ∧ w.heap.size + 4 ≤ g ∧ W2.drew.heap.size = wr.heap.size + 1 from HN.out)
        clear e0 e1 e2 H4 HB HJ HN hsl
        generalize W2.drew = W3 at *
        obtain ⟨⟨f0, f1, f2⟩, _⟩ := cells3 HN5.out.1
        have hgn : ¬ g = wr.heap.size := by have := HN5.out.2.1; omega
        have hgn2 : ¬ wr.heap.size = g := by omega
        have ho : c = 1 ∨ o2 = o + 3 := by
          have h := HO2.out
          by_cases hc : c = 1
          · exact Or.inl hc
          · rw [if_neg hc] at h; exact Or.inr h.symm
        have HM := H5.out.next hS (by rw [hm]; exact HB5.out.1) (by rw [hm]; exact HB5.out.2.1) HB5.out.2.2 HN5.out.2.2.1 (HJ5.out.2 o2 ho)
        rw [hm] at HM
        replace HM := Lib.hid HM
        have HVV := Lib.hid (HJ5.out.1.kept (W' := W3.setCell ⟨g, m, Option.none⟩ (.slice (some ⟨g', o2, Option.none⟩) k (c - 1))) (fun k hk => heap_setCell_other _ _ _ _ (by have h1 := (hS k hk).1; have h2 := HN5.out.2.2.1; simp; omega)))
        clear ho
        have HQ := Lib.hid (show (r :: q).length < 1000000 by simp; omega)
        go_wp2_with fail
        refine (enter_c hS it _ HVV.out HM.out HW.out.2.1.1 HQ.out).mono ?_
        rintro e W4 ⟨rfl, h4⟩
        have H6 := Lib.hid h4
        clear h4
        go_wp2_with fail
        rw [HL.out.1, evP_item]
        refine WP.less (n := (evP (it.qs ++ r :: q)).length) ⟨it.qs ++ r :: q, K.step s1 it.ev1, H6.out, HW.out.2.1.2, HW.out.2.2, rfl, ?_⟩ (by simp)
        have h1 := HL.out.1
        have h2 := HL.out.2
        rw [h1, evP_item] at h2
        simp at h2 ⊢
        omega
end
end Go.Proofs.Ytgaaalacoeainaa
