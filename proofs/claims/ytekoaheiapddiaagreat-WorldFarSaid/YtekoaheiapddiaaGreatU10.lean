/- Merged: Lj, Lu. -/
import Derived.Test.YtekoaheiapddiaaGreatU09
section
namespace Go.Proofs.YtekoaheiapddiaaGreat
open Go.RowKit

theorem exists_least {P : Nat → Prop} (h : ∃ n, P n) : ∃ n, P n ∧ ∀ m, P m → n ≤ m := by
  obtain ⟨n, hn⟩ := h
  induction n using Nat.strongRecOn with
  | ind n ih =>
    by_cases hm : ∃ m, m < n ∧ P m
    · obtain ⟨m, h1, h2⟩ := hm
      exact ih m h1 h2
    · exact ⟨n, hn, fun m h => Nat.le_of_not_lt fun hlt => hm ⟨m, hlt, h⟩⟩
open Classical in
noncomputable def least (P : Nat → Prop) : Nat := if h : ∃ n, P n then Classical.choose (exists_least h) else 0
theorem least_spec {P : Nat → Prop} (h : ∃ n, P n) : P (least P) := by
  unfold least
  rw [dif_pos h]
  exact (Classical.choose_spec (exists_least h)).1
theorem least_le {P : Nat → Prop} {m : Nat} (h : P m) : least P ≤ m := by
  unfold least
  rw [dif_pos ⟨m, h⟩]
  exact (Classical.choose_spec (exists_least ⟨m, h⟩)).2 m h
def It.evs : It → List Ev
  | .text s => [.txt s]
  | .list i => .bgn :: i.evs ++ [.fin]
def It.ev1 : It → Ev
  | .text s => .txt s
  | .list _ => .bgn
def It.qs : It → List Fo
  | .text _ => []
  | .list i => [i]
theorem It.evs_eq (x : It) : x.evs = x.ev1 :: evP x.qs := by cases x <;> rfl
section
variable {σ : Type} {nb nt ne : FuncId} {p : Value}
/-- At the head of a round: so many events are still to come. -/
def WP (K : Sink σ nb nt ne p) (S : Nat → Prop) (w : World) (sf : σ) (W : World) (n : Nat) : Prop :=
  ∃ q s, WI K S w q s W ∧ goodE K.step K.ok s (evP q) ∧ runE K.step s (evP q) = sf ∧ n = (evP q).length ∧ n < 900000
theorem WP.less {K : Sink σ nb nt ne p} {S : Nat → Prop} {w : World} {sf : σ} {W : World} {n : Nat} (h : WP K S w sf W n) {m : Nat} (hn : n < m) : (∃ n, WP K S w sf W n) ∧ least (WP K S w sf W) < m :=
  ⟨⟨n, h⟩, Nat.lt_of_le_of_lt (least_le h) hn⟩
variable {K : Sink σ nb nt ne p} {S : Nat → Prop} {w W : World} {s : σ}
/-- What the rounds read. -/
theorem WI.top {f : Fo} {q : List Fo} (h : WI K S w (f :: q) s W) : ∃ g cap y ys, W.heap[w.heap.size + 3]? = some (.cells #[.slice (some ⟨g, 0, none⟩) (q.length + 1) cap] 342 (0, 0)) ∧
    W.ownsRow (w.heap.size + 4) 196 1 (.slice (some ⟨g, 0, none⟩) (q.length + 1) cap) (q.length + 1) (ys.reverse ++ [y]) ∧ SlF S f y W ∧ Pend S q ys W ∧ w.heap.size + 4 ≤ g ∧ g < W.heap.size ∧ q.length + 1 ≤ cap := by
  obtain ⟨vo, ys, a1, a2, ⟨y, r, rfl, a3, a4⟩, a5⟩ := h.op
  obtain ⟨g, cap, rfl, b1, b2, b3⟩ := own_form a2
  rw [List.reverse_cons] at a2
  exact ⟨g, cap, y, r, a1, a2, a3, a4, b1, b2, b3⟩
theorem WI.chg {q : List Fo} (h : WI K S w q s W) : Chg (K.ft w) (K.ft W) w W :=
  ⟨h.os, h.tape, h.output, by have := h.size; omega, h.fr, fun k hk => (h.fn k hk).elim (fun h => Or.inl h.2) (fun h => Or.inr (by omega))⟩
theorem WI.pop {f : Fo} {q : List Fo} {g cap : Nat} {y : Value} {ys : List Value} (h : WI K S w (f :: q) s W) (hS : ∀ k, S k → k < w.heap.size ∧ ¬ K.ft w k) (a1 : W.heap[w.heap.size + 3]? = some (.cells #[.slice (some ⟨g, 0, none⟩) (q.length + 1) cap] 342 (0, 0)))
    (a2 : W.ownsRow (w.heap.size + 4) 196 1 (.slice (some ⟨g, 0, none⟩) (q.length + 1) cap) (q.length + 1) (ys.reverse ++ [y])) (a4 : Pend S q ys W) (a5 : w.heap.size + 4 ≤ g) : WI K S w q s (W.setCell ⟨w.heap.size + 3, 0, none⟩ (.slice (some ⟨g, 0, none⟩) q.length cap)) := by
  have hk : ∀ k, k ≠ w.heap.size + 3 → (W.setCell ⟨w.heap.size + 3, 0, none⟩ (.slice (some ⟨g, 0, none⟩) q.length cap)).heap[k]? = W.heap[k]? := fun k hk => heap_setCell_other _ _ _ _ (by simpa using hk)
  refine h.own (vo := .slice (some ⟨g, 0, none⟩) (q.length + 1) cap) (vo' := .slice (some ⟨g, 0, none⟩) q.length cap) (ys' := ys) a1 (fun k _ h2 _ => hk k h2) (by simp [World.setCell]) rfl rfl rfl ?_ ?_ ?_ (fun k hk => Or.inl hk)
  · simpa using heap_setCell_same _ _ 0 _ _ (.slice (some ⟨g, 0, none⟩) q.length cap) a1
  · refine own_keep (own_pop a2) (fun k hkk => hk k ?_)
    have : g = k := by simpa [Value.ownBlock] using hkk
    omega
  · exact a4.kept (fun k hkS => hk k (by have := (hS k hkS).1; omega)) _ _
theorem WI.drew {q : List Fo} (h : WI K S w q s W) : WI K S w q s W.drew := by
  obtain ⟨h1, h2⟩ := K.kept s W W.drew h.st (fun _ _ => rfl) (Nat.le_refl _)
  obtain ⟨vo, ys, a1, a2, a3, a4⟩ := h.op
  exact ⟨h1, h.fb, h.ftx, ⟨vo, ys, a1, own_keep a2 (fun _ _ => rfl), Pend.kept (W := W) (W' := W.drew) (fun _ _ => rfl) _ _ a3, fun k hk hf => a4 k hk ((h2 k).1 hf)⟩, h.fr, fun k hk => h.fn k ((h2 k).1 hk), h.size, h.os, h.tape, h.output⟩
theorem WI.next {f r : Fo} {q : List Fo} {g cap : Nat} {y y' : Value} {ys : List Value} (h : WI K S w (f :: q) s W) (hS : ∀ k, S k → k < w.heap.size ∧ ¬ K.ft w k) (a1 : W.heap[w.heap.size + 3]? = some (.cells #[.slice (some ⟨g, 0, none⟩) (q.length + 1) cap] 342 (0, 0)))
    (a2 : W.ownsRow (w.heap.size + 4) 196 1 (.slice (some ⟨g, 0, none⟩) (q.length + 1) cap) (q.length + 1) (ys.reverse ++ [y])) (a4 : Pend S q ys W) (a5 : w.heap.size + 4 ≤ g) (hy : SlF S r y' W) : WI K S w (r :: q) s (W.setCell ⟨g, q.length, none⟩ y') := by
  have hk : ∀ k, k ≠ g → (W.setCell ⟨g, q.length, none⟩ y').heap[k]? = W.heap[k]? := fun k hk => heap_setCell_other _ _ _ _ (by simpa using hk)
  have hl : ys.length = q.length := a4.length
  refine h.own (vo := .slice (some ⟨g, 0, none⟩) (q.length + 1) cap) (vo' := .slice (some ⟨g, 0, none⟩) (q.length + 1) cap) (ys' := y' :: ys) a1 (fun k _ _ h3 => hk k (fun e => h3 (by rw [e]; rfl))) (by simp [World.setCell]) rfl rfl rfl ?_ ?_ ?_ (fun k hk => Or.inl hk)
  · rw [hk _ (by omega)]; exact a1
  · have h := own_setAt a2 rfl q.length y'
    rw [List.set_append_right _ _ (by simp; omega), List.length_reverse, hl, Nat.sub_self] at h
    rw [List.reverse_cons]
    exact h
  · have hkS : ∀ k, S k → (W.setCell ⟨g, q.length, none⟩ y').heap[k]? = W.heap[k]? := fun k hkS => hk k (by have := (hS k hkS).1; omega)
    exact ⟨_, _, rfl, hy.kept hkS, a4.kept hkS _ _⟩
theorem evP_item (it : It) (r : Fo) (q : List Fo) : evP (it.fo r :: q) = it.ev1 :: evP (it.qs ++ r :: q) := by
  cases it with
  | text t => rfl
  | list i => simp [evP, It.fo, It.qs, It.ev1, Fo.evs]
/-- The first item of a slice. -/
theorem SlF.first {it : It} {r : Fo} {y : Value} (h : SlF S (it.fo r) y W) : ∃ g o c b t a n c', y = .slice (some ⟨g, o, none⟩) (r.len + 1) c ∧ r.len + 1 ≤ c ∧ W.cell? ⟨g, o, none⟩ = some (.bool b) ∧ W.cell? ⟨g, o + 1, none⟩ = some (.string t) ∧ W.cell? ⟨g, o + 2, none⟩ = some (.slice a n c') ∧
    ItV S it (.agg #[.bool b, .string t, .slice a n c']) W ∧ ∀ o', (c = 1 ∨ o' = o + 3) → SlF S r (.slice (some ⟨g, o', none⟩) r.len (c - 1)) W := by
  rcases h with ⟨_, h0⟩ | ⟨g, o, c, rfl, hg, hc, ha⟩
  · cases it <;> cases h0
  · have hr : ∀ hrest : r.At S g (o + 3) W, r.len + 1 ≤ c → ∀ o', (c = 1 ∨ o' = o + 3) → SlF S r (.slice (some ⟨g, o', none⟩) r.len (c - 1)) W := by
      intro hrest hc o' ho
      right
      refine ⟨g, o', c - 1, rfl, hg, by omega, ?_⟩
      rcases ho with ho | ho
      · have hl : r.len = 0 := by omega
        cases r with
        | nil => trivial
        | text s r => simp [Fo.len] at hl
        | list i r => simp [Fo.len] at hl
      · rw [ho]; exact hrest
    cases it with
    | text t =>
      obtain ⟨⟨h1, h2, h3⟩, h4⟩ := ha
      exact ⟨g, o, c, false, str t, none, 0, 0, rfl, hc, h1, h2, h3, rfl, hr h4 hc⟩
    | list i =>
      obtain ⟨⟨h1, h2, v, h3, h4⟩, h5⟩ := ha
      have hv : SlF S i v W := h4
      obtain ⟨a, n, c', rfl⟩ := hv.form
      exact ⟨g, o, c, true, ⟨#[]⟩, a, n, c', rfl, hc, h1, h2, h3, ⟨_, rfl, hv⟩, hr h5 hc⟩
theorem WI.empty (h : WI K S w [] s W) : ∃ a c, W.cell? ⟨w.heap.size + 3, 0, none⟩ = some (.slice a 0 c) := by
  obtain ⟨vo, ys, a1, a2, a3, a5⟩ := h.op
  rcases a2.2 with ⟨rfl, _⟩ | ⟨g, cap, cur, rfl, _⟩
  · exact ⟨_, _, cell_of a1 0⟩
  · exact ⟨_, _, cell_of a1 0⟩
theorem enter_c (hS : ∀ k, S k → k < w.heap.size ∧ ¬ K.ft w k) (x : It) (v : Value) {q : List Fo} (hv : ItV S x v W) (h : WI K S w q s W) (hok : K.ok s x.ev1) (hq : q.length < 1000000) :
    Calls Tryz.prog 270 #[v, .pointer (some ⟨w.heap.size + 2, 0, none⟩), .pointer (some ⟨w.heap.size + 1, 0, none⟩), .pointer (some ⟨w.heap.size + 3, 0, none⟩)] W
      fun e W' => e = .returned (.tuple #[]) ∧ WI K S w (x.qs ++ q) (K.step s x.ev1) W' := by
  cases x with
  | text t => cases hv; exact enter_text hS t h hok
  | list i =>
    obtain ⟨u, rfl, hv⟩ := hv
    obtain ⟨a, n, c, rfl⟩ := hv.form
    exact enter_list hS i a n c hv h hok hq
theorem init_old {w : World} {k : Nat} (hk : k < w.heap.size) (a b c d : Obj) : ((((w.alloc a).alloc b).alloc c).alloc d).heap[k]? = w.heap[k]? := by
  rw [heap_alloc_get, if_neg (by simp; omega), heap_alloc_get, if_neg (by simp; omega), heap_alloc_get, if_neg (by simp; omega), heap_alloc_get, if_neg (by omega)]
theorem slice_one (g o k c : Nat) (W : World) : (Instr.slice 196 (.slice (some ⟨g, o, Option.none⟩) (k + 1) c) (some (.int .i64 1)) Option.none Option.none).run Tryz.prog W = .ok (.slice (some ⟨g, if c = 1 then o else o + 3, Option.none⟩) k (c - 1)) W := by
  have he : (sizeOf (Tryz.prog.elem 196)).run Tryz.prog W = .ok 3 W := by kernel_rfl
  rw [run_slice_l W 196 (some ⟨g, o, Option.none⟩) (k + 1) c (by rw [Tryz.underlying196]; kernel_rfl) .i64 1 (by omega) (by omega), he]
  simp only [Result.andThen_ok]
  unfold sliced
  have h1 : Int.toNat 1 = 1 := rfl
  rw [h1]
  by_cases h : c = 1
  · rw [if_pos h, if_pos h]; rfl
  · rw [if_neg h, if_neg h]
    have e : (⟨g, o, Option.none⟩ : Addr).add (1 * 3) = ⟨g, o + 3, Option.none⟩ := by unfold Addr.add; split <;> simp_all
    simp [e]
theorem WI.init (hst : K.St s w) (o : Obj) : WI K S w [] s ((((w.alloc o).alloc (.cells #[.func (.func nb) #[p] #[]] 1)).alloc (.cells #[.func (.func nt) #[p] #[]] 189)).alloc (.cells #[.slice none 0 0] 342)) := by
  have hk : ∀ k, k < w.heap.size → ((((w.alloc o).alloc (.cells #[.func (.func nb) #[p] #[]] 1)).alloc (.cells #[.func (.func nt) #[p] #[]] 189)).alloc (.cells #[.slice none 0 0] 342)).heap[k]? = w.heap[k]? := fun k hk => by
    rw [heap_alloc_get, if_neg (by simp; omega), heap_alloc_get, if_neg (by simp; omega), heap_alloc_get, if_neg (by simp; omega), heap_alloc_get, if_neg (by omega)]
  obtain ⟨h1, h2⟩ := K.kept s w _ hst (fun k hf => hk k (K.lt _ _ _ hst hf)) (by simp; omega)
  refine ⟨h1, ?_, ?_, ⟨.slice none 0 0, [], ?_, World.ownsRow_nil _ _ _ _, rfl, by simp [Value.ownBlock]⟩, fun k hkk _ => hk k hkk, fun k hf => Or.inl ⟨K.lt _ _ _ hst ((h2 k).1 hf), (h2 k).1 hf⟩, by simp, rfl, rfl, rfl⟩
  · rw [heap_alloc_get, if_neg (by simp), heap_alloc_get, if_neg (by simp), heap_alloc_get, if_pos (by simp)]
  · rw [heap_alloc_get, if_neg (by simp), heap_alloc_get, if_pos (by simp)]
  · rw [heap_alloc_get, if_pos (by simp)]
set_option maxRecDepth 100000 in
set_option maxHeartbeats 2000000 in
theorem walk_c (x : It) (v : Value) (w : World) (s : σ) (hS : ∀ k, S k → k < w.heap.size ∧ ¬ K.ft w k) (hv : ItV S x v w) (hst : K.St s w) (hok : goodE K.step K.ok s x.evs) (hn : x.evs.length < 900000) :
    Calls Tryz.prog 254 #[v, .func (.func nb) #[p] #[], .func (.func nt) #[p] #[], .func (.func ne) #[p] #[]] w fun e w' => e = .returned (.tuple #[]) ∧ K.St (runE K.step s x.evs) w' ∧ Chg (K.ft w) (K.ft w') w w' := by
  have hmf : ∀ (fn : Fn) (first cap : Array Value) (w : World), (Instr.makeFunc fn first cap).run Tryz.prog w = .ok (.func fn first cap) w := fun _ _ _ _ => rfl
  rw [x.evs_eq] at hok hn
  have HV := Lib.hid (And.intro hv (And.intro hst (And.intro hok hn)))
  have HF := Lib.hid (show runE K.step s x.evs = runE K.step (K.step s x.ev1) (evP x.qs) by rw [x.evs_eq]; rfl)
  obtain ⟨xb, xt, xa, xn, xc, rfl⟩ := hv.form
  clear hv hst hok hn
  go_enter Tryz.func254, Tryz.ntmps254
  go_wp2_with (go_at_call 270; refine (enter_c hS x _ (HV.out.1.kept fun k hk => init_old (hS k hk).1 _ _ _ _) (WI.init HV.out.2.1 _) HV.out.2.2.1.1 (by simp)).mono ?_; rintro e W1 ⟨rfl, h1⟩; have H1 := Lib.hid (show WP K S w (runE K.step s x.evs) W1 _ from ⟨x.qs, _, by simpa using h1, HV.out.2.2.1.2, HF.out.symm, rfl, by have := HV.out.2.2.2; simp at this; omega⟩); clear h1)
  have H2 := Lib.hid (And.intro (⟨_, H1.out⟩ : ∃ n, WP K S w (runE K.step s x.evs) W1 n) HV.out.2.1)
  clear H1 HV HF
  generalize hsf : runE K.step s x.evs = sf at *
  have HSF := Lib.hid hsf; clear hsf
  go_loopw [] (fun wr => ∃ n, WP K S w sf wr n) (fun wr => least (WP K S w sf wr))
  case atStart => exact H2.out.1
  case round =>
    have hex := hrel
    obtain ⟨q, s1, hw, hgd, hrun, hlen, hlt⟩ := least_spec hex
    clear hex hrel
    have HL := Lib.hid (And.intro hlen hlt)
    cases q with
    | nil =>
      obtain ⟨ea, ec, ce⟩ := hw.empty
      have HE := Lib.hid (And.intro hw hrun)
      clear hw hgd hrun hlen hlt
      go_wp2_with fail
      go_end0
      refine ⟨rfl, ?_, HE.out.1.chg⟩
      rw [HSF.out, ← HE.out.2]
      exact HE.out.1.st
    | cons f q =>
      obtain ⟨g, cap, y, ys, a1, a2, a3, a4, a5, a6, a7⟩ := hw.top
      have c0 : wr.cell? ⟨w.heap.size + 3, 0, none⟩ = some (.slice (some ⟨g, 0, none⟩) (q.length + 1) cap) := cell_of a1 0
      have z0 := free_of a1 0
      obtain ⟨c1, z1⟩ := own_top a2
      have HW := Lib.hid (And.intro hw (And.intro hgd hrun))
      have HA := Lib.hid (And.intro a1 (And.intro a2 (And.intro a3 (And.intro a4 (And.intro a5 a6)))))
      clear hw hgd hrun a1 a2 a4 a5 a6
      have hmb0 := evP_len (f :: q)
      have hmb : (q.length : Int) < 900000 := by simp at hmb0; omega
      clear hmb0
      generalize hm : q.length = m at *
      have hi1 : (0 : Int) ≤ (m : Int) ∧ (m : Int) < (m : Int) + 1 := by omega
      have hf : f = .nil ∨ ∃ it r, f = It.fo it r := by
        cases f with
        | nil => exact Or.inl rfl
        | text t r => exact Or.inr ⟨.text t, r, rfl⟩
        | list i r => exact Or.inr ⟨.list i, r, rfl⟩
      rcases hf with rfl | ⟨it, r, rfl⟩
      · obtain ⟨ya, yc, rfl⟩ : ∃ a c, y = .slice a 0 c := by
          rcases a3 with ⟨rfl, _⟩ | ⟨g', o, c, rfl, _⟩
          · exact ⟨_, _, rfl⟩
          · exact ⟨_, _, rfl⟩
        clear a3 hlt hlen
        have HC := Lib.hid (K.ce s1 wr HW.out.1.st HW.out.2.1.1)
        have ee := K.ee
        go_wp2_with fail
        refine HC.out.mono ?_
        rintro e W2 ⟨rfl, hst2, hc2⟩
        have H3 := Lib.hid (HW.out.1.sink hS hst2 hc2)
        clear hst2 hc2 c0 z0 c1 z1
        obtain ⟨g2, cap2, y2, ys2, b1, b2, b3, b4, b5, b6, b7⟩ := H3.out.top
        have c0 : W2.cell? ⟨w.heap.size + 3, 0, none⟩ = some (.slice (some ⟨g2, 0, none⟩) (q.length + 1) cap2) := cell_of b1 0
        have z0 := free_of b1 0
        have HB := Lib.hid (H3.out.pop hS b1 b2 b4 b5)
        clear b1 b2 b3 b4 b5 b6
        rw [hm] at c0 b7 HB
        have hi2 : (m : Int) ≤ (cap2 : Int) := by omega
        go_wp2_with fail
        rw [HL.out.1]
        refine WP.less (n := (evP q).length) ⟨q, K.step s1 .fin, HB.out, HW.out.2.1.2, HW.out.2.2, rfl, ?_⟩ (by simp [evP, Fo.evs])
        have h1 := HL.out.1
        have h2 := HL.out.2
        rw [h1] at h2
        simp [evP, Fo.evs] at h2
        omega
      · obtain ⟨g', o, c, fb, ft, fa, fn, fc, rfl, hc1, d0, d1, d2, hit, hsl⟩ := a3.first
        have HI := Lib.hid (And.intro hit hsl)
        clear hit hsl a3 hlt hlen
        rw [evP_item] at HW
        generalize hk : r.len = k at *
        have hk0 : (((k : Int) + 1) == 0) = false := by simp; omega
        have hk1 : (0 : Int) < (k : Int) + 1 := by omega
        have hk2 : (1 : Int) ≤ (k : Int) + 1 := by omega
        go_wp2_with fail
        have H4 := Lib.hid (HW.out.1.alloc hS (.cells #[.bool fb, .string ft, .slice fa fn fc] 198))
        have hlt := HA.out.2.2.2.2.2
        have hlo := HW.out.1.size
        have hold : ∀ k, k < wr.heap.size → (wr.alloc (.cells #[.bool fb, .string ft, .slice fa fn fc] 198)).heap[k]? = wr.heap[k]? := fun k hk => Below.heap_alloc _ _ _ hk
        have e0 := (World.cell?_of_block (a := ⟨w.heap.size + 3, 0, Option.none⟩) (hold (w.heap.size + 3) (by omega))).trans c0
        have e1 := (World.cell?_of_block (a := ⟨g, m, Option.none⟩) (hold _ hlt)).trans c1
        have e2 := (World.frozen?_of_block (a := ⟨g, m, Option.none⟩) (hold _ hlt)).trans z1
        have HB := Lib.hid (And.intro ((hold (w.heap.size + 3) (by omega)).trans HA.out.1) (And.intro (HA.out.2.1.alloc (.cells #[.bool fb, .string ft, .slice fa fn fc] 198)) (Pend.kept (fun k hk => hold k (by have := (hS k hk).1; omega)) _ _ HA.out.2.2.2.1)))
        have HJ := Lib.hid (And.intro (HI.out.1.kept (fun k hk => hold k (by have := (hS k hk).1; omega))) (fun o' ho => (HI.out.2 o' ho).kept (fun k hk => hold k (by have := (hS k hk).1; omega))))
        have HN := Lib.hid (And.intro (heap_alloc_new wr (.cells #[.bool fb, .string ft, .slice fa fn fc] 198)) (And.intro hlt (And.intro HA.out.2.2.2.2.1 (alloc_size wr (.cells #[.bool fb, .string ft, .slice fa fn fc] 198)))))
        clear hold hlt hlo c0 c1 z0 z1 d0 d1 d2
        generalize wr.alloc (.cells #[.bool fb, .string ft, .slice fa fn fc] 198) = W2 at *
        have hsl := slice_one g' o k c
        obtain ⟨o2, ho2⟩ : ∃ o2, (if c = 1 then o else o + 3) = o2 := ⟨_, rfl⟩
        rw [ho2] at hsl
        have HO2 := Lib.hid ho2
        clear ho2
        go_still_tail 8, (by kernel_rfl)
        change wpList _ _ _ _ _ W2.drew
        have e3 : W2.drew.cell? ⟨g, m, Option.none⟩ = some (.slice (some ⟨g', o, Option.none⟩) (k + 1) c) := e1
        have e4 : W2.drew.frozen? ⟨g, m, Option.none⟩ = false := e2
        have H5 := Lib.hid H4.out.drew
        have HB5 := Lib.hid (show W2.drew.heap[w.heap.size + 3]? = _ ∧ W2.drew.ownsRow (w.heap.size + 4) 196 1 _ _ _ ∧ Pend S q ys W2.drew from ⟨HB.out.1, own_keep HB.out.2.1 (fun _ _ => rfl), Pend.kept (W := W2) (W' := W2.drew) (fun _ _ => rfl) _ _ HB.out.2.2⟩)
        have HJ5 := Lib.hid (show ItV S it _ W2.drew ∧ ∀ o', (c = 1 ∨ o' = o + 3) → SlF S r _ W2.drew from ⟨ItV.kept (W := W2) (W' := W2.drew) (fun _ _ => rfl) HJ.out.1, fun o' ho => SlF.kept (W := W2) (W' := W2.drew) (fun _ _ => rfl) (HJ.out.2 o' ho)⟩)
        have HN5 := Lib.hid (show W2.drew.heap[wr.heap.size]? = _ ∧ g < wr.heap.size ∧ w.heap.size + 4 ≤ g ∧ W2.drew.heap.size = wr.heap.size + 1 from HN.out)
        clear e0 e1 e2 H4 HB HJ HN hsl
        generalize W2.drew = W3 at *
        obtain ⟨⟨f0, f1, f2⟩, _⟩ := cells3 HN5.out.1
        have hgn : ¬ g = wr.heap.size := by have := HN5.out.2.1; omega
        have hgn2 : ¬ wr.heap.size = g := by omega
        have ho : c = 1 ∨ o2 = o + 3 := by
          have h := HO2.out
          by_cases hc : c = 1
          · exact Or.inl hc
          · rw [if_neg hc] at h; exact Or.inr h.symm
        have HM := H5.out.next hS (by rw [hm]; exact HB5.out.1) (by rw [hm]; exact HB5.out.2.1) HB5.out.2.2 HN5.out.2.2.1 (HJ5.out.2 o2 ho)
        rw [hm] at HM
        replace HM := Lib.hid HM
        have HVV := Lib.hid (HJ5.out.1.kept (W' := W3.setCell ⟨g, m, Option.none⟩ (.slice (some ⟨g', o2, Option.none⟩) k (c - 1))) (fun k hk => heap_setCell_other _ _ _ _ (by have h1 := (hS k hk).1; have h2 := HN5.out.2.2.1; simp; omega)))
        clear ho
        have HQ := Lib.hid (show (r :: q).length < 1000000 by simp; omega)
        go_wp2_with fail
        refine (enter_c hS it _ HVV.out HM.out HW.out.2.1.1 HQ.out).mono ?_
        rintro e W4 ⟨rfl, h4⟩
        have H6 := Lib.hid h4
        clear h4
        go_wp2_with fail
        rw [HL.out.1, evP_item]
        refine WP.less (n := (evP (it.qs ++ r :: q)).length) ⟨it.qs ++ r :: q, K.step s1 it.ev1, H6.out, HW.out.2.1.2, HW.out.2.2, rfl, ?_⟩ (by simp)
        have h1 := HL.out.1
        have h2 := HL.out.2
        rw [h1, evP_item] at h2
        simp at h2 ⊢
        omega
end
end Go.Proofs.YtekoaheiapddiaaGreat
end
section
namespace Go.Proofs.YtekoaheiapddiaaGreat
open Go.RowKit

theorem At_unique {T T' : Nat → Prop} {W : World} : ∀ (f f' : Fo) (g o : Nat), f.len = f'.len → f.At T g o W → f'.At T' g o W → f = f' := by
  intro f
  induction f with
  | nil => intro f' g o hl _ _; cases f' <;> simp [Fo.len] at hl; rfl
  | text s r ih =>
    intro f' g o hl ⟨⟨h1, h2, h3⟩, h4⟩ h'
    cases f' with
    | nil => simp [Fo.len] at hl
    | text s' r' =>
      obtain ⟨⟨k1, k2, k3⟩, k4⟩ := h'
      have e1 : s = s' := by rw [h2] at k2; exact str_inj (by simpa using k2)
      rw [e1, ih r' g _ (by simpa [Fo.len] using hl) h4 k4]
    | list i' r' => obtain ⟨⟨k1, _⟩, _⟩ := h'; rw [h1] at k1; simp at k1
  | list i r ihi ih =>
    intro f' g o hl ⟨⟨h1, h2, v, h3, h5⟩, h4⟩ h'
    cases f' with
    | nil => simp [Fo.len] at hl
    | text s' r' => obtain ⟨⟨k1, _⟩, _⟩ := h'; rw [h1] at k1; simp at k1
    | list i' r' =>
      obtain ⟨⟨k1, k2, v', k3, k5⟩, k4⟩ := h'
      obtain rfl : v = v' := by rw [h3] at k3; simpa using k3
      have e1 : i = i' := by
        rcases h5 with ⟨e, rfl⟩ | ⟨g1, o1, c1, e, _, _, ha⟩
        · rcases k5 with ⟨_, rfl⟩ | ⟨g2, o2, c2, e2, _⟩
          · rfl
          · rw [e] at e2; cases e2
        · rcases k5 with ⟨e2, _⟩ | ⟨g2, o2, c2, e2, _, _, hb⟩
          · rw [e] at e2; cases e2
          · rw [e] at e2
            injection e2 with e3 e4 e5
            injection e3 with e3
            injection e3 with e6 e7 e8
            subst e6; subst e7
            exact ihi i' _ _ e4 ha hb
      rw [e1, ih r' g _ (by simpa [Fo.len] using hl) h4 k4]
theorem SlF_unique {T T' : Nat → Prop} {W : World} {i i' : Fo} {u : Value} (h : SlF T i u W) (h' : SlF T' i' u W) : i = i' := by
  rcases h with ⟨e, rfl⟩ | ⟨g1, o1, c1, e, _, _, ha⟩
  · rcases h' with ⟨_, rfl⟩ | ⟨g2, o2, c2, e2, _⟩
    · rfl
    · rw [e] at e2; cases e2
  · rcases h' with ⟨e2, _⟩ | ⟨g2, o2, c2, e2, _, _, hb⟩
    · rw [e] at e2; cases e2
    · rw [e] at e2
      injection e2 with e3 e4 e5
      injection e3 with e3
      injection e3 with e6 e7 e8
      subst e6; subst e7
      exact At_unique i i' _ _ e4 ha hb
theorem cell_set {W : World} {g p : Nat} {u : Value} (u' : Value) (hc : W.cell? ⟨g, p, none⟩ = some u) (g' q : Nat) : (W.setCell ⟨g, p, none⟩ u').cell? ⟨g', q, none⟩ = if g' = g ∧ q = p then some u' else W.cell? ⟨g', q, none⟩ := by
  by_cases h : g' = g ∧ q = p
  · obtain ⟨rfl, rfl⟩ := h
    rw [if_pos ⟨rfl, rfl⟩]
    exact World.cell?_setCell_same _ _ _ hc
  · rw [if_neg h]
    exact World.cell?_setCell_other _ _ _ _ (fun e => by injection e with e1 e2; exact h ⟨e1.symm, e2.symm⟩)
/-- A cell that holds a slice of the items i takes another slice of the same items: all items are as they were. -/
theorem At_swap {T : Nat → Prop} {W : World} {g p : Nat} {u u' : Value} {i : Fo} (hc : W.cell? ⟨g, p, none⟩ = some u) (hu : SlF T i u W) (hu' : SlF T i u' W) (hn : u = .slice none 0 0 → u' = .slice none 0 0) :
    ∀ (f : Fo) (g' o : Nat), f.At T g' o W → f.At T g' o (W.setCell ⟨g, p, none⟩ u') := by
  have hne : ∀ (g' q : Nat) (x : Value), W.cell? ⟨g', q, none⟩ = some x → (∀ a n c, x ≠ .slice a n c) → (W.setCell ⟨g, p, none⟩ u').cell? ⟨g', q, none⟩ = some x := by
    intro g' q x hx hs
    rw [cell_set u' hc]
    by_cases h : g' = g ∧ q = p
    · obtain ⟨rfl, rfl⟩ := h
      rw [hc] at hx
      obtain ⟨a, n, c, e⟩ := hu.form
      exact absurd ((Option.some.inj hx).symm.trans e) (hs a n c)
    · rw [if_neg h]; exact hx
  intro f
  induction f with
  | nil => intro _ _ _; trivial
  | text s r ih =>
    intro g' o ⟨⟨h1, h2, h3⟩, h4⟩
    refine ⟨⟨hne _ _ _ h1 (by simp), hne _ _ _ h2 (by simp), ?_⟩, ih _ _ h4⟩
    rw [cell_set u' hc]
    by_cases h : g' = g ∧ o + 2 = p
    · rw [if_pos h]
      obtain ⟨rfl, rfl⟩ := h
      rw [hc] at h3
      rw [hn (by simpa using h3)]
    · rw [if_neg h]; exact h3
  | list j r ihj ih =>
    intro g' o ⟨⟨h1, h2, v, h3, h5⟩, h4⟩
    have hv : SlF T j v W := h5
    have hv' : ∀ x, SlF T j x W → SlF T j x (W.setCell ⟨g, p, none⟩ u') := fun x hx => by
      rcases hx with h | ⟨g1, o1, c1, e, hl, hm, ha⟩
      · exact Or.inl h
      · exact Or.inr ⟨g1, o1, c1, e, hl, hm, ihj _ _ ha⟩
    by_cases h : g' = g ∧ o + 2 = p
    · refine ⟨⟨hne _ _ _ h1 (by simp), hne _ _ _ h2 (by simp), u', by rw [cell_set u' hc, if_pos h], ?_⟩, ih _ _ h4⟩
      obtain ⟨rfl, rfl⟩ := h
      rw [hc] at h3
      obtain rfl : u = v := by simpa using h3
      have : i = j := SlF_unique hu hv
      subst this
      exact hv' u' hu'
    · exact ⟨⟨hne _ _ _ h1 (by simp), hne _ _ _ h2 (by simp), v, by rw [cell_set u' hc, if_neg h]; exact h3, hv' v hv⟩, ih _ _ h4⟩
theorem SlF_swap {T : Nat → Prop} {W : World} {g p : Nat} {u u' : Value} {i : Fo} (hc : W.cell? ⟨g, p, none⟩ = some u) (hu : SlF T i u W) (hu' : SlF T i u' W) (hn : u = .slice none 0 0 → u' = .slice none 0 0) {f : Fo} {v : Value} (h : SlF T f v W) : SlF T f v (W.setCell ⟨g, p, none⟩ u') := by
  rcases h with h | ⟨g1, o1, c1, e, hl, hm, ha⟩
  · exact Or.inl h
  · exact Or.inr ⟨g1, o1, c1, e, hl, hm, At_swap hc hu hu' hn _ _ _ ha⟩
def Fo.siz : Fo → Nat
  | .nil => 0
  | .text _ r => r.siz + 1
  | .list i r => i.siz + r.siz + 1
theorem Fo.len_siz (f : Fo) : f.len ≤ f.siz := by
  induction f with
  | nil => exact Nat.le_refl _
  | text s r ih => simp only [Fo.len, Fo.siz]; omega
  | list i r _ ih => simp only [Fo.len, Fo.siz]; omega
def sizQ (q : List Fo) : Nat := (q.map fun f => f.siz + 1).sum
theorem sizQ_cons (f : Fo) (q : List Fo) : sizQ (f :: q) = f.siz + 1 + sizQ q := by simp [sizQ]
theorem sizQ_len (q : List Fo) : q.length ≤ sizQ q := by
  induction q with
  | nil => exact Nat.le_refl _
  | cons f q ih => rw [sizQ_cons]; simp; omega
/-- May its row be written? -/
def Wr (w : World) (n3 : Nat) (y : Value) (W : World) : Prop := y = .slice none 0 0 ∨ (Ow (w.heap.size + 1) y W ∧ y.ownBlock ≠ some n3)
/-- Where the items may lie. -/
def Ti (S : Nat → Prop) (w W : World) (k : Nat) : Prop := S k ∨ (w.heap.size + 1 ≤ k ∧ ∃ cur, W.heap[k]? = some (.cells cur 198 (0, 0)))
/-- What List knows: begun in w; its list lies in block n3, with the items f in vr; q is still to be copied, in ys, whose row is t. -/
structure LI (S : Nat → Prop) (w : World) (n3 : Nat) (f : Fo) (vr : Value) (q : List Fo) (ys : List Value) (t : Value) (W : World) : Prop where
  hS : ∀ k, S k → k < w.heap.size
  below : Below w.heap.size w W
  hn3 : w.heap.size + 1 ≤ n3
  row3 : W.heap[n3]? = some (.cells #[.bool true, .string ⟨#[]⟩, vr] 198 (0, 0))
  row0 : W.heap[w.heap.size]? = some (.cells #[.bool false, .string ⟨#[]⟩, .slice none 0 0] 198 (0, 0))
  root : SlF (Ti S w W) f vr W
  pend : Pend (Ti S w W) q ys W
  ow : ∀ y ∈ ys, Wr w n3 y W
  row : W.ownsRow (n3 + 1) 196 1 t q.length ys.reverse
theorem Pend.mono {S T : Nat → Prop} {W : World} (hm : ∀ k, S k → T k) : ∀ (q : List Fo) (ys : List Value), Pend S q ys W → Pend T q ys W
  | [], _, h => h
  | _ :: q, _, ⟨y, r, e, h1, h2⟩ => ⟨y, r, e, h1.mono hm, Pend.mono hm q r h2⟩
theorem Wr.later {S : Nat → Prop} {w : World} {n3 : Nat} {y : Value} {W W' : World} (h : Wr w n3 y W) (hk : ∀ k, Ti S w W k → W'.heap[k]? = W.heap[k]?) : Wr w n3 y W' := by
  rcases h with h | ⟨⟨g, n, cap, cur, e, hb, hg⟩, h⟩
  · exact Or.inl h
  · exact Or.inr ⟨⟨g, n, cap, cur, e, hb, (hk g (Or.inr ⟨hb, cur, hg⟩)).trans hg⟩, h⟩
theorem Ti.lt {S : Nat → Prop} {w W : World} (hS : ∀ k, S k → k < w.heap.size) (hb : w.heap.size ≤ W.heap.size) {k : Nat} (h : Ti S w W k) : k < W.heap.size := by
  rcases h with h | ⟨_, cur, h⟩
  · have := hS k h; omega
  · exact lt_of h
section
variable {S : Nat → Prop} {w : World} {n3 : Nat} {f : Fo} {vr : Value} {q : List Fo} {ys : List Value} {t : Value} {W W' : World}
/-- Whatever keeps the blocks of items, and the row. -/
theorem LI.keep (h : LI S w n3 f vr q ys t W) (hb : Below w.heap.size W W') (hk0 : W'.heap[w.heap.size]? = W.heap[w.heap.size]?) (hk : ∀ k, Ti S w W k → W'.heap[k]? = W.heap[k]?) : Below w.heap.size w W' ∧ (∀ k, Ti S w W k → Ti S w W' k) ∧ W'.heap[n3]? = some (.cells #[.bool true, .string ⟨#[]⟩, vr] 198 (0, 0)) ∧ W'.heap[w.heap.size]? = some (.cells #[.bool false, .string ⟨#[]⟩, .slice none 0 0] 198 (0, 0)) ∧ SlF (Ti S w W') f vr W' ∧ Pend (Ti S w W') q ys W' ∧ ∀ y ∈ ys, Wr w n3 y W' := by
  have hm : ∀ k, Ti S w W k → Ti S w W' k := fun k hk' => by
    rcases hk' with h1 | ⟨h0, cur, h1⟩
    · exact Or.inl h1
    · exact Or.inr ⟨h0, cur, (hk k (Or.inr ⟨h0, cur, h1⟩)).trans h1⟩
  exact ⟨h.below.trans hb, hm, (hk _ (Or.inr ⟨h.hn3, _, h.row3⟩)).trans h.row3, hk0.trans h.row0, (h.root.kept hk).mono hm, (h.pend.kept hk _ _).mono hm _ _, fun y hy => (h.ow y hy).later hk⟩
theorem LI.calm (h : LI S w n3 f vr q ys t W) (hb : Below W.heap.size W W') : LI S w n3 f vr q ys t W' := by
  obtain ⟨h1, _, h3, h4, h5, h6, h7⟩ := h.keep (hb.mono h.below.size) (hb.block _ (lt_of h.row0)) (fun k hk => hb.block k (hk.lt h.hS h.below.size))
  exact ⟨h.hS, h1, h.hn3, h3, h4, h5, h6, h7, own_keep h.row fun k hk => hb.block k (h.row.lt k hk).2⟩
theorem LI.rowNot (h : LI S w n3 f vr q ys t W) : ∀ k, t.ownBlock = some k → n3 + 1 ≤ k ∧ ¬ Ti S w W k := fun k hk => by
  have hn := h.hn3
  rcases h.row.2 with ⟨e, _⟩ | ⟨g', cap, cur', e, hb, hg', _⟩
  · rw [e] at hk; cases hk
  · rw [e] at hk
    have : g' = k := by simpa [Value.ownBlock] using hk
    subst this
    refine ⟨hb, fun hT => ?_⟩
    rcases hT with h1 | ⟨_, cur, h1⟩
    · have := h.hS _ h1; have := h.hn3; omega
    · rw [hg'] at h1; simp at h1
theorem LI.swap {g p : Nat} {u u' : Value} {i : Fo} (h : LI S w n3 f vr q ys t W) (hg : w.heap.size + 1 ≤ g) (hg3 : g ≠ n3) {cur : Array Value} (hcur : W.heap[g]? = some (.cells cur 198 (0, 0))) (hc : W.cell? ⟨g, p, none⟩ = some u)
    (hu : SlF (Ti S w W) i u W) (hu' : SlF (Ti S w W) i u' W) (hn : u = .slice none 0 0 → u' = .slice none 0 0) : LI S w n3 f vr q ys t (W.setCell ⟨g, p, none⟩ u') ∧ ∀ (f' : Fo) (v' : Value), SlF (Ti S w W) f' v' W → SlF (Ti S w (W.setCell ⟨g, p, none⟩ u')) f' v' (W.setCell ⟨g, p, none⟩ u') := by
  have hk : ∀ k, k ≠ g → (W.setCell ⟨g, p, none⟩ u').heap[k]? = W.heap[k]? := fun k hk => heap_setCell_other _ _ _ _ (by simpa using hk)
  have hT : ∀ k, Ti S w W k → Ti S w (W.setCell ⟨g, p, none⟩ u') k := fun k hk' => by
    rcases hk' with h1 | ⟨h0, c, h1⟩
    · exact Or.inl h1
    · by_cases e : k = g
      · subst e; exact Or.inr ⟨h0, _, heap_setCell_same _ _ _ _ _ _ h1⟩
      · exact Or.inr ⟨h0, c, (hk k e).trans h1⟩
  have hsw : ∀ (f' : Fo) (v' : Value), SlF (Ti S w W) f' v' W → SlF (Ti S w (W.setCell ⟨g, p, none⟩ u')) f' v' (W.setCell ⟨g, p, none⟩ u') := fun f' v' h' => (SlF_swap hc hu hu' hn h').mono hT
  refine ⟨⟨h.hS, h.below.setCell (p := ⟨g, p, none⟩) (by show _ ≤ g; omega) _, h.hn3, (hk _ (Ne.symm hg3)).trans h.row3, (hk _ (by omega)).trans h.row0, hsw _ _ h.root, ?_, fun y hy => ?_, own_keep h.row fun k hv => hk k (fun e => ?_)⟩, hsw⟩
  · have : ∀ (q : List Fo) (ys : List Value), Pend (Ti S w W) q ys W → Pend (Ti S w (W.setCell ⟨g, p, none⟩ u')) q ys (W.setCell ⟨g, p, none⟩ u') := by
      intro q
      induction q with
      | nil => intro ys h; exact h
      | cons f q ih => intro ys ⟨y, r, e, h1, h2⟩; exact ⟨y, r, e, hsw _ _ h1, ih r h2⟩
    exact this _ _ h.pend
  · rcases h.ow y hy with h1 | ⟨⟨g', n, cap, cur', e, hb, hg'⟩, h1⟩
    · exact Or.inl h1
    · refine Or.inr ⟨?_, h1⟩
      by_cases hgg : g' = g
      · subst hgg
        exact ⟨g', n, cap, _, e, hb, heap_setCell_same _ _ _ _ _ _ hg'⟩
      · exact ⟨g', n, cap, cur', e, hb, (hk g' hgg).trans hg'⟩
  · subst e
    exact (h.rowNot k hv).2 (Or.inr ⟨hg, cur, hcur⟩)
theorem LI.pop {fl : Fo} {y : Value} {g cap : Nat} (h : LI S w n3 f vr (fl :: q) (y :: ys) (.slice (some ⟨g, 0, none⟩) (q.length + 1) cap) W) : LI S w n3 f vr q ys (.slice (some ⟨g, 0, none⟩) q.length cap) W ∧ SlF (Ti S w W) fl y W ∧ Wr w n3 y W ∧ W.cell? ⟨g, q.length, none⟩ = some y := by
  obtain ⟨y', r, e, h1, h2⟩ := h.pend
  injection e with e1 e2
  subst e1; subst e2
  have hr := h.row
  rw [List.reverse_cons] at hr
  exact ⟨⟨h.hS, h.below, h.hn3, h.row3, h.row0, h.root, h2, fun y hy => h.ow y (List.mem_cons_of_mem _ hy), own_pop hr⟩, h1, h.ow y List.mem_cons_self, (own_top hr).1⟩
theorem LI.push {i : Fo} {u t' : Value} (h : LI S w n3 f vr q ys t W) (hu : SlF (Ti S w W) i u W) (hw : Wr w n3 u W) (hown : W'.ownsRow (n3 + 1) 196 1 t' (q.length + 1) (ys.reverse ++ [u])) {o : Obj} (hg : (W.alloc o).grownBy W' t.ownBlock) :
    LI S w n3 f vr (i :: q) (u :: ys) t' W' ∧ ∀ (f' : Fo) (v' : Value), SlF (Ti S w W) f' v' W → SlF (Ti S w W') f' v' W' := by
  have hs := hg.size
  simp at hs
  have hbs := h.below.size
  have hk : ∀ k, Ti S w W k → W'.heap[k]? = W.heap[k]? := fun k h1 => (hg.block k (by have := h1.lt h.hS hbs; simp; omega) (fun e => (h.rowNot k e.symm).2 h1)).trans (Below.heap_alloc _ _ _ (h1.lt h.hS hbs))
  have hb : Below w.heap.size W W' := ⟨hg.os, hg.tape, hg.output, by omega, fun k h1 => (hg.block k (by simp; omega) (fun e => by have := (h.rowNot _ e.symm).1; have := h.hn3; omega)).trans (Below.heap_alloc _ _ _ (by omega))⟩
  have hl0 := lt_of h.row0
  have hk0 : W'.heap[w.heap.size]? = W.heap[w.heap.size]? := (hg.block _ (by simp; omega) (fun e => by have := (h.rowNot _ e.symm).1; have := h.hn3; omega)).trans (Below.heap_alloc _ _ _ hl0)
  obtain ⟨h1, hm, h3, h4, h5, h6, h7⟩ := h.keep hb hk0 hk
  refine ⟨⟨h.hS, h1, h.hn3, h3, h4, h5, ⟨u, ys, rfl, (hu.kept hk).mono hm, h6⟩, fun y hy => ?_, by rw [List.reverse_cons]; exact hown⟩, fun f' v' h' => (h'.kept hk).mono hm⟩
  rcases List.mem_cons.1 hy with rfl | hy
  · exact hw.later hk
  · exact h7 y hy
theorem LI.push_wr {y : Value} (h : LI S w n3 f vr q ys t W) (hw : Wr w n3 y W) {o : Obj} (hg : (W.alloc o).grownBy W' t.ownBlock) : Wr w n3 y W' := by
  have hbs := h.below.size
  exact hw.later fun k h1 => (hg.block k (by have := h1.lt h.hS hbs; simp; omega) (fun e => (h.rowNot k e.symm).2 h1)).trans (Below.heap_alloc _ _ _ (h1.lt h.hS hbs))
theorem LI.calmS (h : LI S w n3 f vr q ys t W) (hb : Below W.heap.size W W') : ∀ (f' : Fo) (v' : Value), SlF (Ti S w W) f' v' W → SlF (Ti S w W') f' v' W' := by
  obtain ⟨_, hm, _⟩ := h.keep (hb.mono h.below.size) (hb.block _ (lt_of h.row0)) (fun k hk => hb.block k (hk.lt h.hS h.below.size))
  exact fun f' v' h' => (h'.kept fun k hk => hb.block k (hk.lt h.hS h.below.size)).mono hm
end
theorem SlF.len {S : Nat → Prop} {f : Fo} {v : Value} {W : World} (h : SlF S f v W) : ∃ a c, v = .slice a f.len c := by
  rcases h with ⟨rfl, rfl⟩ | ⟨g, o, c, rfl, _⟩
  · exact ⟨_, _, rfl⟩
  · exact ⟨_, _, rfl⟩
theorem At_split {T : Nat → Prop} {W : World} : ∀ (f1 f2 : Fo) (g o : Nat), (f1.app f2).At T g o W → f2.At T g (o + f1.len * 3) W := by
  intro f1
  induction f1 with
  | nil => intro f2 g o h; exact h
  | text s r ih => intro f2 g o h; have := ih f2 g _ h.2; rwa [show o + 3 + r.len * 3 = o + (Fo.text s r).len * 3 by simp only [Fo.len]; omega] at this
  | list i r _ ih => intro f2 g o h; have := ih f2 g _ h.2; rwa [show o + 3 + r.len * 3 = o + (Fo.list i r).len * 3 by simp only [Fo.len]; omega] at this
/-- The slice of an item's own items (of a text: none). -/
def It.inner : It → Fo
  | .text _ => .nil
  | .list i => i
theorem At_inner {T : Nat → Prop} {W : World} {x : It} {r : Fo} {g o : Nat} (h : (x.fo r).At T g o W) : ∃ u, W.cell? ⟨g, o + 2, none⟩ = some u ∧ SlF T x.inner u W := by
  cases x with
  | text s => exact ⟨_, h.1.2.2, Or.inl ⟨rfl, rfl⟩⟩
  | list i => obtain ⟨⟨_, _, v, h3, h4⟩, _⟩ := h; exact ⟨v, h3, h4⟩
theorem It.siz_inner (x : It) (r : Fo) : (x.fo r).siz = x.inner.siz + r.siz + 1 := by cases x <;> simp [It.fo, It.inner, Fo.siz]
theorem It.fo_app (x : It) (r : Fo) : (x.fo .nil).app r = x.fo r := by cases x <;> rfl
theorem fo_first {f : Fo} (h : 0 < f.len) : ∃ (x : It) (r : Fo), f = x.fo r := by
  cases f with
  | nil => simp [Fo.len] at h
  | text s r => exact ⟨.text s, r, rfl⟩
  | list i r => exact ⟨.list i, r, rfl⟩
theorem LI.step {S : Nat → Prop} {w : World} {n3 : Nat} {f fl i : Fo} {vr t u u' : Value} {q : List Fo} {ys : List Value} {W W3 : World} {gl p n c : Nat} {cur : Array Value} (h : LI S w n3 f vr q ys t W) (hsl : SlF (Ti S w W) fl (.slice (some ⟨gl, 0, none⟩) n c) W) (hu : SlF (Ti S w W) i u W) (hcur : W.heap[gl]? = some (.cells cur 198 (0, 0)))
    (hgl : w.heap.size + 1 ≤ gl) (hgl3 : gl ≠ n3) (hc : W.cell? ⟨gl, p, none⟩ = some u) (h1 : Below W.heap.size W W3) (h2 : u = .slice none 0 0 → u' = .slice none 0 0)
    (h3 : SlF (fun k => Ti S w W k ∨ (W.heap.size ≤ k ∧ ∃ cur, W3.heap[k]? = some (.cells cur 198 (0, 0)))) i u' W3) (h4 : u' = .slice none 0 0 ∨ Ow W.heap.size u' W3) :
    W3.cell? ⟨gl, p, none⟩ = some u ∧ W3.frozen? ⟨gl, p, none⟩ = false ∧ LI S w n3 f vr q ys t (W3.setCell ⟨gl, p, none⟩ u') ∧ SlF (Ti S w (W3.setCell ⟨gl, p, none⟩ u')) fl (.slice (some ⟨gl, 0, none⟩) n c) (W3.setCell ⟨gl, p, none⟩ u') ∧ Wr w n3 (.slice (some ⟨gl, 0, none⟩) n c) (W3.setCell ⟨gl, p, none⟩ u') ∧
      SlF (Ti S w (W3.setCell ⟨gl, p, none⟩ u')) i u' (W3.setCell ⟨gl, p, none⟩ u') ∧ Wr w n3 u' (W3.setCell ⟨gl, p, none⟩ u') := by
  have hb := h.below.size
  have hn3 := h.hn3
  have hl3 := lt_of h.row3
  have hcur3 := (h1.block _ (lt_of hcur)).trans hcur
  have hc3 : W3.cell? ⟨gl, p, none⟩ = some u := (World.cell?_of_block (h1.block _ (lt_of hcur))).trans hc
  have hu3 := h.calmS h1 _ _ hu
  have hu3' : SlF (Ti S w W3) i u' W3 := h3.mono fun k hk => by
    rcases hk with hk | ⟨hk, cur, hcc⟩
    · rcases hk with hk | ⟨hk0, cur, hk⟩
      · exact Or.inl hk
      · exact Or.inr ⟨hk0, cur, (h1.block _ (lt_of hk)).trans hk⟩
    · exact Or.inr ⟨by have := lt_of h.row0; omega, cur, hcc⟩
  obtain ⟨g1, g2⟩ := (h.calm h1).swap hgl hgl3 hcur3 hc3 hu3 hu3' h2
  have hnew : (W3.setCell ⟨gl, p, none⟩ u').heap[gl]? = some (.cells (cur.setIfInBounds p u') 198 (0, 0)) := heap_setCell_same _ _ _ _ _ _ hcur3
  refine ⟨hc3, free_of hcur3 p, g1, g2 _ _ (h.calmS h1 _ _ hsl), Or.inr ⟨⟨gl, n, c, _, rfl, hgl, hnew⟩, by simpa [Value.ownBlock] using hgl3⟩, g2 _ _ hu3', ?_⟩
  rcases h4 with h4 | ⟨g, n', cap, cur', e, hg, hgg⟩
  · exact Or.inl h4
  · have hlt0 := lt_of h.row0
    have hgc := lt_of hcur
    refine Or.inr ⟨⟨g, n', cap, cur', e, by omega, ?_⟩, by rw [e]; intro e2; simp [Value.ownBlock] at e2; omega⟩
    rw [heap_setCell_other _ _ _ _ (by simp; omega)]
    exact hgg
end Go.Proofs.YtekoaheiapddiaaGreat
end
