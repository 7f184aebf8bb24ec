/- Merged: Lq, Lr, Ls, Lc, Ld. -/
import Derived.Test.YtekoaheiapddiaaGreatU12
import Derived.Shelf.RegionOpenPlain
import Derived.Test.YtekoaheiapddiaaGreatU09
import Derived.Lib.BitFns
section
namespace Go.Proofs.YtekoaheiapddiaaGreat
open Go.RowKit

def addAt (z : List Nat) (p n : Nat) : List Nat := z.set p (z.getD p 0 + n)
theorem addAt_get {z : List Nat} {p : Nat} (h : p < z.length) (n : Nat) : z.set p (z[p]'h + n) = addAt z p n := by simp [addAt, h]
def suStep : List Nat × List Nat → Ev → List Nat × List Nat
  | (z, o), .bgn => (z ++ [0], z.length :: o)
  | (z, o), .txt t => (addAt z (o.headD 0) (encT t).length, o)
  | (z, o), .fin => (addAt z (o.tail.headD 0) ((hd 192 (z.getD (o.headD 0) 0)).length + z.getD (o.headD 0) 0), o.tail)
def suOk : List Nat × List Nat → Ev → Prop
  | (z, o), .bgn => z.length < 1000000 ∧ o.length < 1000000
  | (z, o), .txt t => ∃ p q, o = p :: q ∧ p < z.length ∧ z.getD p 0 + (encT t).length < 4611686018427387904 ∧ q.length < 1000000
  | (z, o), .fin => ∃ p p' q, o = p :: p' :: q ∧ p < z.length ∧ p' < z.length ∧ z.getD p' 0 + ((hd 192 (z.getD p 0)).length + z.getD p 0) < 4611686018427387904 ∧ q.length < 900000
def suK (b B : Nat) : Sink (List Nat × List Nat) 253 255 256 (.pointer (some ⟨b, 0, none⟩)) where
  St s W := SuS b B s W ∧ B ≤ W.heap.size
  ft := SuF b
  ok := suOk
  step := suStep
  lt s W k h hf := h.1.ftlt k hf
  kept s W W' h hk hs := ⟨⟨(h.1.kept hk).1, Nat.le_trans h.2 hs⟩, (h.1.kept hk).2⟩
  eb := enters_of Tryz.func253 (by kernel_rfl) rfl
  et := enters_of Tryz.func255 (by kernel_rfl) rfl
  ee := enters_of Tryz.func256 (by kernel_rfl) rfl
  cb s W h ho := by
    obtain ⟨z, o⟩ := s
    exact (sbegin_c h.1 ho.1 ho.2 h.2).mono fun e W' ⟨h1, h2, h3⟩ => ⟨h1, ⟨h2, Nat.le_trans h.2 h3.size⟩, h3⟩
  ct s t W h ho := by
    obtain ⟨z, o⟩ := s
    obtain ⟨p, q, rfl, hp, hn, hq⟩ := ho
    have e : z.getD p 0 = z[p]'hp := by simp [hp]
    refine (stext_c h.1 hp t (by rw [← e]; exact hn) hq).mono fun e W' ⟨h1, h2, h3⟩ => ⟨h1, ⟨?_, Nat.le_trans h.2 h3.size⟩, h3⟩
    rw [addAt_get] at h2
    exact h2
  ce s W h ho := by
    obtain ⟨z, o⟩ := s
    obtain ⟨p, p', q, rfl, hp, hp', hn, hq⟩ := ho
    have e : z.getD p 0 = z[p]'hp := by simp [hp]
    have e' : z.getD p' 0 = z[p']'hp' := by simp [hp']
    rw [e, e'] at hn
    refine (send_c h.1 hp hp' hn hq).mono fun e2 W' ⟨h1, h2, h3⟩ => ⟨h1, ⟨?_, Nat.le_trans h.2 h3.size⟩, h3⟩
    rw [addAt_get, ← e] at h2
    exact h2
def wrStep : List UInt8 × List Nat → Ev → List UInt8 × List Nat
  | (o, z), .bgn => (o ++ hd 192 (z.headD 0), z.tail)
  | (o, z), .txt t => (o ++ encT t, z)
  | s, .fin => s
def wrOk : List UInt8 × List Nat → Ev → Prop
  | (o, z), .bgn => ∃ n q, z = n :: q ∧ o.length + (hd 192 n).length ≤ 100000000000 ∧ n < 1000000000000
  | (o, _), .txt t => o.length + (encT t).length ≤ 100000000000
  | _, .fin => True
def wrK (b B gz : Nat) : Sink (List UInt8 × List Nat) 258 259 260 (.pointer (some ⟨b, 0, none⟩)) where
  St s W := WrS b B gz s W ∧ B ≤ W.heap.size
  ft := WrF b gz
  ok := wrOk
  step := wrStep
  lt s W k h hf := h.1.ftlt k hf
  kept s W W' h hk hs := ⟨⟨(h.1.kept hk hs).1, Nat.le_trans h.2 hs⟩, (h.1.kept hk hs).2⟩
  eb := enters_of Tryz.func258 (by kernel_rfl) rfl
  et := enters_of Tryz.func259 (by kernel_rfl) rfl
  ee := enters_of Tryz.func260 (by kernel_rfl) rfl
  cb s W h ho := by
    obtain ⟨o, z⟩ := s
    obtain ⟨n, q, rfl, hn, hnn⟩ := ho
    exact (wrbegin_c h.1 hn hnn h.2).mono fun e W' ⟨h1, h2, h3⟩ => ⟨h1, ⟨h2, Nat.le_trans h.2 h3.size⟩, h3⟩
  ct s t W h ho := by
    obtain ⟨o, z⟩ := s
    exact (wrtext_c h.1 t ho h.2).mono fun e W' ⟨h1, h2, h3⟩ => ⟨h1, ⟨h2, Nat.le_trans h.2 h3.size⟩, h3⟩
  ce s W h _ := by
    obtain ⟨o, z⟩ := s
    exact (wrend_c h.1).mono fun e W' ⟨h1, h2, h3⟩ => ⟨h1, ⟨h2, Nat.le_trans h.2 h3.size⟩, h3⟩
/-- The sizes of all lists, as they begin. -/
def Fo.szs : Fo → List Nat
  | .nil => []
  | .text _ r => r.szs
  | .list i r => i.enc.length :: i.szs ++ r.szs
theorem Fo.szs_len (f : Fo) : f.szs.length ≤ f.evs.length := by
  induction f with
  | nil => exact Nat.le_refl _
  | text s r ih => simp only [Fo.szs, Fo.evs, List.length_cons]; omega
  | list i r hi ih => simp only [Fo.szs, Fo.evs, List.length_cons, List.length_append, List.cons_append]; omega
theorem addAt_len (z : List Nat) (p n : Nat) : (addAt z p n).length = z.length := by simp [addAt]
theorem addAt_zero (z : List Nat) (p : Nat) : addAt z p 0 = z := by
  apply List.ext_getElem?
  intro i
  unfold addAt
  rw [List.getElem?_set]
  split
  · rename_i h
    subst h
    split
    · rename_i h; simp [h]
    · rename_i h; simp [h]
  · rfl
theorem addAt_app {z : List Nat} {p : Nat} (h : p < z.length) (n : Nat) (y : List Nat) : addAt (z ++ y) p n = addAt z p n ++ y := by
  unfold addAt
  rw [List.set_append_left _ _ h]
  simp [h, List.getElem?_append_left h]
theorem addAt_getD {z : List Nat} {p : Nat} (h : p < z.length) (n : Nat) : (addAt z p n).getD p 0 = z.getD p 0 + n := by
  unfold addAt
  simp [h]
theorem addAt_twice {z : List Nat} {p : Nat} (h : p < z.length) (n m : Nat) : addAt (addAt z p n) p m = addAt z p (n + m) := by
  have e := addAt_getD h n
  unfold addAt at e ⊢
  rw [e, List.set_set, Nat.add_assoc]
theorem addAt_last (z : List Nat) (n : Nat) : addAt (z ++ [0]) z.length n = z ++ [n] := by
  unfold addAt
  rw [List.set_append_right _ _ (Nat.le_refl _)]
  simp
theorem getD_app {a b : List Nat} {p : Nat} (h : p < a.length) : (a ++ b).getD p 0 = a.getD p 0 := by simp [List.getElem?_append_left h]
theorem su_run : ∀ (f : Fo) (z o : List Nat) (p : Nat), p < z.length → z.getD p 0 + f.enc.length < 4000000000000000000 → z.length + f.evs.length < 1000000 → o.length + f.evs.length < 900000 →
    goodE suStep suOk (z, p :: o) f.evs ∧ runE suStep (z, p :: o) f.evs = (addAt z p f.enc.length ++ f.szs, p :: o) := by
  intro f
  induction f with
  | nil => intro z o p _ _ _ _; exact ⟨trivial, by simp [Fo.evs, runE, Fo.enc, Fo.szs, addAt_zero]⟩
  | text t r ih =>
    intro z o p hp hb hz ho
    simp only [Fo.enc, Fo.evs, List.length_append, List.length_cons] at hb hz ho
    have h := ih (addAt z p (encT t).length) o p (by rw [addAt_len]; exact hp) (by rw [addAt_getD hp]; omega) (by rw [addAt_len]; omega) (by omega)
    refine ⟨⟨⟨p, o, rfl, hp, by omega, by omega⟩, h.1⟩, ?_⟩
    show runE suStep (addAt z p (encT t).length, p :: o) r.evs = _
    rw [h.2, addAt_twice hp]
    simp [Fo.enc, Fo.szs]
  | list i r hi ih =>
    intro z o p hp hb hz ho
    simp only [Fo.enc, Fo.evs, List.length_append, List.length_cons, List.cons_append] at hb hz ho
    have h1 := hi (z ++ [0]) (p :: o) z.length (by simp) (by simp; omega) (by simp; omega) (by simp; omega)
    rw [addAt_last] at h1
    have hs := Fo.szs_len i
    have h2 := ih (addAt z p ((hd 192 i.enc.length).length + i.enc.length) ++ [i.enc.length] ++ i.szs) o p (by simp [addAt_len]; omega)
      (by
        rw [List.append_assoc, getD_app (by rw [addAt_len]; exact hp), addAt_getD hp]; omega) (by simp [addAt_len]; omega) (by omega)
    have hst : suStep (z ++ [i.enc.length] ++ i.szs, z.length :: p :: o) .fin = (addAt z p ((hd 192 i.enc.length).length + i.enc.length) ++ [i.enc.length] ++ i.szs, p :: o) := by
      show (addAt (z ++ [i.enc.length] ++ i.szs) p ((hd 192 ((z ++ [i.enc.length] ++ i.szs).getD z.length 0)).length + (z ++ [i.enc.length] ++ i.szs).getD z.length 0), p :: o) = _
      have e : (z ++ [i.enc.length] ++ i.szs).getD z.length 0 = i.enc.length := by simp
      rw [e, List.append_assoc, addAt_app hp]
      simp
    have hev : (Fo.list i r).evs = [.bgn] ++ (i.evs ++ ([.fin] ++ r.evs)) := by simp [Fo.evs]
    rw [hev, goodE_app, goodE_app, goodE_app, runE_app, runE_app, runE_app]
    have e1 : runE suStep (z, p :: o) [.bgn] = (z ++ [0], z.length :: p :: o) := rfl
    have e2 : ∀ s, runE suStep s [.fin] = suStep s .fin := fun _ => rfl
    rw [e1, h1.2, e2, hst]
    refine ⟨⟨⟨⟨by omega, by simp; omega⟩, trivial⟩, h1.1, ⟨⟨z.length, p, o, rfl, by simp, by simp; omega, ?_, by omega⟩, trivial⟩, h2.1⟩, ?_⟩
    · have e : (z ++ [i.enc.length] ++ i.szs).getD z.length 0 = i.enc.length := by simp
      have e' : (z ++ [i.enc.length] ++ i.szs).getD p 0 = z.getD p 0 := by rw [List.append_assoc, getD_app hp]
      rw [e, e']
      omega
    · rw [h2.2, List.append_assoc, addAt_app (by rw [addAt_len]; exact hp), addAt_twice hp]
      simp [Fo.enc, Fo.szs, Nat.add_assoc]
theorem wr_run : ∀ (f : Fo) (out : List UInt8) (rest : List Nat), out.length + f.enc.length ≤ 90000000000 →
    goodE wrStep wrOk (out, f.szs ++ rest) f.evs ∧ runE wrStep (out, f.szs ++ rest) f.evs = (out ++ f.enc, rest) := by
  intro f
  induction f with
  | nil => intro out rest _; exact ⟨trivial, by simp [Fo.evs, runE, Fo.enc, Fo.szs]⟩
  | text t r ih =>
    intro out rest hb
    simp only [Fo.enc, List.length_append] at hb
    have h := ih (out ++ encT t) rest (by simp; omega)
    refine ⟨⟨by show _ ≤ _; omega, h.1⟩, ?_⟩
    show runE wrStep (out ++ encT t, r.szs ++ rest) r.evs = _
    rw [h.2]
    simp [Fo.enc]
  | list i r hi ih =>
    intro out rest hb
    simp only [Fo.enc, List.length_append] at hb
    have h1 := hi (out ++ hd 192 i.enc.length) (r.szs ++ rest) (by simp; omega)
    have h2 := ih (out ++ hd 192 i.enc.length ++ i.enc) rest (by simp; omega)
    have hev : (Fo.list i r).evs = [.bgn] ++ (i.evs ++ ([.fin] ++ r.evs)) := by simp [Fo.evs]
    have e0 : (Fo.list i r).szs ++ rest = i.enc.length :: (i.szs ++ (r.szs ++ rest)) := by simp [Fo.szs]
    rw [hev, e0, goodE_app, goodE_app, goodE_app, runE_app, runE_app, runE_app]
    have e1 : runE wrStep (out, i.enc.length :: (i.szs ++ (r.szs ++ rest))) [.bgn] = (out ++ hd 192 i.enc.length, i.szs ++ (r.szs ++ rest)) := rfl
    have e2 : ∀ s, runE wrStep s [.fin] = s := fun _ => rfl
    rw [e1, h1.2, e2]
    refine ⟨⟨⟨⟨_, _, rfl, by omega, by omega⟩, trivial⟩, h1.1, ⟨trivial, trivial⟩, h2.1⟩, ?_⟩
    rw [h2.2]
    simp [Fo.enc]
theorem It.evs_fo (x : It) : x.evs = (x.fo .nil).evs := by cases x <;> simp [It.evs, It.fo, Fo.evs]
theorem It.enc_fo (x : It) : x.enc = (x.fo .nil).enc := by cases x <;> simp [It.enc, It.fo, Fo.enc]
theorem hd_ne (k n : Nat) : hd k n ≠ [] := by unfold hd; split <;> simp
theorem It.enc_ne (x : It) : x.enc ≠ [] := by
  cases x with
  | text s =>
    show encT s ≠ []
    unfold encT hdT
    split
    · rename_i h
      cases s with
      | nil => simp [bareL] at h
      | cons b r => simp
    · simp [hd_ne]
  | list i => simp [It.enc, hd_ne]
theorem SuS.ftge {b B : Nat} {s : List Nat × List Nat} {W : World} (h : SuS b B s W) : ∀ k, SuF b W k → k = b ∨ B ≤ k := by
  intro k hk
  obtain ⟨v1, v2, h1, h2, h3, _⟩ := h.row
  rcases hk with rfl | ⟨j, v, hj, hc, hv⟩
  · exact Or.inl rfl
  · rw [cell_of h1] at hc
    rcases j with _ | _ | j
    · obtain rfl : v1 = v := by simpa using hc
      exact Or.inr (h2.lt k hv).1
    · obtain rfl : v2 = v := by simpa using hc
      exact Or.inr (h3.lt k hv).1
    · omega
end Go.Proofs.YtekoaheiapddiaaGreat
end
section
namespace Go.Proofs.YtekoaheiapddiaaGreat
open Go.RowKit

theorem Chg.toBelow {F F' : Nat → Prop} {B : Nat} {a b : World} (h : Chg F F' a b) (hB : B ≤ a.heap.size) (hf : ∀ k, F k → B ≤ k) : Below B a b :=
  ⟨h.os, h.tape, h.output, h.size, fun k hk => h.block k (by omega) (fun hh => by have := hf k hh; omega)⟩
set_option maxRecDepth 100000 in
set_option maxHeartbeats 4000000 in
theorem encode_c (S : Nat → Prop) (x : It) (v : Value) (w : World) (hS : ∀ k, S k → k < w.heap.size) (hv : ItV S x v w) (hn : x.evs.length < 800000) (hl : x.enc.length ≤ 800000000) :
    Calls Tryz.prog 225 #[v] w fun e w' => e = .returned (.string (str x.enc)) ∧ Below w.heap.size w w' := by
  obtain ⟨xb, xt, xa, xn, xc, rfl⟩ := hv.form
  have hm : ∀ (fn : Fn) (first cap : Array Value) (w : World), (Instr.makeFunc fn first cap).run Tryz.prog w = .ok (.func fn first cap) w := fun _ _ _ _ => rfl
  obtain ⟨W1, hW1⟩ : ∃ W1, W1 = (w.alloc (.cells #[.bool xb, .string xt, .slice xa xn xc] 198)).alloc (.cells #[.slice none 0 0, .slice none 0 0] 333) := ⟨_, rfl⟩
  have hold : ∀ k, k < w.heap.size → W1.heap[k]? = w.heap[k]? := fun k hk => by rw [hW1, heap_alloc_get, if_neg (by simp; omega), heap_alloc_get, if_neg (by omega)]
  have hsz : W1.heap.size = w.heap.size + 2 := by rw [hW1]; simp
  have hrow : W1.heap[w.heap.size + 1]? = some (.cells #[.slice none 0 0, .slice none 0 0] 333 (0, 0)) := by rw [hW1]; exact heap_alloc2_new _ _ _
  have hbox : W1.heap[w.heap.size]? = some (.cells #[.bool xb, .string xt, .slice xa xn xc] 198 (0, 0)) := by rw [hW1]; exact heap_alloc2_old _ _ _
  have hb1 : Below w.heap.size w W1 := ⟨by rw [hW1]; rfl, by rw [hW1]; rfl, by rw [hW1]; rfl, by omega, hold⟩
  have hst : SuS (w.heap.size + 1) (w.heap.size + 2) ([], []) W1 := ⟨by omega, _, _, hrow, World.ownsRow_nil _ _ _ _, World.ownsRow_nil _ _ _ _, Or.inl rfl⟩
  have hf1 : ∀ k, SuF (w.heap.size + 1) W1 k → w.heap.size + 1 ≤ k := fun k hk => by rcases hst.ftge k hk with h | h <;> omega
  have HBg := Lib.hid (show Calls Tryz.prog 253 _ W1 fun e W' => e = .returned (.tuple #[]) ∧ SuS (w.heap.size + 1) (w.heap.size + 2) ([0], [0]) W' ∧ Below (w.heap.size + 1) W1 W' from (sbegin_c hst (by simp) (by simp) (by omega)).mono fun e W' ⟨h1, h2, h3⟩ => ⟨h1, h2, h3.toBelow (by omega) hf1⟩)
  have hrun := su_run (x.fo .nil) [0] [] 0 (by simp) (by rw [← x.enc_fo]; simp; omega) (by rw [← x.evs_fo]; simp; omega) (by rw [← x.evs_fo]; simp; omega)
  rw [← x.evs_fo, ← x.enc_fo] at hrun
  have hz : addAt [0] 0 x.enc.length ++ (x.fo .nil).szs = x.enc.length :: (x.fo .nil).szs := by simp [addAt]
  rw [hz] at hrun
  have HWa := Lib.hid (fun (V : World) (h1 : SuS (w.heap.size + 1) (w.heap.size + 2) ([0], [0]) V) (h2 : Below (w.heap.size + 1) W1 V) => show Calls Tryz.prog 254 #[.agg #[.bool xb, .string xt, .slice xa xn xc], .func (.func 253) #[.pointer (some ⟨w.heap.size + 1, 0, none⟩)] #[], .func (.func 255) #[.pointer (some ⟨w.heap.size + 1, 0, none⟩)] #[], .func (.func 256) #[.pointer (some ⟨w.heap.size + 1, 0, none⟩)] #[]] V fun e W' => e = .returned (.tuple #[]) ∧ SuS (w.heap.size + 1) (w.heap.size + 2) (x.enc.length :: (x.fo .nil).szs, [0]) W' ∧ Below (w.heap.size + 1) V W' from by
    have hsV := h2.size
    have hf : ∀ k, SuF (w.heap.size + 1) V k → w.heap.size + 1 ≤ k := fun k hk => by rcases h1.ftge k hk with h | h <;> omega
    refine (walk_c (K := suK (w.heap.size + 1) (w.heap.size + 2)) (S := S) x _ V ([0], [0]) (fun k hk => ⟨by have := hS k hk; omega, fun hh => by have := hS k hk; have := hf k hh; omega⟩) (hv.kept fun k hk => (h2.block k (by have := hS k hk; omega)).trans (hold k (hS k hk))) ⟨h1, by omega⟩ hrun.1 (by omega)).mono fun e W' ⟨g1, g2, g3⟩ => ⟨g1, ?_, g3.toBelow (by omega) hf⟩
    have e : runE (suK (w.heap.size + 1) (w.heap.size + 2)).step ([0], [0]) x.evs = (x.enc.length :: (x.fo .nil).szs, [0]) := hrun.2
    rw [e] at g2
    exact g2.1)
  have HB1 := Lib.hid (And.intro hb1 (And.intro hbox (And.intro hsz hW1)))
  have HH := Lib.hid (And.intro hv (And.intro hS (And.intro hn hl)))
  clear hold hsz hrow hbox hb1 hst hf1 hrun hz hv hS hn hl
  go_enter Tryz.func225, Tryz.ntmps225
  go_wp2_with fail
  rw [← HB1.out.2.2.2]
  refine HBg.out.mono ?_
  rintro e W2 ⟨rfl, h2, h3⟩
  have hbx2 := (h3.block _ (by omega)).trans HB1.out.2.1
  obtain ⟨⟨c0, c1, c2⟩, _⟩ := cells3 hbx2
  have H2 := Lib.hid (And.intro h2 (And.intro h3 hbx2))
  clear h2 h3 hbx2
  go_wp2_with fail
  refine (HWa.out _ H2.out.1 H2.out.2.1).mono ?_
  rintro e W3 ⟨rfl, h2, h3⟩
  have hbx3 := (h3.block _ (by omega)).trans H2.out.2.2
  clear c0 c1 c2
  obtain ⟨v1, v2, r1, r2, r3, r4⟩ := h2.row
  obtain ⟨k, hk⟩ : ∃ k, (x.fo .nil).szs.length = k := ⟨_, rfl⟩
  have r2' : W3.ownsRow (w.heap.size + 2) 3 1 v1 (k + 1) (ints (x.enc.length :: (x.fo .nil).szs)) := by rw [← hk]; exact r2
  obtain ⟨g, cap, rfl, hg1, hg2, hg3⟩ := own_form r2'
  have d0 : W3.cell? ⟨w.heap.size + 1, 0, none⟩ = some (.slice (some ⟨g, 0, none⟩) (k + 1) cap) := cell_of r1 0
  have d1 : W3.cell? ⟨g, 0, none⟩ = some (.int .i64 (x.enc.length : Nat)) := own_cell r2' rfl 0 _ (by simp [ints])
  have d2 : ∀ j (h : j < (x.fo .nil).szs.length), W3.cell? ⟨g, 1 + j, none⟩ = some (.int .i64 (((x.fo .nil).szs[j]'h : Nat) : Int)) := fun j hj => by
    rw [Nat.add_comm]
    exact own_cell r2' rfl (j + 1) _ (by simp [ints, hj])
  have hw3 : w.heap.size + 2 ≤ W3.heap.size := by have := H2.out.2.1.size; have := HB1.out.2.2.1; have := h3.size; omega
  have hsl := slice_one_int g 0 k cap
  obtain ⟨o2, ho2⟩ : ∃ o2, (if cap = 1 then 0 else 0 + 1) = o2 := ⟨_, rfl⟩
  rw [ho2] at hsl
  have hbw := HB1.out.1.trans ((H2.out.2.1.trans (h3.mono (B' := w.heap.size + 1) (by omega))).mono (by omega))
  have H3 := Lib.hid (And.intro hbw (And.intro hbx3 (And.intro hw3 (And.intro hk (And.intro hg1 (And.intro hg2 (And.intro hg3 (And.intro ho2 d2))))))))
  obtain ⟨W4, hW4⟩ : ∃ W4, W4 = W3.alloc (.cells #[.pointer none, .slice none 0 0, .slice (some ⟨g, o2, none⟩) k (cap - 1)] 339) := ⟨_, rfl⟩
  have hold : ∀ j, j < W3.heap.size → W4.heap[j]? = W3.heap[j]? := fun j hj => by rw [hW4]; exact Below.heap_alloc _ _ _ hj
  have e0 := (World.cell?_of_block (a := ⟨w.heap.size + 1, 0, none⟩) (hold (w.heap.size + 1) (by omega))).trans d0
  have e1 := (World.cell?_of_block (a := ⟨g, 0, none⟩) (hold g hg2)).trans d1
  have hnew : W4.heap[W3.heap.size]? = some (.cells #[.pointer none, .slice none 0 0, .slice (some ⟨g, o2, none⟩) k (cap - 1)] 339 (0, 0)) := by rw [hW4]; exact heap_alloc_new _ _
  have hs4 : W4.heap.size = W3.heap.size + 1 := by rw [hW4]; simp
  have HGr := Lib.hid (bgrow_c (Or.inl rfl) W3.heap.size (W3.heap.size + 1) x.enc.length _ W4 hnew (by omega) (by omega) (by have := HH.out.2.2.2; omega) (List.length_pos_iff.2 x.enc_ne))
  have hb4 : Below W3.heap.size W3 W4 := ⟨by rw [hW4]; rfl, by rw [hW4]; rfl, by rw [hW4]; rfl, by omega, hold⟩
  have H4 := Lib.hid (And.intro hb4 (And.intro hs4 hW4))
  have hi0 : (1 : Int) ≤ (k : Int) + 1 := by omega
  have hi1 : (0 : Int) < (k : Int) + 1 := by omega
  rw [hW4] at e0 e1
  clear h2 h3 hbx3 r1 r2 r2' r3 r4 hk hg1 hg2 hg3 d1 d2 hw3 ho2 hbw hold hnew hs4 hb4 hW4 HBg HWa
  go_wp2_with fail
  rw [← H4.out.2.2]
  refine HGr.out.mono ?_
  rintro e W5 ⟨rfl, h5, h6⟩
  obtain ⟨p1, p2, p3, p4, p5, p6, p7, p8, p9⟩ := H3.out
  obtain ⟨q1, q2, _⟩ := H4.out
  have hk5 : ∀ j, j < W3.heap.size → W5.heap[j]? = W3.heap[j]? := fun j hj => (h6.block j (by omega) (by omega)).trans (q1.block j hj)
  have hs5 := h6.size
  have hb5 : Below w.heap.size w W5 := p1.trans ⟨h6.os.trans q1.os, h6.tape.trans q1.tape, h6.output.trans q1.output, by omega, fun j hj => hk5 j (by omega)⟩
  have hbx5 := (hk5 _ (by omega)).trans p2
  obtain ⟨⟨c0, c1, c2⟩, _⟩ := cells3 hbx5
  have hwr : WrS W3.heap.size (W3.heap.size + 1) g ([], (x.fo .nil).szs ++ []) W5 := by
    rw [List.append_nil]
    refine ⟨⟨by omega, by omega, by omega⟩, o2, cap - 1, by rw [p4]; exact h5, by show (x.fo .nil).szs.length ≤ _; omega, fun j hj => ?_⟩
    have hj' : j < (x.fo .nil).szs.length := hj
    rw [if_neg (by omega)] at p8
    have := (World.cell?_of_block (a := ⟨g, 1 + j, none⟩) (hk5 g p6)).trans (p9 j hj')
    rw [← p8]
    exact this
  have hrun := wr_run (x.fo .nil) [] [] (by rw [← x.enc_fo]; have := HH.out.2.2.2; simp; omega)
  rw [← x.evs_fo, ← x.enc_fo] at hrun
  have HW2 := Lib.hid (show Calls Tryz.prog 254 #[.agg #[.bool xb, .string xt, .slice xa xn xc], .func (.func 258) #[.pointer (some ⟨W3.heap.size, 0, none⟩)] #[], .func (.func 259) #[.pointer (some ⟨W3.heap.size, 0, none⟩)] #[], .func (.func 260) #[.pointer (some ⟨W3.heap.size, 0, none⟩)] #[]] W5 fun e W' => e = .returned (.tuple #[]) ∧ (∃ y, BdS 339 W3.heap.size (W3.heap.size + 1) x.enc y W') ∧ Below w.heap.size w W' from by
    have hfk : ∀ j, WrF W3.heap.size g W5 j → w.heap.size ≤ j := fun j hj => by
      rcases hj with hj | hj
      · have := (BdS.ftlt h5 j hj).2; omega
      · omega
    have hS := HH.out.2.1
    refine (walk_c (K := wrK W3.heap.size (W3.heap.size + 1) g) (S := S) x _ W5 ([], (x.fo .nil).szs ++ []) (fun j hj => ⟨by have := hS j hj; omega, fun hh => by have := hS j hj; have := hfk j hh; omega⟩) (HH.out.1.kept fun j hj => hb5.block j (hS j hj)) ⟨hwr, by omega⟩ hrun.1 (by have := HH.out.2.2.1; omega)).mono fun e W' ⟨g1, g2, g3⟩ => ⟨g1, ?_, hb5.trans (g3.toBelow (by omega) hfk)⟩
    have e : runE (wrK W3.heap.size (W3.heap.size + 1) g).step ([], (x.fo .nil).szs ++ []) x.evs = (x.enc, []) := hrun.2.trans (by simp)
    rw [e] at g2
    obtain ⟨o, c, g4, _⟩ := g2.1.bd
    exact ⟨_, g4⟩)
  have HL := Lib.hid (show x.enc.length ≤ 900000000 by have := HH.out.2.2.2; omega)
  have HX := Lib.hid (show w.heap.size ≤ W3.heap.size by omega)
  clear p1 p2 p3 p4 p5 p6 p7 p8 p9 q1 q2 hk5 hs5 hb5 hbx5 hwr hrun h5 h6 e0 e1 d0 hW1
  go_wp2_with fail
  refine HW2.out.mono ?_
  rintro e W6 ⟨rfl, ⟨y, h7⟩, h8⟩
  have H6 := Lib.hid (And.intro h7 h8)
  clear h7 h8 c0 c1 c2
  go_wp2_with fail
  refine (bstring_c H6.out.1 x.enc_ne HL.out).mono ?_
  rintro e W7 ⟨rfl, h9⟩
  have H7 := Lib.hid (H6.out.2.trans (h9.mono HX.out))
  clear h9
  go_wp2_with fail
  go_ret
  exact ⟨rfl, H7.out⟩
end Go.Proofs.YtekoaheiapddiaaGreat
end
section
namespace Go.Proofs.YtekoaheiapddiaaGreat
open Go.RowKit

theorem or_byte (m b : Nat) (hm : m < 72057594037927936) (hb : b < 256) : Go.bits .or .u64 ((m : Int) * 256) (b : Int) = ((m * 256 + b : Nat) : Int) := by
  have h := bits_or_u64_nat (m * 256) b (by omega) (by omega)
  rw [show ((m * 256 : Nat) : Int) = (m : Int) * 256 by simp] at h
  rw [h]
  have h2 := Nat.shiftLeft_add_eq_or_of_lt (i := 8) (b := b) (by omega) m
  rw [Nat.shiftLeft_eq] at h2
  rw [show m * 256 + b = m * 2 ^ 8 + b from rfl, h2]
theorem small_list_c (x v : Value) (w : World) : Calls Tryz.prog 231 #[.agg #[.bool true, x, v]] w fun e w' => e = .returned (.tuple #[.int .u64 0, .bool false]) ∧ Below w.heap.size w w' := by
  go_enter Tryz.func231, Tryz.ntmps231
  go_wp2_with fail
  exact bodyPost_ret (v := .tuple #[.int .u64 0, .bool false]) (by simp [results, Tryz.results231, go_sem]) rfl ⟨rfl, (Below.refl _ _).alloc (Nat.le_refl _) _⟩
theorem small_long_c (s : ByteArray) (v : Value) (h : 8 < s.size) (w : World) : Calls Tryz.prog 231 #[.agg #[.bool false, .string s, v]] w fun e w' => e = .returned (.tuple #[.int .u64 0, .bool false]) ∧ Below w.heap.size w w' := by
  have hi : (8 : Int) < (s.size : Int) := by omega
  go_enter Tryz.func231, Tryz.ntmps231
  go_wp2_with fail
  exact bodyPost_ret (v := .tuple #[.int .u64 0, .bool false]) (by simp [results, Tryz.results231, go_sem]) rfl ⟨rfl, (Below.refl _ _).alloc (Nat.le_refl _) _⟩
theorem small_zero_c (s : ByteArray) (v : Value) (h : s.size ≤ 8) (h0 : 0 < s.size) (hz : (s[0]'h0).toNat = 0) (w : World) : Calls Tryz.prog 231 #[.agg #[.bool false, .string s, v]] w fun e w' => e = .returned (.tuple #[.int .u64 0, .bool false]) ∧ Below w.heap.size w w' := by
  have hi : ¬ (8 : Int) < (s.size : Int) := by omega
  have hj : (0 : Int) < (s.size : Int) := by omega
  have hx : ∀ W, (Instr.index 9 (.string s) (.int .i64 0)).run Tryz.prog W = .ok (.int .u8 0) W := fun W => by
    rw [run_index_string W _ _ _ _ Tryz.underlying9, dif_pos ⟨by omega, by omega⟩]
    simp [hz]
  clear hz
  go_enter Tryz.func231, Tryz.ntmps231
  go_wp2_with fail
  exact bodyPost_ret (v := .tuple #[.int .u64 0, .bool false]) (by simp [results, Tryz.results231, go_sem]) rfl ⟨rfl, (Below.refl _ _).alloc (Nat.le_refl _) _⟩
set_option maxRecDepth 100000 in
set_option maxHeartbeats 2000000 in
theorem small_ok_c (s : List UInt8) (v : Value) (h : s.length ≤ 8) (hh : s.head? ≠ some 0) (w : World) : Calls Tryz.prog 231 #[.agg #[.bool false, .string (str s), v]] w fun e w' => e = .returned (.tuple #[.int .u64 (val s), .bool true]) ∧ Below w.heap.size w w' := by
  have hsz := str_size s
  have hi : ¬ (8 : Int) < ((str s).size : Int) := by omega
  have hx0 : 0 < (str s).size → ∃ z : Nat, z ≠ 0 ∧ z < 256 ∧ ∀ W, (Instr.index 9 (.string (str s)) (.int .i64 0)).run Tryz.prog W = .ok (.int .u8 (z : Nat)) W := by
    intro h0
    rcases s with _ | ⟨b, r⟩
    · simp [str_size] at h0
    · refine ⟨b.toNat, fun e => hh (by simp; exact UInt8.toNat_inj.1 (by simpa using e)), b.toNat_lt, fun W => ?_⟩
      rw [run_index_string W _ _ _ _ Tryz.underlying9, dif_pos ⟨by omega, by omega⟩]
      simp [str_get]
  have hx : ∀ k (hk : k < s.length) (W : World), (Instr.index 9 (.string (str s)) (.int .i64 (k : Nat))).run Tryz.prog W = .ok (.int .u8 ((s[k]'hk).toNat : Nat)) W := fun k hk W => by
    rw [run_index_string W _ _ _ _ Tryz.underlying9, dif_pos ⟨by omega, by omega⟩]
    simp [str_get]
  have HX := Lib.hid hx; clear hx
  have HV : ∀ k, k < s.length → ∃ b : Nat, b < 256 ∧ val (s.take k) < 256 ^ 7 ∧ val (s.take (k + 1)) = val (s.take k) * 256 + b ∧ ∀ W : World, (Instr.index 9 (.string (str s)) (.int .i64 (k : Nat))).run Tryz.prog W = .ok (.int .u8 (b : Nat)) W := fun k hk => by
    refine ⟨(s[k]'hk).toNat, (s[k]'hk).toNat_lt, ?_, ?_, HX.out k hk⟩
    · refine Nat.lt_of_lt_of_le (val_lt _) (Nat.pow_le_pow_right (by decide) ?_)
      rw [List.length_take]; omega
    · rw [List.take_succ_eq_append_getElem hk, val_snoc]
  replace HV := Lib.hid HV
  have HT := Lib.hid (show val (s.take s.length) = val s by rw [List.take_length])
  have H0 := Lib.hid (show val (s.take 0) = 0 from rfl)
  clear HX hh
  rw [← hsz] at HV HT h
  generalize str s = x at *
  have hsl := Lib.hid hsz
  clear hsz
  have loop : ∀ h0 : (0 < x.size) ∨ ¬ 0 < x.size, Calls Tryz.prog 231 #[.agg #[.bool false, .string x, v]] w fun e w' => e = .returned (.tuple #[.int .u64 (val s), .bool true]) ∧ Below w.heap.size w w' := by
    intro h0
    rcases h0 with h0 | h0
    · obtain ⟨z, hz0, hz1, hz⟩ := hx0 h0
      have hj : (0 : Int) < (x.size : Int) := by omega
      have hzz : ((z : Int) == 0) = false := by simpa using hz0
      go_enter Tryz.func231, Tryz.ntmps231
      go_wp2_with fail
      clear hx0
      obtain ⟨w1, hw1⟩ : ∃ w1, w1 = w.alloc (.cells #[.bool false, .string x, v] 198) := ⟨_, rfl⟩
      have hc1 : w1.cell? ⟨w.heap.size, 1, none⟩ = some (.string x) := by rw [hw1]; exact cell_of (heap_alloc_new w (.cells #[.bool false, .string x, v] 198)) 1
      have HB := Lib.hid (show Below w.heap.size w w1 from by rw [hw1]; exact (Below.refl w.heap.size w).alloc (Nat.le_refl _) _)
      rw [← hw1]
      clear hw1
      go_loopw [4, 29] (fun a i wr => ∃ k : Nat, a = .int .u64 (val (s.take k) : Nat) ∧ i = .int .i64 k ∧ k ≤ x.size ∧ wr = w1) (fun _ i _ => x.size - (intOf i).toNat)
      case atStart => exact ⟨0, by rw [H0.out]; rfl, rfl, by omega, rfl⟩
      case round =>
        obtain ⟨k, rfl, rfl, hk, rfl⟩ := hrel
        by_cases hlt : k < x.size
        · have hli : (k : Int) < (x.size : Int) := by omega
          obtain ⟨b, hb, hv, hn, hix⟩ := HV.out k (by have := hsl.out; omega)
          have HN := Lib.hid hn; clear hn
          generalize hm : val (s.take k) = m at *
          go_wp2_with fail
          refine ⟨⟨k + 1, ?_, by simp, by omega, trivial⟩, by simp [intOf]; omega⟩
          rw [HN.out, or_byte m b (by simpa using hv) hb]
        · have hli : ¬ (k : Int) < (x.size : Int) := by omega
          obtain rfl : k = x.size := by omega
          rw [HT.out]
          go_wp2_with fail
          exact bodyPost_ret (v := .tuple #[.int .u64 (val s : Nat), .bool true]) (by simp [results, Tryz.results231, go_sem]) rfl ⟨rfl, HB.out⟩
    · have hj : ¬ (0 : Int) < (x.size : Int) := by omega
      go_enter Tryz.func231, Tryz.ntmps231
      go_wp2_with fail
      clear hx0
      obtain ⟨w1, hw1⟩ : ∃ w1, w1 = w.alloc (.cells #[.bool false, .string x, v] 198) := ⟨_, rfl⟩
      have hc1 : w1.cell? ⟨w.heap.size, 1, none⟩ = some (.string x) := by rw [hw1]; exact cell_of (heap_alloc_new w (.cells #[.bool false, .string x, v] 198)) 1
      have HB := Lib.hid (show Below w.heap.size w w1 from by rw [hw1]; exact (Below.refl w.heap.size w).alloc (Nat.le_refl _) _)
      rw [← hw1]
      clear hw1
      go_loopw [4, 29] (fun a i wr => ∃ k : Nat, a = .int .u64 (val (s.take k) : Nat) ∧ i = .int .i64 k ∧ k ≤ x.size ∧ wr = w1) (fun _ i _ => x.size - (intOf i).toNat)
      case atStart => exact ⟨0, by rw [H0.out]; rfl, rfl, by omega, rfl⟩
      case round =>
        obtain ⟨k, rfl, rfl, hk, rfl⟩ := hrel
        by_cases hlt : k < x.size
        · omega
        · have hli : ¬ (k : Int) < (x.size : Int) := by omega
          obtain rfl : k = x.size := by omega
          rw [HT.out]
          go_wp2_with fail
          exact bodyPost_ret (v := .tuple #[.int .u64 (val s : Nat), .bool true]) (by simp [results, Tryz.results231, go_sem]) rfl ⟨rfl, HB.out⟩
  exact loop (Classical.em _)
end Go.Proofs.YtekoaheiapddiaaGreat
end
section
namespace Go.Proofs.YtekoaheiapddiaaGreat
open Go.RowKit

/-- What must panics with. -/
def boom : List PanicEntry := [{ v := .iface 27 (.int .i64 2), recovered := false }]
theorem must_ok (w : World) : Calls Tryz.prog 146 #[.bool true] w fun e w' => e = .returned (.tuple #[]) ∧ w' = w := by
  go_enter Tryz.func146, Tryz.ntmps146
  go_wp2_with fail
  go_end0
  exact ⟨rfl, rfl⟩
theorem must_no (w : World) : Calls Tryz.prog 146 #[.bool false] w fun e w' => e = .panicked boom ∧ w' = w := by
  go_enter Tryz.func146, Tryz.ntmps146
  go_wp2_with fail
  exact ⟨rfl, rfl, rfl⟩
/-- The reader in block g has the bytes s left. -/
def Rd (g : Nat) (s : List UInt8) (W : World) : Prop := W.heap[g]? = some (.cells #[.string (str s)] 245 (0, 0))
theorem Rd.set {g : Nat} {s t : List UInt8} {W : World} (h : Rd g s W) : Rd g t (W.setCell ⟨g, 0, none⟩ (.string (str t))) := by
  have e := heap_setCell_same _ _ 0 _ _ (.string (str t)) h
  unfold Rd
  simpa using e
theorem Rd.only {g B : Nat} {u : Value} (W : World) : Only (fun k => k = g) B W (W.setCell ⟨g, 0, none⟩ u) := (Only.refl (fun k => k = g) _ _).setCell (p := ⟨g, 0, none⟩) (Or.inr rfl) _
theorem str_take (s : List UInt8) (n : Nat) : (str s).extract 0 n = str (s.take n) := by
  apply ByteArray.ext
  simp [str, ByteArray.data_extract]
theorem str_drop (s : List UInt8) (n : Nat) : (str s).extract n (str s).size = str (s.drop n) := by
  apply ByteArray.ext
  simp [str, ByteArray.data_extract, ByteArray.size]
  rw [List.take_of_length_le (by simp)]
theorem take_ok (g : Nat) (s : List UInt8) (n : Nat) (hn : n ≤ s.length) (hs : s.length < 9223372036854775808) (w : World) (h : Rd g s w) :
    Calls Tryz.prog 180 #[.pointer (some ⟨g, 0, none⟩), .int .u64 n] w fun e w' => e = .returned (.string (str (s.take n))) ∧ w' = w.setCell ⟨g, 0, none⟩ (.string (str (s.drop n))) := by
  have c0 := cell_of h 0
  have z0 := free_of h 0
  have h1 := str_take s n
  have h2 := str_drop s n
  have hsz := str_size s
  rw [← hsz] at hs hn
  generalize str s = x at *
  generalize str (s.take n) = y at *
  generalize str (s.drop n) = z at *
  have hi : (n : Int) ≤ (x.size : Int) := by omega
  clear hsz h
  go_enter Tryz.func180, Tryz.ntmps180
  go_wp2_with (go_at_call 146; refine (must_ok _).mono ?_; rintro e w1 ⟨rfl, rfl⟩)
  go_ret
  exact ⟨rfl, rfl⟩
theorem take_no (g : Nat) (s : List UInt8) (n : Nat) (hn : ¬ n ≤ s.length) (hs : s.length < 9223372036854775808) (w : World) (h : Rd g s w) :
    Calls Tryz.prog 180 #[.pointer (some ⟨g, 0, none⟩), .int .u64 n] w fun e w' => e = .panicked boom ∧ w' = w := by
  have c0 := cell_of h 0
  have hsz := str_size s
  rw [← hsz] at hs hn
  generalize str s = x at *
  have hi : ¬ (n : Int) ≤ (x.size : Int) := by omega
  clear hsz h
  go_enter Tryz.func180, Tryz.ntmps180
  go_wp2_with (go_at_call 146; refine (must_no _).mono ?_; rintro e w1 ⟨rfl, rfl⟩)
  exact ⟨rfl, rfl, rfl⟩
/-- What a reader's function hands back: the bytes, and what is left; or it panics. -/
def RdR (g : Nat) (w : World) (r : Option (List UInt8 × List UInt8)) (e : Ending) (w' : World) : Prop :=
  Only (fun k => k = g) w.heap.size w w' ∧ match r with
    | some (a, b) => e = .returned (.string (str a)) ∧ Rd g b w'
    | none => e = .panicked boom
theorem take_c (g : Nat) (s : List UInt8) (n : Nat) (hs : s.length < 9223372036854775808) (w : World) (h : Rd g s w) :
    Calls Tryz.prog 180 #[.pointer (some ⟨g, 0, none⟩), .int .u64 n] w (RdR g w (tk n s)) := by
  by_cases hn : n ≤ s.length
  · refine (take_ok g s n hn hs w h).mono ?_
    rintro e w' ⟨rfl, rfl⟩
    unfold tk
    rw [if_pos hn]
    exact ⟨Rd.only w, rfl, h.set⟩
  · refine (take_no g s n hn hs w h).mono ?_
    rintro e w' ⟨rfl, rfl⟩
    unfold tk
    rw [if_neg hn]
    exact ⟨Only.refl _ _ _, rfl⟩
theorem Rd.later {g : Nat} {s : List UInt8} {W W' : World} (h : Rd g s W) (hb : Below W.heap.size W W') : Rd g s W' := (hb.block _ (lt_of h)).trans h
theorem tk_length {n : Nat} {s a b : List UInt8} (h : tk n s = some (a, b)) : a.length = n ∧ b.length = s.length - n ∧ s = a ++ b ∧ n ≤ s.length := by
  unfold tk at h
  split at h
  · rename_i hn
    cases h
    exact ⟨by simp; omega, by simp, (List.take_append_drop _ _).symm, hn⟩
  · cases h
theorem Only.thenB {may : Nat → Prop} {w w1 w2 : World} (h : Only may w.heap.size w w1) (hb : Below w1.heap.size w1 w2) : Only may w.heap.size w w2 := h.trans ((Only.of_below hb).mono h.size (fun _ _ h => h))
theorem Only.thenO {may : Nat → Prop} {w w1 w2 : World} (h : Only may w.heap.size w w1) (hb : Only may w1.heap.size w1 w2) : Only may w.heap.size w w2 := h.trans (hb.mono h.size (fun _ _ h => h))
theorem body_short (g : Nat) (s : List UInt8) (a : Nat) (ha : a ≤ 55) (hs : s.length < 9223372036854775808) (w : World) (h : Rd g s w) :
    Calls Tryz.prog 183 #[.pointer (some ⟨g, 0, none⟩), .int .u8 a] w (RdR g w (tk a s)) := by
  have hi : (a : Int) ≤ 55 := by omega
  have HT := Lib.hid (fun W h => take_c g s a hs W h)
  have H := Lib.hid h
  clear h
  cases hk : tk a s with
  | none =>
    rw [hk] at HT
    clear hk
    go_enter Tryz.func183, Tryz.ntmps183
    go_wp2_with (go_at_call 180; refine (HT.out _ H.out).mono ?_; rintro e w1 ⟨ho, rfl⟩; have HO := Lib.hid ho; clear ho)
    exact ⟨rfl, HO.out, rfl⟩
  | some x =>
    obtain ⟨y, z⟩ := x
    rw [hk] at HT
    clear hk
    go_enter Tryz.func183, Tryz.ntmps183
    go_wp2_with (go_at_call 180; refine (HT.out _ H.out).mono ?_; rintro e w1 ⟨ho, rfl, hr⟩; have HO := Lib.hid (And.intro ho hr); clear ho hr)
    go_ret
    exact ⟨HO.out.1, rfl, HO.out.2⟩
set_option maxRecDepth 100000 in
set_option maxHeartbeats 1000000 in
theorem body_long (g : Nat) (s : List UInt8) (a : Nat) (ha : 55 < a) (ha2 : a < 64) (hs : s.length < 9223372036854775808) (w : World) (h : Rd g s w) :
    Calls Tryz.prog 183 #[.pointer (some ⟨g, 0, none⟩), .int .u8 a] w (RdR g w (bodyP a s)) := by
  have hi : ¬ (a : Int) ≤ 55 := by omega
  have hi2 : ((a - 55 : Nat) : Int) = (a : Int) - 55 := by omega
  have HT := Lib.hid (fun W h => take_c g s (a - 55) hs W h)
  have H := Lib.hid h
  clear h
  rw [hi2] at HT
  have hB : bodyP a s = match tk (a - 55) s with
    | none => none
    | some (n, r) => if smallL n = true ∧ 55 < val n then tk (val n) r else none := by unfold bodyP; rw [if_neg (by omega)]; rfl
  have HK := Lib.hid (fun x y h => tk_length (n := a - 55) (s := s) (a := x) (b := y) h)
  rw [hB]
  clear hB
  cases hk : tk (a - 55) s with
  | none =>
    rw [hk] at HT
    clear hk hi2
    go_enter Tryz.func183, Tryz.ntmps183
    go_wp2_with (go_at_call 180; refine (HT.out _ H.out).mono ?_; rintro e w1 ⟨ho, rfl⟩; have HO := Lib.hid ho; clear ho)
    exact ⟨rfl, HO.out, rfl⟩
  | some x =>
    obtain ⟨y, z⟩ := x
    have hl := HK.out _ _ hk
    rw [hk] at HT
    clear hk hi2
    have hzl := Lib.hid (show z.length < 9223372036854775808 by omega)
    have hy8 := Lib.hid (show y.length ≤ 8 by omega)
    clear hl
    show Calls _ _ _ _ (RdR g w (if smallL y = true ∧ 55 < val y then tk (val y) z else none))
    by_cases hsm : smallL y = true
    · have hh : y.head? ≠ some 0 := by
        unfold smallL at hsm
        simpa [hy8.out] using hsm
      have hv : val y < 18446744073709551616 := Nat.lt_of_lt_of_le (val_lt y) (Nat.le_trans (Nat.pow_le_pow_right (by decide) hy8.out) (by decide))
      have HS := Lib.hid (fun W => small_ok_c y (.slice none 0 0) hy8.out hh W)
      have HT2 := Lib.hid (fun W h => take_c g z (val y) hzl.out W h)
      clear hh
      generalize val y = v at *
      by_cases h55 : 55 < v
      · have hvi : (55 : Int) < (v : Int) := by omega
        rw [if_pos ⟨hsm, h55⟩]
        clear hsm
        cases hk2 : tk v z with
        | none =>
          rw [hk2] at HT2
          clear hk2
          go_enter Tryz.func183, Tryz.ntmps183
          go_wp2_with (first
            | (go_at_call 180; refine (HT.out _ H.out).mono ?_; rintro e w1 ⟨ho, rfl, hr⟩; have HO := Lib.hid (And.intro ho hr); clear ho hr HT; generalize str y = x at *)
            | (go_at_call 182; refine (text_c _ _).mono ?_; rintro e w2 ⟨rfl, hb⟩; have HO2 := Lib.hid hb; clear hb; unfold textV)
            | (go_at_call 231; refine (HS.out _).mono ?_; rintro e w3 ⟨rfl, hb⟩; have HO3 := Lib.hid hb; clear hb)
            | (go_at_call 146; refine (must_ok _).mono ?_; rintro e w4 ⟨rfl, rfl⟩))
          refine (HT2.out _ ((HO.out.2.later HO2.out).later HO3.out)).mono ?_
          rintro e w5 ⟨ho5, rfl⟩
          exact ⟨rfl, ((HO.out.1.thenB HO2.out).thenB HO3.out).thenO ho5, rfl⟩
        | some q =>
          obtain ⟨p, q⟩ := q
          rw [hk2] at HT2
          clear hk2
          go_enter Tryz.func183, Tryz.ntmps183
          go_wp2_with (first
            | (go_at_call 180; refine (HT.out _ H.out).mono ?_; rintro e w1 ⟨ho, rfl, hr⟩; have HO := Lib.hid (And.intro ho hr); clear ho hr HT; generalize str y = x at *)
            | (go_at_call 182; refine (text_c _ _).mono ?_; rintro e w2 ⟨rfl, hb⟩; have HO2 := Lib.hid hb; clear hb; unfold textV)
            | (go_at_call 231; refine (HS.out _).mono ?_; rintro e w3 ⟨rfl, hb⟩; have HO3 := Lib.hid hb; clear hb)
            | (go_at_call 146; refine (must_ok _).mono ?_; rintro e w4 ⟨rfl, rfl⟩))
          refine (HT2.out _ ((HO.out.2.later HO2.out).later HO3.out)).mono ?_
          rintro e w5 ⟨ho5, rfl, hr5⟩
          have HO5 := Lib.hid (And.intro ho5 hr5)
          clear ho5 hr5
          go_wp2_with fail
          go_ret
          exact ⟨((HO.out.1.thenB HO2.out).thenB HO3.out).thenO HO5.out.1, rfl, HO5.out.2⟩
      · have hvi : decide ((55 : Int) < (v : Int)) = false := decide_eq_false (by omega)
        rw [if_neg fun h => h55 h.2]
        clear hsm HT2
        go_enter Tryz.func183, Tryz.ntmps183
        go_wp2_with (first
          | (go_at_call 180; refine (HT.out _ H.out).mono ?_; rintro e w1 ⟨ho, rfl, hr⟩; have HO := Lib.hid (And.intro ho hr); clear ho hr HT; generalize str y = x at *)
          | (go_at_call 182; refine (text_c _ _).mono ?_; rintro e w2 ⟨rfl, hb⟩; have HO2 := Lib.hid hb; clear hb; unfold textV)
          | (go_at_call 231; refine (HS.out _).mono ?_; rintro e w3 ⟨rfl, hb⟩; have HO3 := Lib.hid hb; clear hb)
          | (go_at_call 146; refine (must_no _).mono ?_; rintro e w4 ⟨rfl, rfl⟩))
        exact ⟨rfl, (HO.out.1.thenB HO2.out).thenB HO3.out, rfl⟩
    · have h0 : ∃ r, y = 0 :: r := by
        rcases y with _ | ⟨b, r⟩
        · simp [smallL] at hsm
        · refine ⟨r, ?_⟩
          have h1 : ¬ (smallL (b :: r) = true) := hsm
          have h8 := hy8.out
          simp only [List.length_cons] at h8
          simp [smallL, h8] at h1
          exact h1 ▸ rfl
      rw [if_neg fun h => hsm h.1]
      have HS : Hid (∀ W, Calls Tryz.prog 231 #[.agg #[.bool false, .string (str y), .slice none 0 0]] W fun e w' => e = .returned (.tuple #[.int .u64 0, .bool false]) ∧ Below W.heap.size W w') := by
        obtain ⟨r, rfl⟩ := h0
        exact Lib.hid fun W => small_zero_c (str (0 :: r)) _ (by rw [str_size]; exact hy8.out) (by simp [str_size]) (by rw [str_get]; rfl) W
      clear hsm h0
      go_enter Tryz.func183, Tryz.ntmps183
      go_wp2_with (first
        | (go_at_call 180; refine (HT.out _ H.out).mono ?_; rintro e w1 ⟨ho, rfl, hr⟩; have HO := Lib.hid (And.intro ho hr); clear ho hr HT; generalize str y = x at *)
        | (go_at_call 182; refine (text_c _ _).mono ?_; rintro e w2 ⟨rfl, hb⟩; have HO2 := Lib.hid hb; clear hb; unfold textV)
        | (go_at_call 231; refine (HS.out _).mono ?_; rintro e w3 ⟨rfl, hb⟩; have HO3 := Lib.hid hb; clear hb)
        | (go_at_call 146; refine (must_no _).mono ?_; rintro e w4 ⟨rfl, rfl⟩))
      exact ⟨rfl, (HO.out.1.thenB HO2.out).thenB HO3.out, rfl⟩
theorem body_c (g : Nat) (s : List UInt8) (a : Nat) (ha : a < 64) (hs : s.length < 9223372036854775808) (w : World) (h : Rd g s w) :
    Calls Tryz.prog 183 #[.pointer (some ⟨g, 0, none⟩), .int .u8 a] w (RdR g w (bodyP a s)) := by
  by_cases h55 : a ≤ 55
  · have := body_short g s a h55 hs w h
    rwa [show bodyP a s = tk a s from if_pos h55]
  · exact body_long g s a (by omega) ha hs w h
end Go.Proofs.YtekoaheiapddiaaGreat
end
