/- What walk tells the sums, the writer, the shower; what they come to. -/
import Derived.Test.YtgaaalacoeainaaLp
import Derived.Test.YtgaaalacoeainaaLn
import Derived.Shelf.RegionOpenPlain
namespace Go.Proofs.Ytgaaalacoeainaa
open Go.RowKit

def addAt (z : List Nat) (p n : Nat) : List Nat := z.set p (z.getD p 0 + n)
theorem addAt_get {z : List Nat} {p : Nat} (h : p < z.length) (n : Nat) : z.set p (z[p]'h + n) = addAt z p n := by simp [addAt, h]
def suStep : List Nat × List Nat → Ev → List Nat × List Nat
  | (z, o), .bgn => (z ++ [0], z.length :: o)
  | (z, o), .txt t => (addAt z (o.headD 0) (encT t).length, o)
  | (z, o), .fin => (addAt z (o.tail.headD 0) ((hd 192 (z.getD (o.headD 0) 0)).length + z.getD (o.headD 0) 0), o.tail)
def suOk : List Nat × List Nat → Ev → Prop
  | (z, o), .bgn => z.length < 1000000 ∧ o.length < 1000000
  | (z, o), .txt t => ∃ p q, o = p :: q ∧ p < z.length ∧ z.getD p 0 + (encT t).length < 4611686018427387904 ∧ q.length < 1000000
  | (z, o), .fin => ∃ p p' q, o = p :: p' :: q ∧ p < z.length ∧ p' < z.length ∧ z.getD p' 0 + ((hd 192 (z.getD p 0)).length + z.getD p 0) < 4611686018427387904 ∧ q.length < 900000
def suK (b B : Nat) : Sink (List Nat × List Nat) 25 27 28 (.pointer (some ⟨b, 0, none⟩)) where
  St s W := SuS b B s W ∧ B ≤ W.heap.size
  ft := SuF b
  ok := suOk
  step := suStep
  lt s W k h hf := h.1.ftlt k hf
  kept s W W' h hk hs := ⟨⟨(h.1.kept hk).1, Nat.le_trans h.2 hs⟩, (h.1.kept hk).2⟩
  eb := enters_of Try.func25 (by kernel_rfl) rfl
  et := enters_of Try.func27 (by kernel_rfl) rfl
  ee := enters_of Try.func28 (by kernel_rfl) rfl
  cb s W h ho := by
    obtain ⟨z, o⟩ := s
    exact (sbegin_c h.1 ho.1 ho.2 h.2).mono fun e W' ⟨h1, h2, h3⟩ => ⟨h1, ⟨h2, Nat.le_trans h.2 h3.size⟩, h3⟩
  ct s t W h ho := by
    obtain ⟨z, o⟩ := s
    obtain ⟨p, q, rfl, hp, hn, hq⟩ := ho
    have e : z.getD p 0 = z[p]'hp := by simp [hp]
    refine (stext_c h.1 hp t (by rw [← e]; exact hn) hq).mono fun e W' ⟨h1, h2, h3⟩ => ⟨h1, ⟨?_, Nat.le_trans h.2 h3.size⟩, h3⟩
    rw [addAt_get] at h2
    exact h2
  ce s W h ho := by
    obtain ⟨z, o⟩ := s
    obtain ⟨p, p', q, rfl, hp, hp', hn, hq⟩ := ho
    have e : z.getD p 0 = z[p]'hp := by simp [hp]
    have e' : z.getD p' 0 = z[p']'hp' := by simp [hp']
    rw [e, e'] at hn
    refine (send_c h.1 hp hp' hn hq).mono fun e2 W' ⟨h1, h2, h3⟩ => ⟨h1, ⟨?_, Nat.le_trans h.2 h3.size⟩, h3⟩
    rw [addAt_get, ← e] at h2
    exact h2
def wrStep : List UInt8 × List Nat → Ev → List UInt8 × List Nat
  | (o, z), .bgn => (o ++ hd 192 (z.headD 0), z.tail)
  | (o, z), .txt t => (o ++ encT t, z)
  | s, .fin => s
def wrOk : List UInt8 × List Nat → Ev → Prop
  | (o, z), .bgn => ∃ n q, z = n :: q ∧ o.length + (hd 192 n).length ≤ 100000000000 ∧ n < 1000000000000
  | (o, _), .txt t => o.length + (encT t).length ≤ 100000000000
  | _, .fin => True
def wrK (b B gz : Nat) : Sink (List UInt8 × List Nat) 30 31 32 (.pointer (some ⟨b, 0, none⟩)) where
  St s W := WrS b B gz s W ∧ B ≤ W.heap.size
  ft := WrF b gz
  ok := wrOk
  step := wrStep
  lt s W k h hf := h.1.ftlt k hf
  kept s W W' h hk hs := ⟨⟨(h.1.kept hk hs).1, Nat.le_trans h.2 hs⟩, (h.1.kept hk hs).2⟩
  eb := enters_of Try.func30 (by kernel_rfl) rfl
  et := enters_of Try.func31 (by kernel_rfl) rfl
  ee := enters_of Try.func32 (by kernel_rfl) rfl
  cb s W h ho := by
    obtain ⟨o, z⟩ := s
    obtain ⟨n, q, rfl, hn, hnn⟩ := ho
    exact (wrbegin_c h.1 hn hnn h.2).mono fun e W' ⟨h1, h2, h3⟩ => ⟨h1, ⟨h2, Nat.le_trans h.2 h3.size⟩, h3⟩
  ct s t W h ho := by
    obtain ⟨o, z⟩ := s
    exact (wrtext_c h.1 t ho h.2).mono fun e W' ⟨h1, h2, h3⟩ => ⟨h1, ⟨h2, Nat.le_trans h.2 h3.size⟩, h3⟩
  ce s W h _ := by
    obtain ⟨o, z⟩ := s
    exact (wrend_c h.1).mono fun e W' ⟨h1, h2, h3⟩ => ⟨h1, ⟨h2, Nat.le_trans h.2 h3.size⟩, h3⟩
def shStep : List UInt8 × List UInt8 → Ev → List UInt8 × List UInt8
  | (o, g), .bgn => (o ++ (g ++ [91]), [])
  | (o, g), .txt t => (o ++ (g ++ [34]) ++ hexL t ++ [34], [32])
  | (o, _), .fin => (o ++ [93], [32])
def shOk : List UInt8 × List UInt8 → Ev → Prop
  | (o, g), .bgn => g.length ≤ 1 ∧ o.length ≤ 100000000
  | (o, g), .txt t => g.length ≤ 1 ∧ o.length + 2 * t.length ≤ 100000000
  | (o, _), .fin => o.length ≤ 100000000
def shK (b B : Nat) : Sink (List UInt8 × List UInt8) 35 36 37 (.pointer (some ⟨b, 0, none⟩)) where
  St s W := ShS b B s W ∧ B ≤ W.heap.size
  ft := BdF b
  ok := shOk
  step := shStep
  lt s W k h hf := (BdS.ftlt h.1 k hf).1
  kept s W W' h hk hs := ⟨⟨(BdS.kept h.1 hk).1, Nat.le_trans h.2 hs⟩, (BdS.kept h.1 hk).2⟩
  eb := enters_of Try.func35 (by kernel_rfl) rfl
  et := enters_of Try.func36 (by kernel_rfl) rfl
  ee := enters_of Try.func37 (by kernel_rfl) rfl
  cb s W h ho := by
    obtain ⟨o, g⟩ := s
    exact (shbegin_c h.1 ho.1 ho.2 h.2).mono fun e W' ⟨h1, h2, h3⟩ => ⟨h1, ⟨h2, Nat.le_trans h.2 h3.size⟩, h3⟩
  ct s t W h ho := by
    obtain ⟨o, g⟩ := s
    exact (shtext_c h.1 t ho.1 ho.2 h.2).mono fun e W' ⟨h1, h2, h3⟩ => ⟨h1, ⟨h2, Nat.le_trans h.2 h3.size⟩, h3⟩
  ce s W h ho := by
    obtain ⟨o, g⟩ := s
    exact (shend_c h.1 ho h.2).mono fun e W' ⟨h1, h2, h3⟩ => ⟨h1, ⟨h2, Nat.le_trans h.2 h3.size⟩, h3⟩
/-- The sizes of all lists, as they begin. -/
def Fo.szs : Fo → List Nat
  | .nil => []
  | .text _ r => r.szs
  | .list i r => i.enc.length :: i.szs ++ r.szs
theorem Fo.szs_len (f : Fo) : f.szs.length ≤ f.evs.length := by
  induction f with
  | nil => exact Nat.le_refl _
  | text s r ih => simp only [Fo.szs, Fo.evs, List.length_cons]; omega
  | list i r hi ih => simp only [Fo.szs, Fo.evs, List.length_cons, List.length_append, List.cons_append]; omega
theorem addAt_len (z : List Nat) (p n : Nat) : (addAt z p n).length = z.length := by simp [addAt]
theorem addAt_zero (z : List Nat) (p : Nat) : addAt z p 0 = z := by
  apply List.ext_getElem?
  intro i
  unfold addAt
  rw [List.getElem?_set]
  split
  · rename_i h
    subst h
    split
    · rename_i h; simp [h]
    · rename_i h; simp [h]
  · rfl
theorem addAt_app {z : List Nat} {p : Nat} (h : p < z.length) (n : Nat) (y : List Nat) : addAt (z ++ y) p n = addAt z p n ++ y := by
  unfold addAt
  rw [List.set_append_left _ _ h]
  simp [h, List.getElem?_append_left h]
theorem addAt_getD {z : List Nat} {p : Nat} (h : p < z.length) (n : Nat) : (addAt z p n).getD p 0 = z.getD p 0 + n := by
  unfold addAt
  simp [h]
theorem addAt_twice {z : List Nat} {p : Nat} (h : p < z.length) (n m : Nat) : addAt (addAt z p n) p m = addAt z p (n + m) := by
  have e := addAt_getD h n
  unfold addAt at e ⊢
  rw [e, List.set_set, Nat.add_assoc]
theorem addAt_last (z : List Nat) (n : Nat) : addAt (z ++ [0]) z.length n = z ++ [n] := by
  unfold addAt
  rw [List.set_append_right _ _ (Nat.le_refl _)]
  simp
theorem getD_app {a b : List Nat} {p : Nat} (h : p < a.length) : (a ++ b).getD p 0 = a.getD p 0 := by simp [List.getElem?_append_left h]
theorem su_run : ∀ (f : Fo) (z o : List Nat) (p : Nat), p < z.length → z.getD p 0 + f.enc.length < 4000000000000000000 → z.length + f.evs.length < 1000000 → o.length + f.evs.length < 900000 →
    goodE suStep suOk (z, p :: o) f.evs ∧ runE suStep (z, p :: o) f.evs = (addAt z p f.enc.length ++ f.szs, p :: o) := by
  intro f
  induction f with
  | nil => intro z o p _ _ _ _; exact ⟨trivial, by simp [Fo.evs, runE, Fo.enc, Fo.szs, addAt_zero]⟩
  | text t r ih =>
    intro z o p hp hb hz ho
    simp only [Fo.enc, Fo.evs, List.length_append, List.length_cons] at hb hz ho
    have h := ih (addAt z p (encT t).length) o p (by rw [addAt_len]; exact hp) (by rw [addAt_getD hp]; omega) (by rw [addAt_len]; omega) (by omega)
    refine ⟨⟨⟨p, o, rfl, hp, by omega, by omega⟩, h.1⟩, ?_⟩
    show runE suStep (addAt z p (encT t).length, p :: o) r.evs = _
    rw [h.2, addAt_twice hp]
    simp [Fo.enc, Fo.szs]
  | list i r hi ih =>
    intro z o p hp hb hz ho
    simp only [Fo.enc, Fo.evs, List.length_append, List.length_cons, List.cons_append] at hb hz ho
    have h1 := hi (z ++ [0]) (p :: o) z.length (by simp) (by simp; omega) (by simp; omega) (by simp; omega)
    rw [addAt_last] at h1
    have hs := Fo.szs_len i
    have h2 := ih (addAt z p ((hd 192 i.enc.length).length + i.enc.length) ++ [i.enc.length] ++ i.szs) o p (by simp [addAt_len]; omega)
      (by
        rw [List.append_assoc, getD_app (by rw [addAt_len]; exact hp), addAt_getD hp]; omega) (by simp [addAt_len]; omega) (by omega)
    have hst : suStep (z ++ [i.enc.length] ++ i.szs, z.length :: p :: o) .fin = (addAt z p ((hd 192 i.enc.length).length + i.enc.length) ++ [i.enc.length] ++ i.szs, p :: o) := by
      show (addAt (z ++ [i.enc.length] ++ i.szs) p ((hd 192 ((z ++ [i.enc.length] ++ i.szs).getD z.length 0)).length + (z ++ [i.enc.length] ++ i.szs).getD z.length 0), p :: o) = _
      have e : (z ++ [i.enc.length] ++ i.szs).getD z.length 0 = i.enc.length := by simp
      rw [e, List.append_assoc, addAt_app hp]
      simp
    have hev : (Fo.list i r).evs = [.bgn] ++ (i.evs ++ ([.fin] ++ r.evs)) := by simp [Fo.evs]
    rw [hev, goodE_app, goodE_app, goodE_app, runE_app, runE_app, runE_app]
    have e1 : runE suStep (z, p :: o) [.bgn] = (z ++ [0], z.length :: p :: o) := rfl
    have e2 : ∀ s, runE suStep s [.fin] = suStep s .fin := fun _ => rfl
    rw [e1, h1.2, e2, hst]
    refine ⟨⟨⟨⟨by omega, by simp; omega⟩, trivial⟩, h1.1, ⟨⟨z.length, p, o, rfl, by simp, by simp; omega, ?_, by omega⟩, trivial⟩, h2.1⟩, ?_⟩
    · have e : (z ++ [i.enc.length] ++ i.szs).getD z.length 0 = i.enc.length := by simp
      have e' : (z ++ [i.enc.length] ++ i.szs).getD p 0 = z.getD p 0 := by rw [List.append_assoc, getD_app hp]
      rw [e, e']
      omega
    · rw [h2.2, List.append_assoc, addAt_app (by rw [addAt_len]; exact hp), addAt_twice hp]
      simp [Fo.enc, Fo.szs, Nat.add_assoc]
theorem wr_run : ∀ (f : Fo) (out : List UInt8) (rest : List Nat), out.length + f.enc.length ≤ 90000000000 →
    goodE wrStep wrOk (out, f.szs ++ rest) f.evs ∧ runE wrStep (out, f.szs ++ rest) f.evs = (out ++ f.enc, rest) := by
  intro f
  induction f with
  | nil => intro out rest _; exact ⟨trivial, by simp [Fo.evs, runE, Fo.enc, Fo.szs]⟩
  | text t r ih =>
    intro out rest hb
    simp only [Fo.enc, List.length_append] at hb
    have h := ih (out ++ encT t) rest (by simp; omega)
    refine ⟨⟨by show _ ≤ _; omega, h.1⟩, ?_⟩
    show runE wrStep (out ++ encT t, r.szs ++ rest) r.evs = _
    rw [h.2]
    simp [Fo.enc]
  | list i r hi ih =>
    intro out rest hb
    simp only [Fo.enc, List.length_append] at hb
    have h1 := hi (out ++ hd 192 i.enc.length) (r.szs ++ rest) (by simp; omega)
    have h2 := ih (out ++ hd 192 i.enc.length ++ i.enc) rest (by simp; omega)
    have hev : (Fo.list i r).evs = [.bgn] ++ (i.evs ++ ([.fin] ++ r.evs)) := by simp [Fo.evs]
    have e0 : (Fo.list i r).szs ++ rest = i.enc.length :: (i.szs ++ (r.szs ++ rest)) := by simp [Fo.szs]
    rw [hev, e0, goodE_app, goodE_app, goodE_app, runE_app, runE_app, runE_app]
    have e1 : runE wrStep (out, i.enc.length :: (i.szs ++ (r.szs ++ rest))) [.bgn] = (out ++ hd 192 i.enc.length, i.szs ++ (r.szs ++ rest)) := rfl
    have e2 : ∀ s, runE wrStep s [.fin] = s := fun _ => rfl
    rw [e1, h1.2, e2]
    refine ⟨⟨⟨⟨_, _, rfl, by omega, by omega⟩, trivial⟩, h1.1, ⟨trivial, trivial⟩, h2.1⟩, ?_⟩
    rw [h2.2]
    simp [Fo.enc]
theorem sh_run : ∀ (f : Fo) (out gap : List UInt8), gap.length ≤ 1 → out.length + (f.sho gap).length ≤ 90000000 →
    goodE shStep shOk (out, gap) f.evs ∧ ∃ g', g'.length ≤ 1 ∧ runE shStep (out, gap) f.evs = (out ++ f.sho gap, g') := by
  intro f
  induction f with
  | nil => intro out gap hg _; exact ⟨trivial, gap, hg, by simp [Fo.evs, runE, Fo.sho]⟩
  | text t r ih =>
    intro out gap hg hb
    simp only [Fo.sho, List.length_append, hexL_len, List.length_singleton] at hb
    have h := ih (out ++ (gap ++ [34]) ++ hexL t ++ [34]) [32] (by simp) (by simp [hexL_len]; omega)
    obtain ⟨h1, g', h2, h3⟩ := h
    refine ⟨⟨⟨hg, by omega⟩, h1⟩, g', h2, ?_⟩
    show runE shStep (out ++ (gap ++ [34]) ++ hexL t ++ [34], [32]) r.evs = _
    rw [h3]
    simp [Fo.sho]
  | list i r hi ih =>
    intro out gap hg hb
    simp only [Fo.sho, List.length_append, List.length_singleton] at hb
    obtain ⟨h1, g1, h2, h3⟩ := hi (out ++ (gap ++ [91])) [] (by simp) (by simp; omega)
    obtain ⟨h4, g2, h5, h6⟩ := ih (out ++ (gap ++ [91]) ++ i.sho [] ++ [93]) [32] (by simp) (by simp; omega)
    have hev : (Fo.list i r).evs = [.bgn] ++ (i.evs ++ ([.fin] ++ r.evs)) := by simp [Fo.evs]
    rw [hev, goodE_app, goodE_app, goodE_app, runE_app, runE_app, runE_app]
    have e1 : runE shStep (out, gap) [.bgn] = (out ++ (gap ++ [91]), []) := rfl
    have e2 : ∀ o g, runE shStep (o, g) [.fin] = (o ++ [93], [32]) := fun _ _ => rfl
    rw [e1, h3, e2]
    refine ⟨⟨⟨⟨hg, by omega⟩, trivial⟩, h1, ⟨by show _ ≤ _; simp; omega, trivial⟩, h4⟩, g2, h5, ?_⟩
    rw [h6]
    simp [Fo.sho]
theorem It.evs_fo (x : It) : x.evs = (x.fo .nil).evs := by cases x <;> simp [It.evs, It.fo, Fo.evs]
theorem It.enc_fo (x : It) : x.enc = (x.fo .nil).enc := by cases x <;> simp [It.enc, It.fo, Fo.enc]
theorem hd_ne (k n : Nat) : hd k n ≠ [] := by unfold hd; split <;> simp
theorem It.enc_ne (x : It) : x.enc ≠ [] := by
  cases x with
  | text s =>
    show encT s ≠ []
    unfold encT hdT
    split
    · rename_i h
      cases s with
      | nil => simp [bareL] at h
      | cons b r => simp
    · simp [hd_ne]
  | list i => simp [It.enc, hd_ne]
/-- What is shown of an item. -/
def It.sho (x : It) : List UInt8 := (x.fo .nil).sho []
theorem It.sho_ne (x : It) : x.sho ≠ [] := by cases x <;> simp [It.sho, It.fo, Fo.sho]
theorem SuS.ftge {b B : Nat} {s : List Nat × List Nat} {W : World} (h : SuS b B s W) : ∀ k, SuF b W k → k = b ∨ B ≤ k := by
  intro k hk
  obtain ⟨v1, v2, h1, h2, h3, _⟩ := h.row
  rcases hk with rfl | ⟨j, v, hj, hc, hv⟩
  · exact Or.inl rfl
  · rw [cell_of h1] at hc
    rcases j with _ | _ | j
    · obtain rfl : v1 = v := by simpa using hc
      exact Or.inr (h2.lt k hv).1
    · obtain rfl : v2 = v := by simpa using hc
      exact Or.inr (h3.lt k hv).1
    · omega
end Go.Proofs.Ytgaaalacoeainaa
