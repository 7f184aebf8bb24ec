/- What was encoded is decoded, if its lists stand no deeper. -/
import Derived.Test.YtgaaalacoeainaaLy
import Derived.Test.YtgaaalacoeainaaLu
namespace Go.Proofs.Ytgaaalacoeainaa
open Go.RowKit

theorem tk_app (x r : List UInt8) : tk x.length (x ++ r) = some (x, r) := by
  unfold tk
  rw [if_pos (by simp)]
  simp
theorem bodyP_hd (k : Nat) (hk : k + 63 < 256) (x r : List UInt8) (hx : x.length < M64) : ∃ b q, hd k x.length = b :: q ∧ k ≤ b.toNat ∧ b.toNat < k + 64 ∧ bodyP (b.toNat - k) (q ++ (x ++ r)) = some (x, r) := by
  by_cases h : x.length ≤ 55
  · refine ⟨UInt8.ofNat (k + x.length), [], by rw [hd, if_pos h], ?_⟩
    rw [b8 (by omega)]
    refine ⟨by omega, by omega, ?_⟩
    rw [show k + x.length - k = x.length by omega, bodyP, if_pos h]
    exact tk_app x r
  · have h8 := num_length_le (n := x.length) 8 (by unfold M64 at hx; exact hx)
    have h0 := num_length_pos (n := x.length) (by omega)
    refine ⟨UInt8.ofNat (k + 55 + (num x.length).length), num x.length, by rw [hd, if_neg h], ?_⟩
    rw [b8 (by omega)]
    refine ⟨by omega, by omega, ?_⟩
    rw [show k + 55 + (num x.length).length - k = 55 + (num x.length).length by omega, bodyP, if_neg (by omega), show 55 + (num x.length).length - 55 = (num x.length).length by omega, tk_app]
    have hs : smallL (num x.length) = true := by
      unfold smallL
      rw [Bool.and_eq_true]
      refine ⟨by simpa using h8, ?_⟩
      rw [bne_iff_ne]
      intro e
      cases hn : num x.length with
      | nil => rw [hn] at e; cases e
      | cons b q => rw [hn] at e; exact num_head b q hn (by simpa using e)
    simp only [hs, val_num, true_and]
    rw [if_pos (by omega)]
    exact tk_app x r
def Fo.dep : Fo → Nat
  | .nil => 0
  | .text _ r => max 1 r.dep
  | .list i r => max (i.dep + 1) r.dep
def It.dep : It → Nat
  | .text _ => 1
  | .list i => i.dep + 1
theorem It.dep_pos (x : It) : 1 ≤ x.dep := by cases x <;> simp [It.dep]
theorem itemS_text (p : List UInt8 → Option (Fo × List UInt8)) (s r : List UInt8) (hs : (encT s).length < M64) : itemS p (encT s ++ r) = some (.text s .nil, r) := by
  by_cases hb : bareL s = true
  · obtain ⟨b, rfl, hb1⟩ : ∃ b, s = [b] ∧ b.toNat < 128 := by
      rcases s with _ | ⟨b, _ | ⟨c, r⟩⟩
      · cases hb
      · exact ⟨b, rfl, by simpa [bareL] using hb⟩
      · cases hb
    simp [encT, hdT, hb, itemS, hb1]
  · have hl : s.length < M64 := by unfold encT at hs; rw [List.length_append] at hs; omega
    obtain ⟨b, q, h1, h2, h3, h4⟩ := bodyP_hd 128 (by omega) s r hl
    have e : encT s ++ r = b :: (q ++ (s ++ r)) := by simp [encT, hdT, hb, h1]
    rw [e]
    simp only [itemS]
    rw [if_neg (by omega), if_pos (by omega), h4]
    simp [textS, hb]
theorem itemS_list (p : List UInt8 → Option (Fo × List UInt8)) (i : Fo) (r : List UInt8) (hs : i.enc.length < M64) : itemS p ((It.list i).enc ++ r) = match itemsP p i.enc.length i.enc with | none => none | some f => some (.list f .nil, r) := by
  obtain ⟨b, q, h1, h2, h3, h4⟩ := bodyP_hd 192 (by omega) i.enc r hs
  have e : (It.list i).enc ++ r = b :: (q ++ (i.enc ++ r)) := by simp [It.enc, h1]
  rw [e]
  simp only [itemS]
  rw [if_neg (by omega), if_neg (by omega), h4]
  rfl
theorem enc_cons (x : It) : ∃ b q, x.enc = b :: q := by
  cases x with
  | text s => have := encT_pos s; obtain ⟨b, q, h⟩ := List.exists_cons_of_length_pos this; exact ⟨b, q, h⟩
  | list i => have := hd_pos 192 i.enc.length; obtain ⟨b, q, h⟩ := List.exists_cons_of_length_pos this; exact ⟨b, q ++ i.enc, by simp [It.enc, h]⟩
/-- Items one behind the other, if p takes each of them that is not too deep. -/
theorem itemsP_step {p : List UInt8 → Option (Fo × List UInt8)} {d : Nat} (x : It) (r : Fo) (hp : ∀ r, p (x.enc ++ r) = if x.dep ≤ d then some (x.fo .nil, r) else none) (ih : ∀ n, r.enc.length ≤ n → itemsP p n r.enc = if r.dep ≤ d then some r else none) (n : Nat) (hn : (x.enc ++ r.enc).length ≤ n) :
    itemsP p n (x.enc ++ r.enc) = if max x.dep r.dep ≤ d then some (x.fo r) else none := by
  obtain ⟨b, q, hx⟩ := enc_cons x
  have h1 := hp r.enc
  rw [hx] at h1 hn ⊢
  rcases n with _ | n
  · simp at hn
  · rw [List.cons_append] at h1 ⊢
    simp only [itemsP]
    rw [h1]
    by_cases hd : x.dep ≤ d
    · rw [if_pos hd]
      simp only
      rw [ih n (by simp at hn; omega)]
      by_cases hr : r.dep ≤ d
      · rw [if_pos hr, if_pos (by omega)]
        simp only
        rw [It.fo_app]
      · rw [if_neg hr, if_neg (by omega)]
    · rw [if_neg hd, if_neg (by omega)]
theorem itemsP_fo {d : Nat} (hd : ∀ (x : It) (r : List UInt8), x.enc.length < M64 → itemP d (x.enc ++ r) = if x.dep ≤ d then some (x.fo .nil, r) else none) : ∀ (f : Fo) (n : Nat), f.enc.length < M64 → f.enc.length ≤ n → itemsP (itemP d) n f.enc = if f.dep ≤ d then some f else none := by
  intro f
  induction f with
  | nil => intro n _ _; rw [if_pos (by simp [Fo.dep])]; cases n <;> rfl
  | text s r ih =>
    intro n hm hn
    have e : (Fo.text s r).enc = (It.text s).enc ++ r.enc := rfl
    rw [e] at hm hn ⊢
    rw [List.length_append] at hm
    exact itemsP_step (.text s) r (fun q => hd _ q (by omega)) (fun n hn => ih n (by omega) hn) n hn
  | list i r _ ih =>
    intro n hm hn
    have e : (Fo.list i r).enc = (It.list i).enc ++ r.enc := rfl
    rw [e] at hm hn ⊢
    rw [List.length_append] at hm
    exact itemsP_step (.list i) r (fun q => hd _ q (by omega)) (fun n hn => ih n (by omega) hn) n hn
theorem itemP_it : ∀ (d : Nat) (x : It) (r : List UInt8), x.enc.length < M64 → itemP d (x.enc ++ r) = if x.dep ≤ d then some (x.fo .nil, r) else none := by
  intro d
  induction d with
  | zero => intro x r _; rw [if_neg (by have := x.dep_pos; omega)]; rfl
  | succ d ih =>
    intro x r hx
    change itemS (itemP d) (x.enc ++ r) = _
    cases x with
    | text s => rw [if_pos (by simp [It.dep])]; exact itemS_text _ s r hx
    | list i =>
      have hi : i.enc.length < M64 := by simp only [It.enc, List.length_append] at hx; omega
      rw [itemS_list _ i r hi, itemsP_fo ih i _ hi (Nat.le_refl _)]
      by_cases h : i.dep ≤ d
      · rw [if_pos h, if_pos (by simp only [It.dep]; omega)]; rfl
      · rw [if_neg h, if_neg (by simp only [It.dep]; omega)]
theorem decP_it (x : It) (hx : x.enc.length < M64) : decP x.enc = if x.dep ≤ 65 then some (x.fo .nil) else none := by
  have h := itemP_it 65 x [] hx
  rw [List.append_nil] at h
  unfold decP
  rw [h]
  by_cases hd : x.dep ≤ 65
  · rw [if_pos hd, if_pos hd]
  · rw [if_neg hd, if_neg hd]
theorem decP_more (x : It) (hx : x.enc.length < M64) (b : UInt8) (r : List UInt8) : decP (x.enc ++ b :: r) = none := by
  have h := itemP_it 65 x (b :: r) hx
  unfold decP
  rw [h]
  by_cases hd : x.dep ≤ 65
  · rw [if_pos hd]
  · rw [if_neg hd]
end Go.Proofs.Ytgaaalacoeainaa
