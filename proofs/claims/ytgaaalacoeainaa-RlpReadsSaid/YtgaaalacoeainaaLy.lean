/- What is decoded is encoded as it stood. -/
import Derived.Test.YtgaaalacoeainaaLw
namespace Go.Proofs.Ytgaaalacoeainaa
open Go.RowKit

theorem tk_spec {n : Nat} {s x r : List UInt8} (h : tk n s = some (x, r)) : s = x ++ r ∧ x.length = n := by
  unfold tk at h
  split at h
  · next hn =>
    injection h with h
    injection h with h1 h2
    subst h1 h2
    exact ⟨(List.take_append_drop n s).symm, by simp; omega⟩
  · cases h
theorem bodyP_spec {k a : Nat} {s x r : List UInt8} (h : bodyP a s = some (x, r)) : UInt8.ofNat (k + a) :: s = hd k x.length ++ x ++ r := by
  unfold bodyP at h
  split at h
  · next ha =>
    obtain ⟨h1, h2⟩ := tk_spec h
    rw [h2, hd, if_pos ha, h1]; rfl
  · next ha =>
    split at h
    · cases h
    · next n r0 h0 =>
      split at h
      · next hc =>
        obtain ⟨h1, h2⟩ := tk_spec h0
        obtain ⟨h3, h4⟩ := tk_spec h
        have hs := hc.1
        simp only [smallL, Bool.and_eq_true, decide_eq_true_eq, bne_iff_ne, ne_eq] at hs
        have hv := num_val n (fun b q e hb => hs.2 (by rw [e, hb]; rfl))
        rw [h4, hd, if_neg (by omega), hv, h2, h1, h3, show k + 55 + (a - 55) = k + a by omega]
        simp
      · cases h
theorem itemsP_enc {p : List UInt8 → Option (Fo × List UInt8)} (hp : ∀ s f r, p s = some (f, r) → s = f.enc ++ r) : ∀ (n : Nat) (s : List UInt8) (f : Fo), itemsP p n s = some f → f.enc = s := by
  intro n
  induction n with
  | zero =>
    intro s f h
    cases s with
    | nil => simp only [itemsP] at h; injection h with h; subst h; rfl
    | cons b s => simp only [itemsP] at h; cases h
  | succ n ih =>
    intro s f h
    cases s with
    | nil => simp only [itemsP] at h; injection h with h; subst h; rfl
    | cons b s =>
      simp only [itemsP] at h
      split at h
      · cases h
      · next g r hg =>
        split at h
        · cases h
        · next g2 hg2 =>
          injection h with h
          subst h
          rw [Fo.enc_app, ih _ _ hg2, ← hp _ _ _ hg]
theorem itemP_enc : ∀ (d : Nat) (s : List UInt8) (f : Fo) (r : List UInt8), itemP d s = some (f, r) → s = f.enc ++ r := by
  intro d
  induction d with
  | zero => intro s f r h; cases h
  | succ d ih =>
    intro s f r h
    change itemS (itemP d) s = _ at h
    cases s with
    | nil => cases h
    | cons b s =>
      simp only [itemS] at h
      split at h
      · next hb =>
        injection h with h
        injection h with h1 h2
        subst h1 h2
        simp [Fo.enc, encT, hdT, bareL, hb]
      · next hb =>
        split at h
        · next hb2 =>
          cases hbd : bodyP (b.toNat - 128) s with
          | none => rw [hbd] at h; simp [textS] at h
          | some q =>
            obtain ⟨x, r'⟩ := q
            rw [hbd] at h
            simp only [textS] at h
            split at h
            · cases h
            · next hx =>
              obtain ⟨h1, h2⟩ := Prod.mk.inj (Option.some.inj h)
              subst h1 h2
              have := bodyP_spec (k := 128) hbd
              rw [show 128 + (b.toNat - 128) = b.toNat by omega, UInt8.ofNat_toNat] at this
              rw [this]
              simp [Fo.enc, encT, hdT, hx]
        · next hb2 =>
          cases hbd : bodyP (b.toNat - 192) s with
          | none => rw [hbd] at h; simp [listS] at h
          | some q =>
            obtain ⟨x, r'⟩ := q
            rw [hbd] at h
            simp only [listS] at h
            split at h
            · cases h
            · next g hg =>
              obtain ⟨h1, h2⟩ := Prod.mk.inj (Option.some.inj h)
              subst h1 h2
              have := bodyP_spec (k := 192) hbd
              rw [show 192 + (b.toNat - 192) = b.toNat by omega, UInt8.ofNat_toNat] at this
              have hg' := itemsP_enc ih _ _ _ hg
              rw [this]
              simp [Fo.enc, hg']
theorem decP_enc {s : List UInt8} {f : Fo} (h : decP s = some f) : f.enc = s := by
  unfold decP at h
  split at h
  · next g hg =>
    injection h with h
    subst h
    have := itemP_enc _ _ _ _ hg
    rw [this]; simp
  · cases h
theorem hd_pos (k n : Nat) : 0 < (hd k n).length := by unfold hd; split <;> simp
theorem encT_pos (s : List UInt8) : 0 < (encT s).length := by
  unfold encT hdT
  cases s with
  | nil => have := hd_pos 128 0; simp [bareL]; exact this
  | cons b s => simp; omega
theorem Fo.evs_len (f : Fo) : f.evs.length ≤ 2 * f.enc.length := by
  induction f with
  | nil => simp [Fo.evs]
  | text s r ih => have := encT_pos s; simp [Fo.evs, Fo.enc]; omega
  | list i r ih1 ih2 => have := hd_pos 192 i.enc.length; simp [Fo.evs, Fo.enc]; omega
theorem It.evs_len (x : It) : x.evs.length ≤ 2 * x.enc.length := by
  cases x with
  | text s => have := encT_pos s; simp [It.evs, It.enc]; omega
  | list i => have := hd_pos 192 i.enc.length; have := i.evs_len; simp [It.evs, It.enc]; omega
theorem It.enc_fo' (x : It) : (x.fo .nil).enc = x.enc := by cases x <;> simp [It.fo, It.enc, Fo.enc]
theorem str_eq (a b : List UInt8) : ((str a).toList == (str b).toList) = (a == b) := by
  rw [ByteArray.toList_eq, ByteArray.toList_eq]; simp [str]
end Go.Proofs.Ytgaaalacoeainaa
